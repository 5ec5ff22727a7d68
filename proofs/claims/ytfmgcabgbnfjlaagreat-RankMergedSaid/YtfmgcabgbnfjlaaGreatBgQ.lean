/- Texts laid together: Bg, Bg2, Bg3, Bg4. -/
import Derived.Test.YtfmgcabgbnfjlaaGreatBgMem
import Derived.Test.YtfmgcabgbnfjlaaGreatRdSl
import Derived.Test.YtfmgcabgbnfjlaaGreatTw
import Derived.Test.YtfmgcabgbnfjlaaGreatHeld
import Derived.Test.YtfmgcabgbnfjlaaGreatPoQ
import Derived.Test.YtfmgcabgbnfjlaaGreatCopy2
/- The project's package bag: New, what is told of a bag and of nil; where a value belongs. -/
namespace Go.Proofs.YtfmgcabgbnfjlaaGreat
set_option linter.unusedVariables false
open Go.RowKit
attribute [local go_sem ↓] Go.wp_at_zero Go.wp_at_succ

set_option maxHeartbeats 1600000 in
/-- what sort.Search finds: the place from which on it is so -/
theorem search_any (F : Nat) (caps : Array Value) (n T : Nat) (hT : T ≤ n) (hn : n ≤ 1000000) (w : World) (eg : ∀ args w, (callFunc F args).run Tryz.prog w = .ok (.enter F args) w)
    (hf : ∀ (m k : Nat), k < n → Calls Tryz.prog F (#[.int .i64 (k : Int)] ++ caps) (w.drewN m) fun e w' => e = .returned (.bool (decide (T ≤ k))) ∧ ∃ q, w' = w.drewN q) :
    Calls Tryz.prog 52 #[.int .i64 (n : Int), .func (.func F) #[] caps] w fun e w' => e = .returned (.int .i64 (T : Int)) ∧ ∃ q, w' = w.drewN q := by
  have HF := Lib.hid hf
  clear hf
  go_enter Tryz.func52, Tryz.ntmps52
  go_wp2_with fail
  go_loopw [5, 6] (fun s5 s6 wr => ∃ (lo hi q : Nat), s5 = .int .i64 (lo : Int) ∧ s6 = .int .i64 (hi : Int) ∧ lo ≤ T ∧ T ≤ hi ∧ hi ≤ n ∧ wr = w.drewN q) (fun s5 s6 _ => (intOf s6).toNat - (intOf s5).toNat)
  case atStart => exact ⟨0, n, 0, rfl, rfl, Nat.zero_le _, hT, Nat.le_refl _, rfl⟩
  case round =>
    obtain ⟨lo, hi, q, rfl, rfl, h1, h2, h3, rfl⟩ := hrel
    by_cases hlt : lo < hi
    · have hc := HF.out q ((lo + hi) / 2) (by omega)
      rw [show (((lo + hi) / 2 : Nat) : Int) = ((lo : Int) + (hi : Int)) / 2 by omega] at hc
      by_cases hp : T ≤ (lo + hi) / 2
      · rw [decide_eq_true hp] at hc
        go_wp2_with (go_at_fn F; refine hc.mono ?_; rintro e w' ⟨rfl, q2, rfl⟩)
        go_roundw
        case rel => exact ⟨lo, (lo + hi) / 2, q2, rfl, by go_num, h1, hp, by omega, rfl⟩
        case measure => simp [intOf]; omega
      · rw [decide_eq_false hp] at hc
        go_wp2_with (go_at_fn F; refine hc.mono ?_; rintro e w' ⟨rfl, q2, rfl⟩)
        go_roundw
        case rel => exact ⟨(lo + hi) / 2 + 1, hi, q2, by go_num, rfl, by omega, h2, h3, rfl⟩
        case measure => simp [intOf]; omega
    · obtain rfl : lo = T := by omega
      go_wp2_with fail
      go_ret
      exact ⟨rfl, q, rfl⟩

end Go.Proofs.YtfmgcabgbnfjlaaGreat

/- The project's package bag: where a value belongs, what items weigh; Rank, Between, Kth, Ends, Items. -/
namespace Go.Proofs.YtfmgcabgbnfjlaaGreat
set_option linter.unusedVariables false
set_option maxRecDepth 100000
open Go.RowKit
attribute [local go_sem ↓] Go.wp_at_zero Go.wp_at_succ

theorem nodes_take {w : World} {A : Option Addr} {n c k : Nat} {L : List Nd} (h : NodesAt w (.slice A n c) L) (hk : k ≤ n) : NodesAt w (.slice A k c) (L.take k) := by
  obtain ⟨h1, h2, h3, h4⟩ := nodes_cells h
  refine ⟨A, c, by rw [List.length_take]; congr 1; omega, by rw [List.length_take]; omega, h3, fun e => ?_, NdAt.take h4⟩
  subst e
  exact (nodes_none h).2.1
def advO : Option Addr → Nat → Nat → Nat → Option Addr
  | none, _, _, _ => none
  | some a, c, k, s => some (advA a c k s)
theorem nodes_mid {w : World} {A : Option Addr} {n c j k : Nat} {L : List Nd} (h : NodesAt w (.slice A n c) L) (hj : j ≤ k) (hk : k ≤ n) : NodesAt w (.slice (advO A c j 2) (k - j) (c - j)) ((L.take k).drop j) := by
  obtain ⟨h1, h2, h3, h4⟩ := nodes_cells h
  refine ⟨_, _, by rw [List.length_drop, List.length_take]; congr 1; omega, by rw [List.length_drop, List.length_take]; omega, by omega, fun e => ?_, ?_⟩
  · cases A with
    | none => have := (nodes_none h).2.1; omega
    | some a => simp [advO] at e
  · cases A with
    | none =>
      have := (nodes_none h).1
      intro h0
      rw [List.length_drop, List.length_take] at h0; omega
    | some a => exact NdAt.adv (NdAt.take h4) (by rw [List.length_take]; omega)
section
variable {P : Program}
theorem sl_mid {t e : TypeId} {i : TypeInfo} (ht : P.underlying t = some (.slice e)) (hi : P.info? e = some i) {s : Nat} (hs : i.size = s) (A : Option Addr) (n c j k : Nat) (hj : j ≤ k) (hk : k ≤ c) (w : World) :
    (Instr.slice t (.slice A n c) (some (.int .i64 (j : Int))) (some (.int .i64 (k : Int))) none).run P w = .ok (.slice (advO A c j s) (k - j) (c - j)) w := by
  have he : P.elem t = e := by unfold Program.elem; rw [ht]
  have ht' : P.underlying t = some (.slice (P.elem t)) := by rw [he]; exact ht
  rw [run_slice_lh w t A n c ht' .i64 .i64 (j : Int) (k : Int) (by omega) (by omega) (by omega), he]
  have hz : (sizeOf e).run P w = .ok s w := by
    have hc : P.cellsOf e = s := by simp [Program.cellsOf, hi, hs]
    simp [run_sizeOf, hi, hc]
  rw [hz]
  simp only [Result.andThen_ok, sliced, Int.toNat_natCast]
  cases A with
  | none => simp [advO]
  | some a =>
    simp only [advO, advA, Option.map]
    split <;> rfl
end
end Go.Proofs.YtfmgcabgbnfjlaaGreat

/- The project's package bag: Rank, Between, Kth, Ends, Items. -/
namespace Go.Proofs.YtfmgcabgbnfjlaaGreat
set_option linter.unusedVariables false
set_option maxRecDepth 100000
open Go.RowKit
attribute [local go_sem ↓] Go.wp_at_zero Go.wp_at_succ

end Go.Proofs.YtfmgcabgbnfjlaaGreat

/- The project's package bag: Items, Kth. -/
namespace Go.Proofs.YtfmgcabgbnfjlaaGreat
set_option linter.unusedVariables false
set_option maxRecDepth 100000
open Go.RowKit
attribute [local go_sem ↓] Go.wp_at_zero Go.wp_at_succ

theorem make_full {P : Program} {t e : TypeId} {i : TypeInfo} {z : Value} (ht : P.underlying t = some (.slice e)) (hi : P.info? e = some i) (hz : i.zero = some z) {size bytes : Nat} (hs : i.size = size) (hb : i.bytes = bytes)
    (n k : Nat) (hk : n * size = k) (hbytes : bytes * n ≤ 281474976710656) (h63 : n ≤ 9223372036854775807) (w : World) :
    (Instr.makeSlice t (.int .i64 (n : Int)) (.int .i64 (n : Int))).run P w = .ok (.slice (some ⟨w.heap.size, 0, none⟩) n n) (w.alloc (.cells (blank z k) e)) := by
  subst hk
  have hbi : (i.bytes : Int) * (n : Int) ≤ 281474976710656 := by
    have h : ((bytes * n : Nat) : Int) ≤ 281474976710656 := by omega
    rw [hb]; rwa [Int.natCast_mul] at h
  have h := run_make (P := P) w t e i z ht hi hz .i64 .i64 n n (by omega) (Int.le_refl _) hbi (by omega)
  simp only [Int.toNat_natCast, hs] at h
  exact h
theorem own_of_heapB {w : World} {B h N : Nat} {TN : TypeId} {ys : List Value} (hb : B ≤ h) (hN : N ≤ maxLen) (hl : ys.length = N * 2) (hg : w.heap[h]? = some (.cells ys.toArray TN (0, 0))) : w.ownsRow B TN 2 (.slice (some ⟨h, 0, none⟩) N N) N ys :=
  ⟨hl, .inr ⟨h, N, ys.toArray, rfl, hb, hg, Nat.le_refl _, hN, by simp; omega, by simp [← hl]⟩⟩
end Go.Proofs.YtfmgcabgbnfjlaaGreat
