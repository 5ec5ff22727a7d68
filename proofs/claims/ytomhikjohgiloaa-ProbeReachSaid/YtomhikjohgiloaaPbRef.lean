/- The document's answers of package dewpondref08: Home, find, way, Get, Walk. -/
import Derived.Test.YtomhikjohgiloaaPb2
import Derived.Test.YtomhikjohgiloaaTwRef
import Derived.Test.YtomhikjohgiloaaRoRef3
namespace Go.Proofs.Ytomhikjohgiloaa
set_option linter.unusedVariables false
set_option maxRecDepth 100000
open Go.RowKit

theorem half_step (X j : Nat) : X / 2 ^ j / 2 = X / 2 ^ (j + 1) := by rw [Nat.div_div_eq_div_mul, Nat.pow_succ]
theorem half_lt {X : Nat} (h : X < 18446744073709551616) (j : Nat) : X / 2 ^ j < 18446744073709551616 := Nat.lt_of_le_of_lt (Nat.div_le_self _ _) h
theorem home_is (b k : Nat) : homeN b (k : Int) = k * 11400714819323198485 % 18446744073709551616 / 2 ^ (64 - b) := by unfold homeN; rw [Int.toNat_natCast]
set_option maxHeartbeats 800000 in
theorem rHome_any (b id : Int) (w : World) (B0 : -9223372036854775808 ≤ b) (B1 : b ≤ 9223372036854775807) (A0 : -9223372036854775808 ≤ id) (A1 : id ≤ 9223372036854775807) :
    Calls Try.prog 15 #[.int .i64 b, .int .i64 id] w fun e w' => e = .returned (.int .i64 (homeV b id)) ∧ w = w' := by
  by_cases h : b < 1 ∨ 62 < b ∨ id < 1
  · have H := Lib.hid (homeV_no h)
    rcases (show b < 1 ∨ (1 ≤ b ∧ 62 < b) ∨ (1 ≤ b ∧ b ≤ 62 ∧ id < 1) by omega) with q | ⟨q1, q2⟩ | ⟨q1, q2, q3⟩
    all_goals
      clear h
      go_enter Try.func15, Try.ntmps15
      go_wp2_with fail
      go_ret
      exact ⟨ret_i (by rw [H.out]), rfl⟩
  · have h1 : 1 ≤ b := by omega
    have h2 : b ≤ 62 := by omega
    have h3 : 1 ≤ id := by omega
    have H := Lib.hid (homeV_yes h1 h2 h3)
    obtain ⟨k, rfl⟩ := Int.eq_ofNat_of_zero_le (show 0 ≤ b by omega)
    obtain ⟨i, rfl⟩ := Int.eq_ofNat_of_zero_le (show 0 ≤ id by omega)
    have MX := mix_word (k := i) (by omega)
    have HI := Lib.hid (home_is k i)
    have XL : i * 11400714819323198485 % 18446744073709551616 < 18446744073709551616 := Nat.mod_lt _ (by decide)
    obtain ⟨X, hX⟩ : ∃ X, X = i * 11400714819323198485 % 18446744073709551616 := ⟨_, rfl⟩
    rw [← hX] at MX HI XL
    have HL := Lib.hid (fun j => half_lt XL j)
    have HS := Lib.hid (half_step X)
    clear h hX
    go_enter Try.func15, Try.ntmps15
    go_wp2_with fail
    go_loopw [5, 6] (fun hv iv wr => ∃ j : Nat, k + j ≤ 64 ∧ hv = .int .u64 (X / 2 ^ j : Nat) ∧ iv = .int .i64 ((k : Int) + (j : Int)) ∧ wr = w) (fun _ iv _ => (64 - intOf iv).toNat)
    case atStart => exact ⟨0, by omega, by simp, by simp, rfl⟩
    case round =>
      rename_i wr
      obtain ⟨j, hj, rfl, rfl, rfl⟩ := hrel
      by_cases hlt : k + j < 64
      · have hl := HL.out j
        have S1 := Lib.hid (HS.out j)
        obtain ⟨y, hy⟩ : ∃ y, y = X / 2 ^ j := ⟨_, rfl⟩
        rw [← hy] at hl S1 ⊢
        clear hy
        go_wp2_with fail
        go_roundw
        case rel => exact ⟨j + 1, by omega, by rw [← S1.out]; go_num, by go_num, by trivial⟩
        case measure => simp [intOf]; omega
      · have hj2 : j = 64 - k := by omega
        have hh := home_lt (b := k) (by omega) (i : Int)
        have hp : 2 ^ k ≤ 2 ^ 62 := Nat.pow_le_pow_right (by omega) (by omega)
        have hq : (2 : Nat) ^ 62 = 4611686018427387904 := by decide
        have S1 := HI.out
        rw [← hj2] at S1
        obtain ⟨y, hy⟩ : ∃ y, y = X / 2 ^ j := ⟨_, rfl⟩
        rw [← hy] at S1 ⊢
        have hyl : y < 4611686018427387904 := by omega
        have S2 := Lib.hid S1
        clear hy hp hq hh S1 hj2
        go_wp2_with fail
        go_ret
        exact ⟨ret_i (by rw [H.out, Int.toNat_natCast, S2.out]), rfl⟩

/-- a table that the document's answer has: a row of slots that came in, or was made -/
def RtAt (w : World) (v : Value) (b : Nat) (S : List Nd) : Prop := OwnNd 42 w 0 v S ∧ S.length = 2 ^ b
theorem rt_form {w : World} {v : Value} {b : Nat} {S : List Nd} (h : RtAt w v b S) : ∃ g c, v = .slice (some ⟨g, 0, none⟩) (2 ^ b) c ∧ g < w.heap.size ∧ 2 ^ b ≤ c ∧ c ≤ maxLen ∧ ∀ k, k < 2 ^ b → w.cell? ⟨g, k * 2, none⟩ = some (.int .i64 (tAt S k).1) ∧ w.cell? ⟨g, k * 2 + 1, none⟩ = some (.int .i64 (tAt S k).2) := by
  have hp := Nat.two_pow_pos b
  rcases ownNd_form h.1 with ⟨_, rfl⟩ | ⟨g, cap, rfl, hb, hg, hn, hc, hi⟩
  · have := h.2; simp only [List.length_nil] at this; omega
  · rw [h.2] at hn
    refine ⟨g, cap, by rw [h.2], hg, hn, hc, fun k hk => ?_⟩
    have q := hi.2 k (by rw [h.2]; exact hk)
    rw [Nat.zero_add] at q
    exact q
set_option maxHeartbeats 1600000 in
theorem rFind_core (w : World) (l : Int) (g c b N : Nat) (S : List Nd) (id : Int) (k hm p : Nat) (HN : Hid (2 ^ b = N)) (hg : g < w.heap.size) (SL : Hid (∀ i, i < N → w.cell? ⟨g, i * 2, none⟩ = some (.int .i64 (tAt S i).1) ∧ w.cell? ⟨g, i * 2 + 1, none⟩ = some (.int .i64 (tAt S i).2)))
    (SP : Hid (∀ i, tAt S i = nz ∨ (1 ≤ (tAt S i).1 ∧ 1 ≤ (tAt S i).2))) (hb1 : 1 ≤ b) (hb : b ≤ 40) (h1 : 1 ≤ id) (A1 : id ≤ 9223372036854775807) (HV : Hid (homeV (b : Int) id = (hm : Nat))) (hh : hm < N) (E : Hid (Ends S id N hm k)) (HP : Hid (tAv N hm k = p)) :
    Calls Try.prog 61 #[.agg #[.int .i64 l, .int .i64 (b : Int), .slice (some ⟨g, 0, none⟩) N c], .int .i64 id] w fun e w' => e = .returned (.tuple #[.int .i64 (p : Int), .int .i64 ((k : Int) + 1)]) ∧ Below w.heap.size w w' := by
  have hp := pow_40 hb
  have kl := E.out.lt
  rw [HN.out] at hp
  have MD : Hid (∀ a : Nat, a < N → ((a : Int) + 1) % (N : Int) = (tNx N a : Nat)) := fun a ha => by
    have nx := nx_is ha
    rcases nx.2 with q | ⟨q, q2⟩
    · rw [q, Int.emod_eq_of_lt (by omega) (by omega)]; omega
    · rw [q, show (a : Int) + 1 = (N : Int) by omega, Int.emod_self]; rfl
  have HB0 := Lib.hid (below_one w (.cells #[.int .i64 l, .int .i64 (b : Int), .slice (some ⟨g, 0, none⟩) N c] 33))
  go_enter Try.func61, Try.ntmps61
  go_wp2_with (go_at_call 15; refine (rHome_any _ _ _ (by omega) (by omega) (by omega) A1).mono ?_; rw [HV.out]; rintro e w1 ⟨rfl, rfl⟩)
  go_loopw [6, 7] (fun av cv wr => ∃ j : Nat, j ≤ k ∧ av = .int .i64 (tAv N hm j : Nat) ∧ cv = .int .i64 ((j : Int) + 1) ∧ wr = w.alloc (.cells #[.int .i64 l, .int .i64 (b : Int), .slice (some ⟨g, 0, none⟩) N c] 33)) (fun _ cv _ => k + 2 - (intOf cv).toNat)
  case atStart => exact ⟨0, by omega, by rw [av_zero hh], rfl, rfl⟩
  case round =>
    rename_i wr
    obtain ⟨j, hj, rfl, rfl, rfl⟩ := hrel
    have ha := (av_is hh (show j < N by omega)).1
    obtain ⟨e0, e1⟩ := SL.out _ ha
    have sp := SP.out (tAv N hm j)
    by_cases hjk : j < k
    · obtain ⟨s1, s2⟩ := E.out.go j hjk
      have nx := av_next hh (show j + 1 < N by omega)
      have hx2 : 0 < (tAt S (tAv N hm j)).2 := by
        rcases sp with q | q
        · rw [q] at s2; exact absurd rfl s2
        · omega
      obtain ⟨a, hA⟩ : ∃ a, a = tAv N hm j := ⟨_, rfl⟩
      rw [← hA] at ha e0 e1 s1 s2 nx hx2 ⊢
      have MD2 := Lib.hid (MD.out a ha)
      have NX := Lib.hid nx
      obtain ⟨⟨x1, x2⟩, hx⟩ : ∃ x, x = tAt S a := ⟨_, rfl⟩
      rw [← hx] at e0 e1 s1 s2 hx2
      simp only at e0 e1 s1 s2 hx2
      have hx1 : (x1 != id) = true := by simpa using s1
      have hN : (N : Int) ≠ 0 := by omega
      clear hA sp hx nx s1 s2
      go_wp2_with fail
      go_roundw
      case rel => exact ⟨j + 1, by omega, by rw [← NX.out, ← MD2.out], by go_num, by trivial⟩
      case measure => simp [intOf]; omega
    · have hjk2 : j = k := by omega
      subst hjk2
      have st := E.out.stop
      rw [HP.out] at st ha e0 e1 sp ⊢
      obtain ⟨⟨x1, x2⟩, hx⟩ : ∃ x, x = tAt S p := ⟨_, rfl⟩
      rw [← hx] at e0 e1 st sp
      simp only [nz, Prod.mk.injEq] at e0 e1 st sp
      clear hx
      by_cases q : x1 = id
      · subst q
        have hx2 : 0 < x2 := by omega
        clear st sp
        go_wp2_with fail
        go_ret2
        exact ⟨rfl, HB0.out⟩
      · have q2 : x2 = 0 := by omega
        subst q2
        clear st sp
        go_wp2_with fail
        go_ret2
        exact ⟨rfl, HB0.out⟩

end Go.Proofs.Ytomhikjohgiloaa
