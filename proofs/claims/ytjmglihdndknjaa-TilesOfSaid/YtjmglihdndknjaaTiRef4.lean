/- The document's answers of package dewpondref05: the tiles of runs. -/
import Derived.Test.YtjmglihdndknjaaTiRef3
import Derived.Deep.RegionHeld3
namespace Go.Proofs.Ytjmglihdndknjaa
set_option linter.unusedVariables false
open Go.RowKit

theorem keep_two {W a b : World} {p q : Addr} {x y : Value} (h : a.cell? p = some x ∧ a.cell? q = some y ∧ Below W.heap.size W a) (hb : Below a.heap.size a b) (hp : p.block < W.heap.size) (hq : q.block < W.heap.size) :
    b.cell? p = some x ∧ b.cell? q = some y ∧ Below W.heap.size W b := by
  obtain ⟨h1, h2, h3⟩ := h
  have hz := h3.size
  exact ⟨(hb.cell (by omega)).trans h1, (hb.cell (by omega)).trans h2, h3.trans (hb.mono hz)⟩
def LayRPost (l : Int) (P : List Rn) (w : World) (e : Ending) (w' : World) : Prop :=
  ∃ A c T, e = .returned (.slice A (List.length T) c) ∧ IntsAt w' (.slice A T.length c) T ∧ LaidR l P T ∧ Below w.heap.size w w'
theorem ints_get {w : World} {b o m c : Nat} {T : List Int} (h : IntsAt w (.slice (some ⟨b, o, none⟩) m c) T) : ∀ j u, (ints T)[j]? = some u → w.cell? ((⟨b, o, none⟩ : Addr).add j) = some u := fun j u hj => by
  have hl : j < T.length := by
    rcases Nat.lt_or_ge j T.length with q | q
    · exact q
    · rw [List.getElem?_eq_none (by rw [ints_len]; exact q)] at hj; cases hj
  obtain ⟨b', o', e, _, hc⟩ := (ints_cells h).2 (by omega)
  injection e with e
  injection e with e1 e2
  subst e1 e2
  have ha : (⟨b, o, none⟩ : Addr).add j = ⟨b, o + j, none⟩ := by unfold Addr.add; split <;> simp_all
  rw [ha, hc j hl]
  simp [ints, List.getElem?_eq_getElem hl] at hj
  simp [List.getD_eq_getElem?_getD, List.getElem?_eq_getElem hl, hj]
theorem ints_one (T : List Int) : ∀ u ∈ ints T, u.oneCell' = true := fun u hu => by
  unfold ints at hu
  obtain ⟨x, _, rfl⟩ := List.mem_map.1 hu
  rfl
theorem ownI_join {e : TypeId} {w : World} {B : Nat} {v : Value} {T U : List Int} (h : w.ownsRow B e 1 v (T.length + U.length) (ints T ++ ints U)) : OwnI e w B v (T ++ U) := by
  unfold OwnI
  rw [ints_app, List.length_append]
  exact h
set_option maxHeartbeats 1600000 in
theorem r5lay_any (l : Int) (A : Option Addr) (n c : Nat) (L : List Rn) (w : World) (hA : RunsAt w (.slice A n c) L) (hR : Runs (2 ^ l.toNat) L) (hn : n ≤ 10000) (hl : 1 ≤ l ∧ l ≤ 48) :
    Calls Try.prog 34 #[.int .i64 l, .slice A n c] w (LayRPost l L w) := by
  obtain ⟨i0, hi, hz0, hz1, hz2⟩ := info_parts int_info
  have HL := Lib.hid (runs_cells hA).1
  have HC := Lib.hid (runs_cells hA).2
  have HR := Lib.hid hR
  have hb48 : (2 : Int) ^ l.toNat ≤ 281474976710656 := two_le l.toNat 48 (by omega)
  clear hA hR
  go_enter Try.func34, Try.ntmps34
  go_wp2_with fail
  go_loopw [5, 6] (fun v i wr => ∃ (k : Nat) (T : List Int), k ≤ n ∧ i = .int .i64 k ∧ OwnI 3 wr w.heap.size v T ∧ LaidR l (L.take k) T ∧ Below w.heap.size w wr) (fun _ i _ => n - (intOf i).toNat)
  case atStart => exact ⟨0, [], by omega, rfl, ownI_nil _ _ _, laidR_start l, Below.refl ..⟩
  case round =>
    rename_i wr
    obtain ⟨k, T, hk, rfl, hown, hlaid, hb⟩ := hrel
    have HLD := Lib.hid hlaid
    have OW := Lib.hid hown
    have zs := hb.size
    have htl : T.length ≤ 960000 := by have := hlaid.2.2; simp at this; omega
    obtain ⟨A2, m2, c2, rfl⟩ := own_slice hown
    clear hlaid hown
    by_cases hlt : k < n
    · have hk2 : k < L.length := by have := HL.out; omega
      obtain ⟨b, o, rfl, hbl, hcell⟩ := HC.out (by omega)
      have e0 : wr.cell? ⟨b, o + k * 2, none⟩ = some (.int .i64 (L.getD k rz).1) := (hb.cell (p := ⟨b, o + k * 2, none⟩) hbl).trans (hcell k hk2).1
      have e1 : wr.cell? ⟨b, o + k * 2 + 1, none⟩ = some (.int .i64 (L.getD k rz).2) := (hb.cell (p := ⟨b, o + k * 2 + 1, none⟩) hbl).trans (hcell k hk2).2
      have htk := Lib.hid (take_atr hk2)
      have hrr := HR.out.1 _ (getDr_mem hk2)
      have hgp := Lib.hid (gap_at HR.out.2 hk2)
      clear hcell
      generalize L.getD k rz = r at *
      obtain ⟨rl, rh⟩ := r
      simp only at e0 e1 hrr
      obtain ⟨r0, r1, r2⟩ := hrr
      have hof := Lib.hid (fun w => r5of_yes l rl rh w ⟨⟨hl.1, hl.2, by omega, by omega⟩, ⟨hl.1, hl.2, by omega, by omega⟩, r1⟩)
      have hbw0 : b < wr.heap.size := by omega
      go_wp2_with fail
      go_region_held3 (fun w' => w'.cell? ⟨b, o + k * 2, none⟩ = some (.int .i64 rl) ∧ w'.cell? ⟨b, o + k * 2 + 1, none⟩ = some (.int .i64 rh) ∧ Below wr.heap.size wr w')
        (first | (exact keep_two (by assumption) (by assumption) (by dsimp only; omega) (by dsimp only; omega)) | (exact ⟨e0, e1, below_drew _⟩))
        (first | (go_at_call 9; refine (hof.out _).mono ?_; rintro e w1 ⟨A3, c3, U, rfl, hints, hgood, hheld, hlen, hbel⟩))
      clear e0 e1
      have hU : 0 < U.length := by
        cases U with
        | nil => exact absurd ((hheld rl).2 ⟨Int.le_refl _, r1⟩) (held_nil l rl)
        | cons u U => simp
      obtain ⟨b3, o3, rfl, _, _⟩ := (ints_cells hints).2 hU
      have HI3 := Lib.hid (ints_get hints)
      have hU96 : U.length ≤ 96 := by omega
      have LS := Lib.hid (laidR_step HLD.out hgp.out hgood hheld hU96)
      have hbw : Below w.heap.size w w1 := hb.trans ((⟨hbel.os, hbel.tape, hbel.output, hbel.size, fun k hk => hbel.block k hk⟩ : Below wr.heap.size wr w1).mono zs)
      have OW1 := Lib.hid (own_below OW.out (⟨hbel.os, hbel.tape, hbel.output, hbel.size, fun k hk => hbel.block k hk⟩ : Below wr.heap.size wr w1))
      have z1 := hbw.size
      generalize hu : U.length = ul at *
      have HUL := Lib.hid hu
      clear hints hgood hheld hlen hbel hu hof
      go_wp2_with (at_builtin; refine wpList_append_own _ rfl _ _ 22 rfl w.heap.size 3 i0 (.int .i64 0) 1 8 Try.underlying22 hi hz0 hz1 hz2 rfl (by decide) (.slice A2 m2 c2) T.length (ints T) rfl OW1.out ⟨b3, o3, none⟩ ul c3 (ints U) rfl (by rw [ints_len, HUL.out]; omega) HI3.out (ints_one U) (by unfold maxLen; omega) (by omega) (by omega) ?_)
      intro v' w2 hown2 hgrow _
      have hb2 : Below w.heap.size w w2 := hbw.grown hgrow (by omega) (fun g hg => (World.ownsRow.lt OW1.out g hg).1)
      have O2 := Lib.hid (ownI_join (T := T) (U := U) (by rw [HUL.out]; exact hown2))
      clear hown2 hgrow
      go_wp2_with fail
      go_roundw
      case rel => exact ⟨k + 1, T ++ U, by omega, by go_num, O2.out, by rw [htk.out]; exact LS.out, hb2⟩
      case measure => simp [intOf]; omega
    · have hd : Hid (L.take k = L) := List.take_of_length_le (by have := HL.out; omega)
      have hints := ownI_ints OW.out
      have HI := Lib.hid hints
      have hm : m2 = T.length := (ints_cells hints).1
      have HM := Lib.hid hm
      clear hints hm
      go_wp2_with fail
      go_ret
      have q := HLD.out
      rw [hd] at q
      exact ⟨A2, c2, T, by rw [← HM.out]; rfl, by rw [← HM.out]; exact HI.out, q, hb⟩

end Go.Proofs.Ytjmglihdndknjaa
