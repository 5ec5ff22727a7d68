/- The project's package tiles: Join, Rest, Count. -/
import Derived.Test.YtmfdpaahklndnaaGreatTiQ
namespace Go.Proofs.YtmfdpaahklndnaaGreat
set_option linter.unusedVariables false
set_option maxRecDepth 100000
open Go.RowKit
theorem pair_at {R : Int → Int → Prop} {S : List Int} (h : S.Pairwise R) {k : Nat} (hk : k < S.length) : ∀ p ∈ S.take k, R p (S.getD k 0) := by
  have e := List.take_append_drop k S
  rw [drop_at hk] at e
  rw [← e] at h
  exact fun p hp => (List.pairwise_append.1 h).2.2 p hp _ (by simp)
theorem tiNodes_take {l : Int} {S : List Int} (h : Nodes l S) (k : Nat) : Nodes l (S.take k) := fun t ht => h t (List.mem_of_mem_take ht)
theorem held_perm {l : Int} {S T : List Int} (h : S.Perm T) (x : Int) : Held l S x ↔ Held l T x :=
  ⟨fun ⟨t, ht, g⟩ => ⟨t, h.mem_iff.1 ht, g⟩, fun ⟨t, ht, g⟩ => ⟨t, h.mem_iff.2 ht, g⟩⟩
theorem below_own {B : Nat} {W w w1 : World} {v : Value} {e : TypeId} {T : List Int} (h : Below B W w) (hown : OwnI e w B v T) (hg : w.grownBy w1 v.ownBlock) (hB : B ≤ w.heap.size) : Below B W w1 :=
  h.trans (below_grown hg (fun g e => (World.ownsRow.lt hown g e).1) hB)
def JoinPost (l : Int) (ids : List Int) (w : World) (e : Ending) (w' : World) : Prop := (IsAll l ids ∧ Told l (Held l ids) ids.length w e w') ∨ (NotAll l ids ∧ NoneTold w e w')
set_option maxHeartbeats 1600000 in
theorem tiJoin_any (l : Int) (A : Option Addr) (n c : Nat) (ids : List Int) (w : World) (hA : IntsAt w (.slice A n c) ids) (hB : Bds ids) (hn : n ≤ 100000) (L0 : -9223372036854775808 ≤ l) (L1 : l ≤ 9223372036854775807) :
    Calls Tryz.prog 35 #[.int .i64 l, .slice A n c] w (JoinPost l ids w) := by
  have HL := Lib.hid (ints_cells hA).1
  have HI := Lib.hid (inRow_any l A n c ids w hA hB (by omega) L0 L1)
  have HB := Lib.hid hB
  clear hA hB
  go_enter Tryz.func35, Tryz.ntmps35
  go_wp2_with fail
  refine HI.out.mono ?_
  rintro e w1 (⟨hall, A1, c1, S, rfl, htr, hperm, hpw, hb1⟩ | ⟨hno, rfl, hb1⟩)
  · have HALL := Lib.hid hall
    have HT := Lib.hid htr
    have HP := Lib.hid hperm
    have HW := Lib.hid hpw
    have HN := Lib.hid (show Nodes l S from fun t ht => all_nodes hall HB.out t (hperm.mem_iff.1 ht))
    have hlen : S.length = n := by have := hperm.length_eq; have := HL.out; omega
    rw [hlen]
    have HM := Lib.hid hlen
    have z1 := hb1.size
    clear hall htr hperm hpw hlen HI
    go_wp2_with fail
    go_loopw [8, 9, 22] (fun v x i wr => ∃ (k : Nat) (R : List Int) (nx : Int), k ≤ n ∧ i = .int .i64 k ∧ x = .int .i64 nx ∧ OwnI 3 wr w1.heap.size v R.reverse ∧ JoinInv l (S.take k) R nx ∧ Below w1.heap.size w1 wr) (fun _ _ i _ => n - (intOf i).toNat)
    case atStart => exact ⟨0, [], 0, by omega, rfl, rfl, ownI_nil _ _ _, join_start l, Below.refl ..⟩
    case round =>
      rename_i wr
      obtain ⟨k, R, nx, hk, rfl, rfl, hown, hinv, hb⟩ := hrel
      have hx := join_nx hinv (tiNodes_take HN.out k)
      have INV := Lib.hid hinv
      have hrl : R.length ≤ n := by have := hinv.2.2.1; simp at this; omega
      have OW := Lib.hid hown
      have z2 := hb.size
      obtain ⟨A2, m2, c2, rfl⟩ := own_slice hown
      clear hinv hown
      by_cases hlt : k < n
      · have hk2 : k < S.length := by have := HM.out; omega
        obtain ⟨b, o, rfl, hbl, hcell⟩ := HT.out (by omega)
        obtain ⟨d0, d1, d2⟩ := hcell k hk2
        have e0 := (hb.cell (p := ⟨b, o + k * 3, none⟩) hbl).trans d0
        have e1 := (hb.cell (p := ⟨b, o + k * 3 + 1, none⟩) hbl).trans d1
        have e2 := (hb.cell (p := ⟨b, o + k * 3 + 2, none⟩) hbl).trans d2
        have htk := Lib.hid (take_at hk2)
        have ht : Node l (S.getD k 0) := HN.out _ (getD_mem hk2)
        have hbf := Lib.hid (pair_at HW.out hk2)
        clear hcell d0 d1 d2
        generalize S.getD k 0 = t at *
        have hbd := node_bd ht
        have hid := right_id ht.1 ht.2
        by_cases hz : nx ≤ loN l t
        · have JP := Lib.hid (join_put INV.out (tiNodes_take HN.out k) ht hz)
          go_wp2_with fail
          refine (tiPut_any w1.heap.size _ R t _ (World.ownsRow.alloc OW.out _) (by omega) (by omega) (by omega) (by simp; omega)).mono ?_
          rintro e w3 ⟨v3, rfl, hown3, hg3, hat3⟩
          have O3 := Lib.hid hown3
          have hb3 : Below w1.heap.size w1 w3 := below_own (hb.alloc z2 _) (World.ownsRow.alloc OW.out _) hg3 (by simp; omega)
          have cc : w3.cell? ⟨wr.heap.size, 2, none⟩ = some (.int .i64 (hiN l t)) := (hg3.cell_far ⟨wr.heap.size, 2, none⟩ (by simp) (fun e => by have q := (World.ownsRow.lt OW.out _ e.symm).2; simp at q)).trans (by simp)
          clear e0 e1 e2 hown3 hg3 hat3
          go_wp2_with fail
          go_roundw
          case rel => exact ⟨k + 1, putR R t, _, by omega, by go_num, rfl, O3.out, by rw [htk.out]; exact JP.out, hb3⟩
          case measure => simp [intOf]; omega
        · have hz' : loN l t < nx := by omega
          have JP := Lib.hid (join_skip INV.out (tiNodes_take HN.out k) ht hbf.out hz')
          clear hz
          go_wp2_with fail
          go_roundw
          case rel => exact ⟨k + 1, R, _, by omega, by go_num, rfl, World.ownsRow.alloc OW.out _, by rw [htk.out]; exact JP.out, hb.alloc z2 _⟩
          case measure => simp [intOf]; omega
      · have hd : Hid (S.take k = S) := List.take_of_length_le (by have := HM.out; omega)
        go_wp2_with fail
        refine (cut_any _ _ _ _ OW.out).mono ?_
        rintro e w3 ⟨A3, c3, rfl, hints, rfl⟩
        have HI3 := Lib.hid hints
        clear hints
        generalize hn3 : R.reverse.length = n3 at *
        have HN3 := Lib.hid hn3
        clear hn3
        go_wp2_with fail
        go_ret2
        have q := INV.out
        rw [hd] at q
        obtain ⟨j1, j2, j3, j4, j5⟩ := q
        refine .inl ⟨HALL.out, A3, c3, R.reverse, by rw [HN3.out]; rfl, by rw [HN3.out]; exact HI3.out, stack_good j1, fun x => ?_, by simp; have := HL.out; omega, hb1.trans (hb.mono z1)⟩
        rw [held_rev, j2, held_perm HP.out]
  · have HNO := Lib.hid hno
    clear hno HI
    go_wp2_with fail
    go_ret2
    exact .inr ⟨HNO.out, rfl, hb1⟩
end Go.Proofs.YtmfdpaahklndnaaGreat
