/- The project's package tiles: Rest, Count. -/
import Derived.Test.YtmfdpaahklndnaaGreatTi6
namespace Go.Proofs.YtmfdpaahklndnaaGreat
set_option linter.unusedVariables false
set_option maxRecDepth 100000
open Go.RowKit
theorem lay_any (B : Nat) (l a b : Int) (v : Value) (R : List Int) (w : World) (hown : OwnI 3 w B v R.reverse) (hs : Stack l R) (h : a ≤ b → ValC l a ∧ ValC l b) (hR : ∀ t ∈ R, hiN l t < a) (hl : R.length ≤ 900000) (hB : B ≤ w.heap.size) :
    Calls Tryz.prog 42 #[v, .int .i64 l, .int .i64 a, .int .i64 b] w (LayPost B l a b w v R) := by
  by_cases hab : a ≤ b
  · exact lay_some B l a b v R w hown hs hab (h hab).1 (h hab).2 hR hl hB
  · exact lay_none B l a b v R w hown hs (by omega)
def RestTold (l : Int) (ids : List Int) (w : World) (e : Ending) (w' : World) : Prop :=
  ∃ A c T, e = .returned (.tuple #[.slice A (List.length T) c, .bool true]) ∧ IntsAt w' (.slice A T.length c) T ∧ TiGood l T ∧ (∀ x, Held l T x ↔ (0 ≤ x ∧ x < 2 ^ l.toNat) ∧ ¬ Held l ids x) ∧ T.length ≤ ids.length * 96 + 96 ∧
    (∃ J, TiGood l J ∧ (∀ x, Held l J x ↔ Held l ids x) ∧ tot l T + tot l J = 2 ^ l.toNat) ∧ Below w.heap.size w w'
def RestPost (l : Int) (ids : List Int) (w : World) (e : Ending) (w' : World) : Prop := (IsAll l ids ∧ RestTold l ids w e w') ∨ (NotAll l ids ∧ NoneTold w e w')
theorem rest_val {l : Int} {P R : List Int} {nx t : Int} (h : RestInv l P R nx) (hP : Nodes l P) (ht : Node l t) (g : nx ≤ loN l t - 1) : ValC l nx ∧ ValC l (loN l t - 1) := by
  have := rest_nx h hP
  have := node_bd ht
  exact ⟨⟨ht.1.1, ht.1.2.1, by omega, by omega⟩, ⟨ht.1.1, ht.1.2.1, by omega, by omega⟩⟩
set_option maxHeartbeats 1600000 in
theorem rest_any (l : Int) (A : Option Addr) (n c : Nat) (ids : List Int) (w : World) (hA : IntsAt w (.slice A n c) ids) (hB : Bds ids) (hn : n ≤ 9000) (L0 : -9223372036854775808 ≤ l) (L1 : l ≤ 9223372036854775807) :
    Calls Tryz.prog 19 #[.int .i64 l, .slice A n c] w (RestPost l ids w) := by
  have HL := Lib.hid (ints_cells hA).1
  have HI := Lib.hid (tiJoin_any l A n c ids w hA hB (by omega) L0 L1)
  have HB := Lib.hid hB
  clear hA hB
  go_enter Tryz.func19, Tryz.ntmps19
  go_wp2_with fail
  refine HI.out.mono ?_
  rintro e w1 (⟨hall, A1, c1, S, rfl, hints, hgood, hheld, hlen, hb1⟩ | ⟨hno, rfl, hb1⟩)
  · have HALL := Lib.hid hall
    have HG := Lib.hid hgood
    have HH := Lib.hid hheld
    have HC := Lib.hid (ints_cells hints).2
    have hl48 : 1 ≤ l ∧ l ≤ 48 := by have := hall.1; unfold uniB at this; simpa using this
    have hm9 : S.length ≤ 9000 := by have := HL.out; omega
    have hle := Lib.hid hlen
    have z1 := hb1.size
    obtain ⟨tn, t1, t2⟩ := top_node hl48
    have T1 := Lib.hid t1
    have T2 := Lib.hid t2
    have hb1' := node_bd tn
    have he1 := (end_yes tn.1).2.2
    clear hall hgood hheld hlen HI hints t1 t2
    generalize hm : S.length = m at *
    have HM := Lib.hid hm
    clear hm
    go_wp2_with fail
    go_loopw [8, 9, 28] (fun v x i wr => ∃ (k : Nat) (R : List Int) (nx : Int), k ≤ m ∧ i = .int .i64 k ∧ x = .int .i64 nx ∧ OwnI 3 wr w1.heap.size v R.reverse ∧ RestInv l (S.take k) R nx ∧ Below w1.heap.size w1 wr) (fun _ _ i _ => m - (intOf i).toNat)
    case atStart => exact ⟨0, [], 0, by omega, rfl, rfl, ownI_nil _ _ _, rest_start l, Below.refl ..⟩
    case round =>
      rename_i wr
      obtain ⟨k, R, nx, hk, rfl, rfl, hown, hinv, hb⟩ := hrel
      have hx := rest_nx hinv (tiNodes_take HG.out.1 k)
      have b48 : (2 : Int) ^ l.toNat ≤ 281474976710656 := two_le l.toNat 48 (by omega)
      have INV := Lib.hid hinv
      have hrl : R.length ≤ 864000 := by have := hinv.2.2.2.1; simp at this; omega
      have hst := Lib.hid hinv.1
      have OW := Lib.hid hown
      have z2 := hb.size
      obtain ⟨A2, m2, c2, rfl⟩ := own_slice hown
      clear hinv hown
      by_cases hlt : k < m
      · have hk2 : k < S.length := by have := HM.out; omega
        obtain ⟨b, o, rfl, hbl, hcell⟩ := HC.out (by have := HM.out; omega)
        have e0 : wr.cell? ⟨b, o + k, none⟩ = some (.int .i64 (S.getD k 0)) := (hb.cell (p := ⟨b, o + k, none⟩) hbl).trans (hcell k (by have := HM.out; omega))
        have htk := Lib.hid (take_at hk2)
        have ht : Node l (S.getD k 0) := HG.out.1 _ (getD_mem hk2)
        have hbf := Lib.hid (pair_at HG.out.2 hk2)
        clear hcell
        generalize S.getD k 0 = t at *
        have hbd := node_bd ht
        have hid := right_id ht.1 ht.2
        have he := (end_yes ht.1).2.2
        have HT := Lib.hid ht
        go_wp2_with (go_at_call 41; refine (ends_any _ _ _ (by omega) (by omega) (by omega) (by omega)).mono ?_; rintro e w2 ⟨rfl, rfl⟩)
        refine (lay_any w1.heap.size l nx (loN l t - 1) _ R _ OW.out hst.out (fun g => rest_val INV.out (tiNodes_take HG.out.1 k) HT.out g) (rest_ahead INV.out) (by omega) z2).mono ?_
        rintro e w3 ⟨v3, R3, rfl, hown3, hlaid, hg3, hat3⟩
        have O3 := Lib.hid hown3
        have hb3 : Below w1.heap.size w1 w3 := below_own hb OW.out hg3 z2
        have RS := Lib.hid (rest_step INV.out (tiNodes_take HG.out.1 k) HT.out hbf.out hlaid)
        clear e0 hown3 hg3 hat3 hlaid
        go_wp2_with fail
        go_roundw
        case rel => exact ⟨k + 1, R3, _, by omega, by go_num, rfl, O3.out, by rw [htk.out]; exact RS.out, hb3⟩
        case measure => simp [intOf]; omega
      · have hd : Hid (S.take k = S) := List.take_of_length_le (by have := HM.out; omega)
        go_wp2_with (go_at_call 41; refine (ends_any _ _ _ (by omega) (by omega) (by omega) (by omega)).mono ?_; rintro e w2 ⟨rfl, rfl⟩)
        refine (lay_any w1.heap.size l nx (hiN l 1) _ R _ OW.out hst.out (fun g => by have := T2.out; exact ⟨⟨hl48.1, hl48.2, by omega, by omega⟩, ⟨hl48.1, hl48.2, by omega, by omega⟩⟩) (rest_ahead INV.out) (by omega) z2).mono ?_
        rintro e w3 ⟨v3, R3, rfl, hown3, hlaid, hg3, hat3⟩
        have O3 := Lib.hid hown3
        have hb3 : Below w1.heap.size w1 w3 := below_own hb OW.out hg3 z2
        have RE := Lib.hid (rest_end INV.out (tiNodes_take HG.out.1 k) hl48 (by rw [← T2.out]; exact hlaid))
        obtain ⟨A4, m4, c4, rfl⟩ := own_slice hown3
        clear hown3 hg3 hat3 hlaid
        go_wp2_with fail
        refine (cut_any _ _ _ _ O3.out).mono ?_
        rintro e w4 ⟨A5, c5, rfl, hints, rfl⟩
        have HI5 := Lib.hid hints
        clear hints
        generalize hn5 : R3.reverse.length = n5 at *
        have HN5 := Lib.hid hn5
        clear hn5
        go_wp2_with fail
        go_ret2
        have q := RE.out
        rw [hd] at q
        obtain ⟨j1, j2, j3, j4⟩ := q
        refine .inl ⟨HALL.out, A5, c5, R3.reverse, by rw [HN5.out]; rfl, by rw [HN5.out]; exact HI5.out, stack_good j1, fun x => ?_, by simp; have := hle.out; have := HM.out; omega, ⟨S, HG.out, HH.out, by rw [tot_rev]; exact j3⟩, hb1.trans (hb3.mono z1)⟩
        rw [held_rev, j2, HH.out]
  · have HNO := Lib.hid hno
    clear hno HI
    go_wp2_with fail
    go_ret2
    exact .inr ⟨HNO.out, rfl, hb1⟩
end Go.Proofs.YtmfdpaahklndnaaGreat
