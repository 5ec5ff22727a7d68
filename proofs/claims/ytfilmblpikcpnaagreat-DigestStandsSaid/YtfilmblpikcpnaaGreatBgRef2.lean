/- The document's answers of package dewpondref10: put. -/
import Derived.Test.YtfilmblpikcpnaaGreatBgRef
namespace Go.Proofs.YtfilmblpikcpnaaGreat
set_option linter.unusedVariables false
set_option maxRecDepth 100000
open Go.RowKit
attribute [local go_sem ↓] Go.wp_at_zero Go.wp_at_succ

/-- a bag of the document's, handed out -/
def RgPost (TR : TypeId) (l : Int) (M : List Nd) (w : World) (e : Ending) (w' : World) : Prop :=
  ∃ A m c, e = .returned (.agg #[.int .i64 l, .slice A m c]) ∧ OwnNd TR w' w.heap.size (.slice A m c) M ∧ Below w.heap.size w w'
/-- .. and a number -/
def RgPost2 (TR : TypeId) (l : Int) (M : List Nd) (n : Int) (v0 : Value) (w : World) (e : Ending) (w' : World) : Prop :=
  ∃ A m c, e = .returned (.tuple #[.agg #[.int .i64 l, .slice A m c], .int .i64 n]) ∧ NodesAt w' (.slice A m c) M ∧ Below w.heap.size w w' ∧ ((Value.slice A m c) = v0 ∨ OwnNd TR w' w.heap.size (.slice A m c) M)
theorem own2_size {w : World} {t t2 : TypeId} {a b c d : Value} : ((w.alloc (.cells #[a, b] t)).alloc (.cells #[c, d] t2)).heap.size = w.heap.size + 2 := by simp
/-- the row under way, behind an append of one -/
theorem put_app {B : Nat} {w1 w2 w3 : World} {v v' : Value} {R : List Nd} {a b : Int} (hr : OwnNd 98 w1 B v R) (hb : Below B w1 w2) (hz : B ≤ w1.heap.size) (hown : w3.ownsRow B 98 2 v' (R.length + 1) (nods R ++ [.int .i64 a, .int .i64 b])) (hg : w2.grownBy w3 v.ownBlock) :
    OwnNd 98 w3 B v' (R ++ [(a, b)]) ∧ Below B w1 w3 :=
  ⟨ownNd_snoc hown, hb.grown hg (by have := hb.size; omega) (fun g e => (World.ownsRow.lt hr g e).1)⟩
set_option maxHeartbeats 6400000 in
theorem rgPut_any (l x cc : Int) (A : Option Addr) (n c : Nat) (L : List Nd) (w : World) (h : NodesAt w (.slice A n c) L) (hG : Good L) (hn : n ≤ 400000) (hT : sumC L ≤ 72057594037927935) (B0 : 0 ≤ cc) (B1 : cc ≤ 72057594037927935) :
    Calls Tryz.prog 91 #[.agg #[.int .i64 l, .slice A n c], .int .i64 x, .int .i64 cc] w (RgPost 98 l (insW L x cc) w) := by
  obtain ⟨i0, hi, hz0, hz1, hz2⟩ := info_parts read_info
  have hb0 := below_two w (.cells #[.int .i64 l, .slice A n c] 55) (.cells #[.int .i64 0, .slice none 0 0] 55)
  have K0 := Lib.hid (k4_new w 55 55 (.int .i64 l) (.slice A n c) (.int .i64 0) (.slice none 0 0))
  obtain ⟨hlen, hlc, hcm, hat⟩ := nodes_cells (h.below hb0)
  have HL := Lib.hid hlen
  have HA := Lib.hid hat
  have HG := Lib.hid hG
  have HT := Lib.hid hT
  have HB := Lib.hid hb0
  have HZ := Lib.hid (own2_size (w := w) (t := 55) (t2 := 55) (a := .int .i64 l) (b := .slice A n c) (c := .int .i64 0) (d := .slice none 0 0))
  clear hlen hat h hlc hcm hG hT hb0
  go_enter Tryz.func91, Tryz.ntmps91
  go_wp2_with fail
  generalize (w.alloc (.cells #[.int .i64 l, .slice A n c] 55)).alloc (.cells #[.int .i64 0, .slice none 0 0] 55) = W at *
  have hzW := HZ.out
  go_loopw [7, 8, 9] (fun v d i wr => ∃ (k : Nat) (dd : Bool) (R : List Nd), k ≤ n ∧ i = .int .i64 (k : Int) ∧ d = .bool dd ∧ PutI L x cc k dd R ∧ OwnNd 98 wr (w.heap.size + 2) v R ∧ Below (w.heap.size + 2) W wr) (fun _ _ i _ => n - (intOf i).toNat)
  case atStart => exact ⟨0, false, [], Nat.zero_le _, rfl, rfl, putI_zero .., ownNd_nil .., Below.refl ..⟩
  case round =>
    obtain ⟨k, dd, R, hk, rfl, rfl, pin, own, hb⟩ := hrel
    have PIN := Lib.hid pin
    have OWN := Lib.hid own
    have hlR := pin.len
    have zs := hb.size
    obtain ⟨A3, m3, c3, rfl⟩ := ownNd_slice own
    have hm3 := (nodes_cells (ownNd_nodes own)).1
    have OWNr : Hid (wr.ownsRow (w.heap.size + 2) 98 2 (.slice A3 m3 c3) R.length (nods R)) := own
    obtain ⟨c0, c1, d0, d1, f0, f1, g0, g1, lt⟩ := K0.out.to hb (by omega)
    clear pin own hm3
    by_cases hlt : k < n
    · have hkl : k < L.length := by have := HL.out; omega
      obtain ⟨b, o, rfl, hin⟩ := HA.out (by omega)
      obtain ⟨e0, e1⟩ := (hin.below hb (by have := hin.1; omega)).2 k hkl
      have hbl : b < w.heap.size + 2 := by have := hin.1; omega
      have BD : 0 ≤ (L.getD k nz).2 ∧ (L.getD k nz).2 ≤ 72057594037927935 := by
        have a := HG.out.pos _ (nd_mem hkl)
        have c := sumC_mem (good_nonneg HG.out) (nd_mem hkl)
        have := HT.out
        omega
      have S1 := Lib.hid (fun e => PutI.same HG.out hkl PIN.out (x := x) e)
      have S2 := Lib.hid (fun (q : dd = false) e => PutI.ahead hkl (q ▸ PIN.out) (x := x) e)
      have S3 := Lib.hid (fun (q : dd = true) => PutI.done hkl (q ▸ PIN.out))
      have S4 := Lib.hid (fun e => PutI.before HG.out hkl PIN.out (x := x) e)
      have hst : ∀ a : Int, ((k : Int) + 1 = ((k + 1 : Nat) : Int)) := fun _ => by omega
      clear hin
      generalize L.getD k nz = r at *
      obtain ⟨r1, r2⟩ := r
      dsimp only at e0 e1 BD
      rcases (show r1 = x ∨ x < r1 ∨ r1 < x by omega) with q | q | q
      · have q' : (r1 == x) = true := by simpa using q
        have S := Lib.hid (S1.out q)
        clear S1 S2 S3 S4
        go_wp2_with (at_builtin; refine wpList_append_own _ rfl (.tmp 46) (.tmp 48) 53 rfl (w.heap.size + 2) 98 i0 (.agg #[.int .i64 0, .int .i64 0]) 2 16 Tryz.underlying53 hi hz0 hz1 hz2 rfl (by decide) (.slice A3 m3 c3) R.length (nods R) rfl (World.ownsRow.alloc (World.ownsRow.alloc OWNr.out _) _) ⟨wr.heap.size + 1, 0, none⟩ 1 1 [.int .i64 x, .int .i64 (r2 + cc)] rfl rfl (two_new _ _ _ _ _ (by simp)) (two_cell _ _) (by unfold maxLen; omega) (by omega) (by simp; omega) ?_)
        intro v' w3 hown hgrow _
        have P := Lib.hid (put_app OWN.out (((Below.refl _ wr).alloc (by omega) _).alloc (by simp; omega) _) (by omega) hown hgrow)
        clear hown hgrow
        go_wp2_with fail
        go_roundw
        case rel => exact ⟨k + 1, true, _, by omega, by go_num, rfl, by have z := S.out; rw [q] at z; exact z, P.out.1, hb.trans (P.out.2.mono (by omega))⟩
        case measure => simp [intOf]; omega
      · have q' : (r1 == x) = false := by simp; omega
        have q2 : x < r1 := q
        cases dd with
        | true =>
          have S := Lib.hid (S3.out rfl)
          clear S1 S2 S3 S4
          go_wp2_with (at_builtin; refine wpList_append_own _ rfl (.tmp 46) (.tmp 48) 53 rfl (w.heap.size + 2) 98 i0 (.agg #[.int .i64 0, .int .i64 0]) 2 16 Tryz.underlying53 hi hz0 hz1 hz2 rfl (by decide) (.slice A3 m3 c3) R.length (nods R) rfl (World.ownsRow.alloc (World.ownsRow.alloc OWNr.out _) _) ⟨wr.heap.size + 1, 0, none⟩ 1 1 [.int .i64 r1, .int .i64 r2] rfl rfl (two_new _ _ _ _ _ (by simp)) (two_cell _ _) (by unfold maxLen; omega) (by omega) (by simp; omega) ?_)
          intro v' w3 hown hgrow _
          have P := Lib.hid (put_app OWN.out (((Below.refl _ wr).alloc (by omega) _).alloc (by simp; omega) _) (by omega) hown hgrow)
          clear hown hgrow
          go_wp2_with fail
          go_roundw
          case rel => exact ⟨k + 1, true, _, by omega, by go_num, rfl, S.out, P.out.1, hb.trans (P.out.2.mono (by omega))⟩
          case measure => simp [intOf]; omega
        | false =>
          have S := Lib.hid (S2.out rfl q)
          clear S1 S2 S3 S4
          go_wp2_with (at_builtin; refine wpList_append_own _ rfl (.tmp 40) (.tmp 44) 53 rfl (w.heap.size + 2) 98 i0 (.agg #[.int .i64 0, .int .i64 0]) 2 16 Tryz.underlying53 hi hz0 hz1 hz2 rfl (by decide) (.slice A3 m3 c3) R.length (nods R) rfl (World.ownsRow.alloc (World.ownsRow.alloc OWNr.out _) _) ⟨wr.heap.size + 1, 0, none⟩ 1 1 [.int .i64 x, .int .i64 cc] rfl rfl (two_new _ _ _ _ _ (by simp)) (two_cell _ _) (by unfold maxLen; omega) (by omega) (by simp; omega) ?_)
          intro v' w3 hown hgrow _
          have y0 : w3.cell? ⟨wr.heap.size, 0, none⟩ = some (.int .i64 r1) := by
            rw [World.cell?_of_block (a := ⟨wr.heap.size, 0, none⟩) (hgrow.block wr.heap.size (by simp; omega) (fun e => by have := (OWNr.out.lt _ e.symm).2; omega))]; simp
          have y1 : w3.cell? ⟨wr.heap.size, 1, none⟩ = some (.int .i64 r2) := by
            rw [World.cell?_of_block (a := ⟨wr.heap.size, 1, none⟩) (hgrow.block wr.heap.size (by simp; omega) (fun e => by have := (OWNr.out.lt _ e.symm).2; omega))]; simp
          have P := Lib.hid (put_app OWN.out (((Below.refl _ wr).alloc (by omega) _).alloc (by simp; omega) _) (by omega) hown hgrow)
          have zs3 : w.heap.size + 2 ≤ w3.heap.size := by have := P.out.2.size; omega
          obtain ⟨A4, m4, c4, rfl⟩ := ownNd_slice P.out.1
          have OW4 : Hid (w3.ownsRow (w.heap.size + 2) 98 2 (.slice A4 m4 c4) (R ++ [(x, cc)]).length (nods (R ++ [(x, cc)]))) := P.out.1
          have hl4 : (R ++ [(x, cc)]).length ≤ 400002 := by simp; omega
          clear hown hgrow
          generalize R ++ [(x, cc)] = R4 at *
          go_wp2_with (at_builtin; refine wpList_append_own _ rfl (.tmp 46) (.tmp 48) 53 rfl (w.heap.size + 2) 98 i0 (.agg #[.int .i64 0, .int .i64 0]) 2 16 Tryz.underlying53 hi hz0 hz1 hz2 rfl (by decide) (.slice A4 m4 c4) R4.length (nods R4) rfl (World.ownsRow.alloc OW4.out _) ⟨w3.heap.size, 0, none⟩ 1 1 [.int .i64 r1, .int .i64 r2] rfl rfl (two_new _ _ _ _ _ (by simp)) (two_cell _ _) (by unfold maxLen; omega) (by omega) (by simp; omega) ?_)
          intro v' w5 hown hgrow _
          have P2 := Lib.hid (put_app P.out.1 ((Below.refl _ w3).alloc (by omega) _) (by omega) hown hgrow)
          clear hown hgrow
          go_wp2_with fail
          go_roundw
          case rel => exact ⟨k + 1, true, _, by omega, by go_num, rfl, S.out, P2.out.1, hb.trans (P.out.2.trans P2.out.2)⟩
          case measure => simp [intOf]; omega
      · have q' : (r1 == x) = false := by simp; omega
        have q2 : ¬ x < r1 := by omega
        obtain ⟨rfl, S0⟩ := S4.out q
        have S := Lib.hid S0
        clear S1 S2 S3 S4 S0
        go_wp2_with (at_builtin; refine wpList_append_own _ rfl (.tmp 46) (.tmp 48) 53 rfl (w.heap.size + 2) 98 i0 (.agg #[.int .i64 0, .int .i64 0]) 2 16 Tryz.underlying53 hi hz0 hz1 hz2 rfl (by decide) (.slice A3 m3 c3) R.length (nods R) rfl (World.ownsRow.alloc (World.ownsRow.alloc OWNr.out _) _) ⟨wr.heap.size + 1, 0, none⟩ 1 1 [.int .i64 r1, .int .i64 r2] rfl rfl (two_new _ _ _ _ _ (by simp)) (two_cell _ _) (by unfold maxLen; omega) (by omega) (by simp; omega) ?_)
        intro v' w3 hown hgrow _
        have P := Lib.hid (put_app OWN.out (((Below.refl _ wr).alloc (by omega) _).alloc (by simp; omega) _) (by omega) hown hgrow)
        clear hown hgrow
        go_wp2_with fail
        go_roundw
        case rel => exact ⟨k + 1, false, _, by omega, by go_num, rfl, S.out, P.out.1, hb.trans (P.out.2.mono (by omega))⟩
        case measure => simp [intOf]; omega
    · have FIN := Lib.hid (PIN.out.fin (by have := HL.out; omega))
      obtain ⟨q0, q1⟩ := set_two d0 d1
      have fin : Hid (∀ (v : Value) (w3 : World), OwnNd 98 w3 (w.heap.size + 2) v (insW L x cc) → Below (w.heap.size + 2) wr w3 → ∀ u u', OwnNd 98 ((w3.setCell ⟨w.heap.size + 1, 0, none⟩ u).setCell ⟨w.heap.size + 1, 1, none⟩ u') w.heap.size v (insW L x cc) ∧ Below w.heap.size w ((w3.setCell ⟨w.heap.size + 1, 0, none⟩ u).setCell ⟨w.heap.size + 1, 1, none⟩ u')) := fun v w3 ho h3 u u' =>
        ⟨own_low (ownsRow_setCell_below (ownsRow_setCell_below ho (a := ⟨w.heap.size + 1, 0, none⟩) (Nat.lt_succ_self _) u) (a := ⟨w.heap.size + 1, 1, none⟩) (Nat.lt_succ_self _) u') (by omega),
         (((HB.out.trans ((hb.trans h3).mono (by omega))).setCell (p := ⟨w.heap.size + 1, 0, none⟩) (Nat.le_succ _) u).setCell (p := ⟨w.heap.size + 1, 1, none⟩) (Nat.le_succ _) u')⟩
      cases dd with
      | true =>
        have EQ : Hid (R = insW L x cc) := FIN.out
        have F := Lib.hid (fin.out _ wr (by have z := OWN.out; rw [EQ.out] at z; exact z) (Below.refl ..))
        go_wp2_with fail
        exact bodyPost_ret (v := .agg #[.int .i64 l, .slice A3 m3 c3]) (by simp [results, Tryz.results91, go_sem, q0, q1]) rfl ⟨_, _, _, rfl, (F.out _ _).1, (F.out _ _).2⟩
      | false =>
        have EQ : Hid (R ++ [(x, cc)] = insW L x cc) := FIN.out
        go_wp2_with (at_builtin; refine wpList_append_own _ rfl (.tmp 52) (.tmp 56) 53 rfl (w.heap.size + 2) 98 i0 (.agg #[.int .i64 0, .int .i64 0]) 2 16 Tryz.underlying53 hi hz0 hz1 hz2 rfl (by decide) (.slice A3 m3 c3) R.length (nods R) rfl (World.ownsRow.alloc OWNr.out _) ⟨wr.heap.size, 0, none⟩ 1 1 [.int .i64 x, .int .i64 cc] rfl rfl (two_new _ _ _ _ _ (by simp)) (two_cell _ _) (by unfold maxLen; omega) (by omega) (by simp; omega) ?_)
        intro v' w3 hown hgrow _
        have P := Lib.hid (put_app OWN.out ((Below.refl _ wr).alloc (by omega) _) (by omega) hown hgrow)
        have F := Lib.hid (fin.out v' w3 (by have z := P.out.1; rw [EQ.out] at z; exact z) P.out.2)
        obtain ⟨A4, m4, c4, rfl⟩ := ownNd_slice P.out.1
        clear c0 c1 d0 d1 f0 f1 g0 g1 lt q0 q1 hown hgrow
        obtain ⟨c0, c1, d0, d1, f0, f1, g0, g1, lt⟩ := (K0.out.to hb (by omega)).to P.out.2 (by omega)
        obtain ⟨q0, q1⟩ := set_two d0 d1
        go_wp2_with fail
        exact bodyPost_ret (v := .agg #[.int .i64 l, .slice A4 m4 c4]) (by simp [results, Tryz.results91, go_sem, q0, q1]) rfl ⟨_, _, _, rfl, (F.out _ _).1, (F.out _ _).2⟩

end Go.Proofs.YtfilmblpikcpnaaGreat
