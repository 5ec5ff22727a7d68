/- Texts laid together: BgRef, BgRef2, BgRef3. -/
import Derived.Test.YtelekchdbiimiaaGreatBgQ
import Derived.Test.YtelekchdbiimiaaGreatDgN
import Derived.Test.YtelekchdbiimiaaGreatRoQ
namespace Go.Proofs.YtelekchdbiimiaaGreat
set_option linter.unusedVariables false
set_option maxRecDepth 100000
open Go.RowKit
attribute [local go_sem ↓] Go.wp_at_zero Go.wp_at_succ
set_option maxHeartbeats 1600000 in
theorem rgTotal_any (l : Int) (A : Option Addr) (n c : Nat) (L : List Nd) (w : World) (h : NodesAt w (.slice A n c) L) (hN : NonNeg L) (hT : sumC L ≤ 72057594037927935) (hn : n ≤ 1000000) :
    Calls Tryz.prog 17 #[.agg #[.int .i64 l, .slice A n c]] w fun e w' => e = .returned (.int .i64 (sumC L)) ∧ Below w.heap.size w w' := by
  have hb0 : Below w.heap.size w (w.alloc (.cells #[.int .i64 l, .slice A n c] 57)) := (Below.refl _ _).alloc (Nat.le_refl _) _
  obtain ⟨hlen, hlc, hcm, hat⟩ := nodes_cells (h.below hb0)
  have HL := Lib.hid hlen
  have HA := Lib.hid hat
  have HN := Lib.hid hN
  have HT := Lib.hid hT
  have HB := Lib.hid hb0
  have x1 : (w.alloc (.cells #[.int .i64 l, .slice A n c] 57)).cell? ⟨w.heap.size, 1, none⟩ = some (.slice A n c) := by simp
  clear hlen hat h hlc hcm hN hT hb0
  go_enter Tryz.func17, Tryz.ntmps17
  go_wp2_with fail
  generalize w.alloc (.cells #[.int .i64 l, .slice A n c] 57) = W at *
  go_loop [3, 4] (fun t i => ∃ k : Nat, k ≤ n ∧ i = .int .i64 k ∧ t = .int .i64 (sumC (L.take k))) (fun _ i => n - (intOf i).toNat)
  case atStart => exact ⟨0, by omega, rfl, rfl⟩
  case round =>
    obtain ⟨k, hk, rfl, rfl⟩ := hrel
    have t0 : 0 ≤ sumC (L.take k) := sumC_nonneg fun m hm => HN.out m (List.mem_of_mem_take hm)
    have t1 : sumC (L.take k) ≤ 72057594037927935 := by have := sum_take_le HN.out k; have := HT.out; omega
    by_cases hlt : k < n
    · have hk2 : k < L.length := by have := HL.out; omega
      obtain ⟨b, o, rfl, hin⟩ := HA.out (by omega)
      obtain ⟨e0, e1⟩ := hin.2 k hk2
      have hst := Lib.hid (sum_take_step hk2)
      have h0 := HN.out _ (nd_mem hk2)
      have h1 : (L.getD k nz).2 ≤ 72057594037927935 := by have := sumC_mem HN.out (nd_mem hk2); have := HT.out; omega
      clear hin
      generalize L.getD k nz = r at *
      obtain ⟨id, x⟩ := r
      simp only at e0 e1 h0 h1
      generalize hT2 : sumC (L.take k) = T at *
      have HT2 := Lib.hid hT2
      clear hT2
      go_wp2_with fail
      go_round
      case rel => exact ⟨k + 1, by omega, by go_num, by rw [hst.out]⟩
      case measure => simp [intOf]; omega
    · have hd : Hid (L.take k = L) := List.take_of_length_le (by have := HL.out; omega)
      go_wp2_with fail
      go_ret
      exact ⟨ret_n (by rw [hd]), HB.out⟩
theorem bet_step {L : List Nd} {k : Nat} (hk : k < L.length) (x y : Int) : betN (L.take (k + 1)) x y = betN (L.take k) x y + (if x ≤ (L.getD k nz).1 ∧ (L.getD k nz).1 ≤ y then (L.getD k nz).2 else 0) := by
  rw [nd_take hk, bet_app]; simp [betN]
set_option maxHeartbeats 1600000 in
theorem rgBetween_any (l x y : Int) (A : Option Addr) (n c : Nat) (L : List Nd) (w : World) (h : NodesAt w (.slice A n c) L) (hN : NonNeg L) (hT : sumC L ≤ 72057594037927935) (hn : n ≤ 1000000) :
    Calls Tryz.prog 40 #[.agg #[.int .i64 l, .slice A n c], .int .i64 x, .int .i64 y] w fun e w' => e = .returned (.int .i64 (betN L x y)) ∧ Below w.heap.size w w' := by
  have hb0 : Below w.heap.size w (w.alloc (.cells #[.int .i64 l, .slice A n c] 57)) := (Below.refl _ _).alloc (Nat.le_refl _) _
  obtain ⟨hlen, hlc, hcm, hat⟩ := nodes_cells (h.below hb0)
  have HL := Lib.hid hlen
  have HA := Lib.hid hat
  have HN := Lib.hid hN
  have HT := Lib.hid hT
  have HB := Lib.hid hb0
  have x1 : (w.alloc (.cells #[.int .i64 l, .slice A n c] 57)).cell? ⟨w.heap.size, 1, none⟩ = some (.slice A n c) := by simp
  clear hlen hat h hlc hcm hN hT hb0
  go_enter Tryz.func40, Tryz.ntmps40
  go_wp2_with fail
  generalize w.alloc (.cells #[.int .i64 l, .slice A n c] 57) = W at *
  go_loop [7, 8] (fun t i => ∃ k : Nat, k ≤ n ∧ i = .int .i64 k ∧ t = .int .i64 (betN (L.take k) x y)) (fun _ i => n - (intOf i).toNat)
  case atStart => exact ⟨0, by omega, rfl, rfl⟩
  case round =>
    obtain ⟨k, hk, rfl, rfl⟩ := hrel
    have tb := bet_bd (L := L.take k) (fun m hm => HN.out m (List.mem_of_mem_take hm)) x y
    have t1 : sumC (L.take k) ≤ 72057594037927935 := by have := sum_take_le HN.out k; have := HT.out; omega
    by_cases hlt : k < n
    · have hk2 : k < L.length := by have := HL.out; omega
      obtain ⟨b, o, rfl, hin⟩ := HA.out (by omega)
      obtain ⟨e0, e1⟩ := hin.2 k hk2
      have hst := Lib.hid (bet_step hk2 x y)
      have h0 := HN.out _ (nd_mem hk2)
      have h1 : (L.getD k nz).2 ≤ 72057594037927935 := by have := sumC_mem HN.out (nd_mem hk2); have := HT.out; omega
      clear hin
      generalize L.getD k nz = r at *
      obtain ⟨id, z⟩ := r
      simp only at e0 e1 h0 h1
      generalize sumC (L.take k) = S at *
      generalize hT2 : betN (L.take k) x y = T at *
      have HT2 := Lib.hid hT2
      clear hT2
      by_cases q1 : x ≤ id
      · by_cases q2 : id ≤ y
        · have hs : Hid (betN (L.take (k + 1)) x y = T + z) := by show _ = _; rw [hst.out, if_pos ⟨q1, q2⟩]
          go_wp2_with fail
          go_round
          case rel => exact ⟨k + 1, by omega, by go_num, by rw [hs.out]⟩
          case measure => simp [intOf]; omega
        · have hs : Hid (betN (L.take (k + 1)) x y = T) := by show _ = _; rw [hst.out, if_neg (fun g => q2 g.2)]; omega
          go_wp2_with fail
          go_round
          case rel => exact ⟨k + 1, by omega, by go_num, by rw [hs.out]⟩
          case measure => simp [intOf]; omega
      · have hs : Hid (betN (L.take (k + 1)) x y = T) := by show _ = _; rw [hst.out, if_neg (fun g => q1 g.1)]; omega
        go_wp2_with fail
        go_round
        case rel => exact ⟨k + 1, by omega, by go_num, by rw [hs.out]⟩
        case measure => simp [intOf]; omega
    · have hd : Hid (L.take k = L) := List.take_of_length_le (by have := HL.out; omega)
      go_wp2_with fail
      go_ret
      exact ⟨ret_n (by rw [hd]), HB.out⟩
theorem rgRank_any (l x : Int) (A : Option Addr) (n c : Nat) (L : List Nd) (w : World) (h : NodesAt w (.slice A n c) L) (hN : NonNeg L) (hT : sumC L ≤ 72057594037927935) (hn : n ≤ 1000000) :
    Calls Tryz.prog 18 #[.agg #[.int .i64 l, .slice A n c], .int .i64 x] w fun e w' => e = .returned (.int .i64 (betN L 0 x)) ∧ Below w.heap.size w w' := by
  have hb0 : Below w.heap.size w (w.alloc (.cells #[.int .i64 l, .slice A n c] 57)) := (Below.refl _ _).alloc (Nat.le_refl _) _
  have HB := Lib.hid hb0
  have H := Lib.hid (rgBetween_any l 0 x A n c L _ (h.below hb0) hN hT hn)
  clear h hN hT hb0
  go_enter Tryz.func18, Tryz.ntmps18
  go_wp2_with (go_at_call 40; refine H.out.mono ?_; rintro e w1 ⟨rfl, hb1⟩)
  go_ret
  exact ⟨rfl, HB.out.trans (hb1.mono HB.out.size)⟩
end Go.Proofs.YtelekchdbiimiaaGreat
namespace Go.Proofs.YtelekchdbiimiaaGreat
set_option linter.unusedVariables false
set_option maxRecDepth 100000
open Go.RowKit
attribute [local go_sem ↓] Go.wp_at_zero Go.wp_at_succ
/-- a bag of the document's, handed out -/
def RgPost (TR : TypeId) (l : Int) (M : List Nd) (w : World) (e : Ending) (w' : World) : Prop :=
  ∃ A m c, e = .returned (.agg #[.int .i64 l, .slice A m c]) ∧ OwnNd TR w' w.heap.size (.slice A m c) M ∧ Below w.heap.size w w'
/-- .. and a number -/
def RgPost2 (TR : TypeId) (l : Int) (M : List Nd) (n : Int) (v0 : Value) (w : World) (e : Ending) (w' : World) : Prop :=
  ∃ A m c, e = .returned (.tuple #[.agg #[.int .i64 l, .slice A m c], .int .i64 n]) ∧ NodesAt w' (.slice A m c) M ∧ Below w.heap.size w w' ∧ ((Value.slice A m c) = v0 ∨ OwnNd TR w' w.heap.size (.slice A m c) M)
theorem own2_size {w : World} {t t2 : TypeId} {a b c d : Value} : ((w.alloc (.cells #[a, b] t)).alloc (.cells #[c, d] t2)).heap.size = w.heap.size + 2 := by simp
/-- the row under way, behind an append of one -/
theorem put_app {B : Nat} {w1 w2 w3 : World} {v v' : Value} {R : List Nd} {a b : Int} (hr : OwnNd 66 w1 B v R) (hb : Below B w1 w2) (hz : B ≤ w1.heap.size) (hown : w3.ownsRow B 66 2 v' (R.length + 1) (nods R ++ [.int .i64 a, .int .i64 b])) (hg : w2.grownBy w3 v.ownBlock) :
    OwnNd 66 w3 B v' (R ++ [(a, b)]) ∧ Below B w1 w3 :=
  ⟨ownNd_snoc hown, hb.grown hg (by have := hb.size; omega) (fun g e => (World.ownsRow.lt hr g e).1)⟩
set_option maxHeartbeats 6400000 in
theorem rgPut_any (l x cc : Int) (A : Option Addr) (n c : Nat) (L : List Nd) (w : World) (h : NodesAt w (.slice A n c) L) (hG : Good L) (hn : n ≤ 400000) (hT : sumC L ≤ 72057594037927935) (B0 : 0 ≤ cc) (B1 : cc ≤ 72057594037927935) :
    Calls Tryz.prog 79 #[.agg #[.int .i64 l, .slice A n c], .int .i64 x, .int .i64 cc] w (RgPost 66 l (insW L x cc) w) := by
  obtain ⟨i0, hi, hz0, hz1, hz2⟩ := info_parts read_info
  have hb0 := below_two w (.cells #[.int .i64 l, .slice A n c] 57) (.cells #[.int .i64 0, .slice none 0 0] 57)
  have K0 := Lib.hid (k4_new w 57 57 (.int .i64 l) (.slice A n c) (.int .i64 0) (.slice none 0 0))
  obtain ⟨hlen, hlc, hcm, hat⟩ := nodes_cells (h.below hb0)
  have HL := Lib.hid hlen
  have HA := Lib.hid hat
  have HG := Lib.hid hG
  have HT := Lib.hid hT
  have HB := Lib.hid hb0
  have HZ := Lib.hid (own2_size (w := w) (t := 57) (t2 := 57) (a := .int .i64 l) (b := .slice A n c) (c := .int .i64 0) (d := .slice none 0 0))
  clear hlen hat h hlc hcm hG hT hb0
  go_enter Tryz.func79, Tryz.ntmps79
  go_wp2_with fail
  generalize (w.alloc (.cells #[.int .i64 l, .slice A n c] 57)).alloc (.cells #[.int .i64 0, .slice none 0 0] 57) = W at *
  have hzW := HZ.out
  go_loopw [7, 8, 9] (fun v d i wr => ∃ (k : Nat) (dd : Bool) (R : List Nd), k ≤ n ∧ i = .int .i64 (k : Int) ∧ d = .bool dd ∧ PutI L x cc k dd R ∧ OwnNd 66 wr (w.heap.size + 2) v R ∧ Below (w.heap.size + 2) W wr) (fun _ _ i _ => n - (intOf i).toNat)
  case atStart => exact ⟨0, false, [], Nat.zero_le _, rfl, rfl, putI_zero .., ownNd_nil .., Below.refl ..⟩
  case round =>
    obtain ⟨k, dd, R, hk, rfl, rfl, pin, own, hb⟩ := hrel
    have PIN := Lib.hid pin
    have OWN := Lib.hid own
    have hlR := pin.len
    have zs := hb.size
    obtain ⟨A3, m3, c3, rfl⟩ := ownNd_slice own
    have hm3 := (nodes_cells (ownNd_nodes own)).1
    have OWNr : Hid (wr.ownsRow (w.heap.size + 2) 66 2 (.slice A3 m3 c3) R.length (nods R)) := own
    obtain ⟨c0, c1, d0, d1, f0, f1, g0, g1, lt⟩ := K0.out.to hb (by omega)
    clear pin own hm3
    by_cases hlt : k < n
    · have hkl : k < L.length := by have := HL.out; omega
      obtain ⟨b, o, rfl, hin⟩ := HA.out (by omega)
      obtain ⟨e0, e1⟩ := (hin.below hb (by have := hin.1; omega)).2 k hkl
      have hbl : b < w.heap.size + 2 := by have := hin.1; omega
      have BD : 0 ≤ (L.getD k nz).2 ∧ (L.getD k nz).2 ≤ 72057594037927935 := by
        have a := HG.out.pos _ (nd_mem hkl)
        have c := sumC_mem (good_nonneg HG.out) (nd_mem hkl)
        have := HT.out
        omega
      have S1 := Lib.hid (fun e => PutI.same HG.out hkl PIN.out (x := x) e)
      have S2 := Lib.hid (fun (q : dd = false) e => PutI.ahead hkl (q ▸ PIN.out) (x := x) e)
      have S3 := Lib.hid (fun (q : dd = true) => PutI.done hkl (q ▸ PIN.out))
      have S4 := Lib.hid (fun e => PutI.before HG.out hkl PIN.out (x := x) e)
      have hst : ∀ a : Int, ((k : Int) + 1 = ((k + 1 : Nat) : Int)) := fun _ => by omega
      clear hin
      generalize L.getD k nz = r at *
      obtain ⟨r1, r2⟩ := r
      dsimp only at e0 e1 BD
      rcases (show r1 = x ∨ x < r1 ∨ r1 < x by omega) with q | q | q
      · have q' : (r1 == x) = true := by simpa using q
        have S := Lib.hid (S1.out q)
        clear S1 S2 S3 S4
        go_wp2_with (at_builtin; refine wpList_append_own _ rfl (.tmp 46) (.tmp 48) 55 rfl (w.heap.size + 2) 66 i0 (.agg #[.int .i64 0, .int .i64 0]) 2 16 Tryz.underlying55 hi hz0 hz1 hz2 rfl (by decide) (.slice A3 m3 c3) R.length (nods R) rfl (World.ownsRow.alloc (World.ownsRow.alloc OWNr.out _) _) ⟨wr.heap.size + 1, 0, none⟩ 1 1 [.int .i64 x, .int .i64 (r2 + cc)] rfl rfl (two_new _ _ _ _ _ (by simp)) (two_cell _ _) (by unfold maxLen; omega) (by omega) (by simp; omega) ?_)
        intro v' w3 hown hgrow _
        have P := Lib.hid (put_app OWN.out (((Below.refl _ wr).alloc (by omega) _).alloc (by simp; omega) _) (by omega) hown hgrow)
        clear hown hgrow
        go_wp2_with fail
        go_roundw
        case rel => exact ⟨k + 1, true, _, by omega, by go_num, rfl, by have z := S.out; rw [q] at z; exact z, P.out.1, hb.trans (P.out.2.mono (by omega))⟩
        case measure => simp [intOf]; omega
      · have q' : (r1 == x) = false := by simp; omega
        have q2 : x < r1 := q
        cases dd with
        | true =>
          have S := Lib.hid (S3.out rfl)
          clear S1 S2 S3 S4
          go_wp2_with (at_builtin; refine wpList_append_own _ rfl (.tmp 46) (.tmp 48) 55 rfl (w.heap.size + 2) 66 i0 (.agg #[.int .i64 0, .int .i64 0]) 2 16 Tryz.underlying55 hi hz0 hz1 hz2 rfl (by decide) (.slice A3 m3 c3) R.length (nods R) rfl (World.ownsRow.alloc (World.ownsRow.alloc OWNr.out _) _) ⟨wr.heap.size + 1, 0, none⟩ 1 1 [.int .i64 r1, .int .i64 r2] rfl rfl (two_new _ _ _ _ _ (by simp)) (two_cell _ _) (by unfold maxLen; omega) (by omega) (by simp; omega) ?_)
          intro v' w3 hown hgrow _
          have P := Lib.hid (put_app OWN.out (((Below.refl _ wr).alloc (by omega) _).alloc (by simp; omega) _) (by omega) hown hgrow)
          clear hown hgrow
          go_wp2_with fail
          go_roundw
          case rel => exact ⟨k + 1, true, _, by omega, by go_num, rfl, S.out, P.out.1, hb.trans (P.out.2.mono (by omega))⟩
          case measure => simp [intOf]; omega
        | false =>
          have S := Lib.hid (S2.out rfl q)
          clear S1 S2 S3 S4
          go_wp2_with (at_builtin; refine wpList_append_own _ rfl (.tmp 40) (.tmp 44) 55 rfl (w.heap.size + 2) 66 i0 (.agg #[.int .i64 0, .int .i64 0]) 2 16 Tryz.underlying55 hi hz0 hz1 hz2 rfl (by decide) (.slice A3 m3 c3) R.length (nods R) rfl (World.ownsRow.alloc (World.ownsRow.alloc OWNr.out _) _) ⟨wr.heap.size + 1, 0, none⟩ 1 1 [.int .i64 x, .int .i64 cc] rfl rfl (two_new _ _ _ _ _ (by simp)) (two_cell _ _) (by unfold maxLen; omega) (by omega) (by simp; omega) ?_)
          intro v' w3 hown hgrow _
          have y0 : w3.cell? ⟨wr.heap.size, 0, none⟩ = some (.int .i64 r1) := by
            rw [World.cell?_of_block (a := ⟨wr.heap.size, 0, none⟩) (hgrow.block wr.heap.size (by simp; omega) (fun e => by have := (OWNr.out.lt _ e.symm).2; omega))]; simp
          have y1 : w3.cell? ⟨wr.heap.size, 1, none⟩ = some (.int .i64 r2) := by
            rw [World.cell?_of_block (a := ⟨wr.heap.size, 1, none⟩) (hgrow.block wr.heap.size (by simp; omega) (fun e => by have := (OWNr.out.lt _ e.symm).2; omega))]; simp
          have P := Lib.hid (put_app OWN.out (((Below.refl _ wr).alloc (by omega) _).alloc (by simp; omega) _) (by omega) hown hgrow)
          have zs3 : w.heap.size + 2 ≤ w3.heap.size := by have := P.out.2.size; omega
          obtain ⟨A4, m4, c4, rfl⟩ := ownNd_slice P.out.1
          have OW4 : Hid (w3.ownsRow (w.heap.size + 2) 66 2 (.slice A4 m4 c4) (R ++ [(x, cc)]).length (nods (R ++ [(x, cc)]))) := P.out.1
          have hl4 : (R ++ [(x, cc)]).length ≤ 400002 := by simp; omega
          clear hown hgrow
          generalize R ++ [(x, cc)] = R4 at *
          go_wp2_with (at_builtin; refine wpList_append_own _ rfl (.tmp 46) (.tmp 48) 55 rfl (w.heap.size + 2) 66 i0 (.agg #[.int .i64 0, .int .i64 0]) 2 16 Tryz.underlying55 hi hz0 hz1 hz2 rfl (by decide) (.slice A4 m4 c4) R4.length (nods R4) rfl (World.ownsRow.alloc OW4.out _) ⟨w3.heap.size, 0, none⟩ 1 1 [.int .i64 r1, .int .i64 r2] rfl rfl (two_new _ _ _ _ _ (by simp)) (two_cell _ _) (by unfold maxLen; omega) (by omega) (by simp; omega) ?_)
          intro v' w5 hown hgrow _
          have P2 := Lib.hid (put_app P.out.1 ((Below.refl _ w3).alloc (by omega) _) (by omega) hown hgrow)
          clear hown hgrow
          go_wp2_with fail
          go_roundw
          case rel => exact ⟨k + 1, true, _, by omega, by go_num, rfl, S.out, P2.out.1, hb.trans (P.out.2.trans P2.out.2)⟩
          case measure => simp [intOf]; omega
      · have q' : (r1 == x) = false := by simp; omega
        have q2 : ¬ x < r1 := by omega
        obtain ⟨rfl, S0⟩ := S4.out q
        have S := Lib.hid S0
        clear S1 S2 S3 S4 S0
        go_wp2_with (at_builtin; refine wpList_append_own _ rfl (.tmp 46) (.tmp 48) 55 rfl (w.heap.size + 2) 66 i0 (.agg #[.int .i64 0, .int .i64 0]) 2 16 Tryz.underlying55 hi hz0 hz1 hz2 rfl (by decide) (.slice A3 m3 c3) R.length (nods R) rfl (World.ownsRow.alloc (World.ownsRow.alloc OWNr.out _) _) ⟨wr.heap.size + 1, 0, none⟩ 1 1 [.int .i64 r1, .int .i64 r2] rfl rfl (two_new _ _ _ _ _ (by simp)) (two_cell _ _) (by unfold maxLen; omega) (by omega) (by simp; omega) ?_)
        intro v' w3 hown hgrow _
        have P := Lib.hid (put_app OWN.out (((Below.refl _ wr).alloc (by omega) _).alloc (by simp; omega) _) (by omega) hown hgrow)
        clear hown hgrow
        go_wp2_with fail
        go_roundw
        case rel => exact ⟨k + 1, false, _, by omega, by go_num, rfl, S.out, P.out.1, hb.trans (P.out.2.mono (by omega))⟩
        case measure => simp [intOf]; omega
    · have FIN := Lib.hid (PIN.out.fin (by have := HL.out; omega))
      obtain ⟨q0, q1⟩ := set_two d0 d1
      have fin : Hid (∀ (v : Value) (w3 : World), OwnNd 66 w3 (w.heap.size + 2) v (insW L x cc) → Below (w.heap.size + 2) wr w3 → ∀ u u', OwnNd 66 ((w3.setCell ⟨w.heap.size + 1, 0, none⟩ u).setCell ⟨w.heap.size + 1, 1, none⟩ u') w.heap.size v (insW L x cc) ∧ Below w.heap.size w ((w3.setCell ⟨w.heap.size + 1, 0, none⟩ u).setCell ⟨w.heap.size + 1, 1, none⟩ u')) := fun v w3 ho h3 u u' =>
        ⟨own_low (ownsRow_setCell_below (ownsRow_setCell_below ho (a := ⟨w.heap.size + 1, 0, none⟩) (Nat.lt_succ_self _) u) (a := ⟨w.heap.size + 1, 1, none⟩) (Nat.lt_succ_self _) u') (by omega),
         (((HB.out.trans ((hb.trans h3).mono (by omega))).setCell (p := ⟨w.heap.size + 1, 0, none⟩) (Nat.le_succ _) u).setCell (p := ⟨w.heap.size + 1, 1, none⟩) (Nat.le_succ _) u')⟩
      cases dd with
      | true =>
        have EQ : Hid (R = insW L x cc) := FIN.out
        have F := Lib.hid (fin.out _ wr (by have z := OWN.out; rw [EQ.out] at z; exact z) (Below.refl ..))
        go_wp2_with fail
        exact bodyPost_ret (v := .agg #[.int .i64 l, .slice A3 m3 c3]) (by simp [results, Tryz.results79, go_sem, q0, q1]) rfl ⟨_, _, _, rfl, (F.out _ _).1, (F.out _ _).2⟩
      | false =>
        have EQ : Hid (R ++ [(x, cc)] = insW L x cc) := FIN.out
        go_wp2_with (at_builtin; refine wpList_append_own _ rfl (.tmp 52) (.tmp 56) 55 rfl (w.heap.size + 2) 66 i0 (.agg #[.int .i64 0, .int .i64 0]) 2 16 Tryz.underlying55 hi hz0 hz1 hz2 rfl (by decide) (.slice A3 m3 c3) R.length (nods R) rfl (World.ownsRow.alloc OWNr.out _) ⟨wr.heap.size, 0, none⟩ 1 1 [.int .i64 x, .int .i64 cc] rfl rfl (two_new _ _ _ _ _ (by simp)) (two_cell _ _) (by unfold maxLen; omega) (by omega) (by simp; omega) ?_)
        intro v' w3 hown hgrow _
        have P := Lib.hid (put_app OWN.out ((Below.refl _ wr).alloc (by omega) _) (by omega) hown hgrow)
        have F := Lib.hid (fin.out v' w3 (by have z := P.out.1; rw [EQ.out] at z; exact z) P.out.2)
        obtain ⟨A4, m4, c4, rfl⟩ := ownNd_slice P.out.1
        clear c0 c1 d0 d1 f0 f1 g0 g1 lt q0 q1 hown hgrow
        obtain ⟨c0, c1, d0, d1, f0, f1, g0, g1, lt⟩ := (K0.out.to hb (by omega)).to P.out.2 (by omega)
        obtain ⟨q0, q1⟩ := set_two d0 d1
        go_wp2_with fail
        exact bodyPost_ret (v := .agg #[.int .i64 l, .slice A4 m4 c4]) (by simp [results, Tryz.results79, go_sem, q0, q1]) rfl ⟨_, _, _, rfl, (F.out _ _).1, (F.out _ _).2⟩
end Go.Proofs.YtelekchdbiimiaaGreat
namespace Go.Proofs.YtelekchdbiimiaaGreat
set_option linter.unusedVariables false
set_option maxRecDepth 100000
open Go.RowKit
attribute [local go_sem ↓] Go.wp_at_zero Go.wp_at_succ
theorem rg_old {l x : Int} {A : Option Addr} {n c : Nat} {L : List Nd} {w w' : World} (h : NodesAt w (.slice A n c) L) (hb : Below w.heap.size w w') : RgPost2 66 l L x (.slice A n c) w (.returned (.tuple #[.agg #[.int .i64 l, .slice A n c], .int .i64 x])) w' :=
  ⟨A, n, c, rfl, h.below hb, hb, .inl rfl⟩
theorem rg_new {l x : Int} {A : Option Addr} {n c : Nat} {L : List Nd} {v0 : Value} {w w' : World} (h : OwnNd 66 w' w.heap.size (.slice A n c) L) (hb : Below w.heap.size w w') : RgPost2 66 l L x v0 w (.returned (.tuple #[.agg #[.int .i64 l, .slice A n c], .int .i64 x])) w' :=
  ⟨A, n, c, rfl, ownNd_nodes h, hb, .inr h⟩
theorem not_leaf {l x : Int} (hu : 1 ≤ l ∧ l ≤ 48) (h : leafB l x = false) (h0 : 0 ≤ x) : 2 ^ l.toNat ≤ x := by
  rcases Int.lt_or_le x (2 ^ l.toNat) with q | q
  · rw [(leaf_yes (l := l) (x := x) ⟨hu.1, hu.2, h0, q⟩).2] at h; simp at h
  · exact q
set_option maxHeartbeats 3200000 in
theorem rgAdd_any (l x cc : Int) (A : Option Addr) (n c : Nat) (L : List Nd) (w : World) (h : NodesAt w (.slice A n c) L) (hC : BagC l L) (hn : n ≤ 400000) (A0 : -9223372036854775808 ≤ x) (A1 : x ≤ 9223372036854775807) (B0 : -9223372036854775808 ≤ cc) (B1 : cc ≤ 9223372036854775807) :
    Calls Tryz.prog 39 #[.agg #[.int .i64 l, .slice A n c], .int .i64 x, .int .i64 cc] w (RgPost2 66 l (bagS l L x cc) (bagE l L x cc) (.slice A n c) w) := by
  have hb0 := below_two w (.cells #[.int .i64 l, .slice A n c] 57) (.cells #[.int .i64 0, .slice none 0 0] 57)
  have K0 := Lib.hid (k4_new w 57 57 (.int .i64 l) (.slice A n c) (.int .i64 0) (.slice none 0 0))
  have HB := Lib.hid hb0
  have HN := Lib.hid h
  have HC := Lib.hid hC
  have HZ := Lib.hid (own2_size (w := w) (t := 57) (t2 := 57) (a := .int .i64 l) (b := .slice A n c) (c := .int .i64 0) (d := .slice none 0 0))
  have hu := hC.uni
  have hl0 : 0 ≤ l := by omega
  have hl1 : l ≤ 62 := by omega
  have s0 := hC.tot0
  have TOT := Lib.hid (fun w1 (hb : Below w.heap.size w w1) => rgTotal_any l A n c L w1 (h.below hb) (good_nonneg hC.good) hC.tot (by omega))
  have PUT := Lib.hid (fun w1 (hb : Below w.heap.size w w1) (h0 : 0 ≤ cc) (h1 : cc ≤ 72057594037927935) => rgPut_any l x cc A n c L w1 (h.below hb) hC.good hn hC.tot h0 h1)
  clear h hb0
  have PW := Lib.hid (fun w1 => rpower_any l w1 hl0 hl1)
  have NL := Lib.hid (fun q => not_leaf (l := l) (x := x) hu q)
  have YL := Lib.hid (fun q => leafB_iff (l := l) (x := x).1 q)
  unfold ValC at YL
  generalize (2 : Int) ^ l.toNat = P at *
  have hz2 := HZ.out
  rcases bag_cases (l := l) L x cc with q | ⟨q, q1⟩ | ⟨q, q1, q2⟩ | ⟨q, q1, q2⟩
  · have H := bag_range (L := L) (c := cc) q
    rw [H.1, H.2]
    have hp := NL.out q
    clear hC H
    by_cases x0 : x < 0
    · clear hp
      go_enter Tryz.func39, Tryz.ntmps39
      go_wp2_with (go_at_call 78; refine (PW.out _).mono ?_; rintro e w1 ⟨rfl, rfl⟩)
      exact bodyPost_ret (v := .tuple #[.agg #[.int .i64 l, .slice A n c], .int .i64 3]) (by simp [results, Tryz.results39, go_sem]) rfl (rg_old HN.out (below_two ..))
    · have hp2 := hp (by omega)
      clear hp
      go_enter Tryz.func39, Tryz.ntmps39
      go_wp2_with (go_at_call 78; refine (PW.out _).mono ?_; rintro e w1 ⟨rfl, rfl⟩)
      exact bodyPost_ret (v := .tuple #[.agg #[.int .i64 l, .slice A n c], .int .i64 3]) (by simp [results, Tryz.results39, go_sem]) rfl (rg_old HN.out (below_two ..))
  · have H := bag_zero (L := L) q q1
    rw [H.1, H.2]
    obtain ⟨_, _, y0, y1⟩ := YL.out q
    clear hC H
    go_enter Tryz.func39, Tryz.ntmps39
    go_wp2_with (go_at_call 78; refine (PW.out _).mono ?_; rintro e w1 ⟨rfl, rfl⟩)
    exact bodyPost_ret (v := .tuple #[.agg #[.int .i64 l, .slice A n c], .int .i64 4]) (by simp [results, Tryz.results39, go_sem]) rfl (rg_old HN.out (below_two ..))
  · have H := bag_full (L := L) q q1 q2
    rw [H.1, H.2]
    obtain ⟨_, _, y0, y1⟩ := YL.out q
    clear hC H
    generalize sumC L = T at *
    go_enter Tryz.func39, Tryz.ntmps39
    go_wp2_with (first | (go_at_call 78; refine (PW.out _).mono ?_; rintro e w1 ⟨rfl, rfl⟩) | (go_at_call 17; refine (TOT.out _ HB.out).mono ?_; rintro e w2 ⟨rfl, hb2⟩; obtain ⟨c0, c1, d0, d1, f0, f1, g0, g1, lt⟩ := K0.out.to hb2 (by simp); obtain ⟨q0, q1⟩ := set_two d0 d1))
    have hb3 := fun u u' => ((HB.out.trans (hb2.mono (by omega))).setCell (p := ⟨w.heap.size + 1, 0, none⟩) (Nat.le_succ _) u).setCell (p := ⟨w.heap.size + 1, 1, none⟩) (Nat.le_succ _) u'
    exact bodyPost_ret (v := .tuple #[.agg #[.int .i64 l, .slice A n c], .int .i64 5]) (by simp [results, Tryz.results39, go_sem, q0, q1]) rfl (rg_old HN.out (hb3 _ _))
  · have H := bag_ok (L := L) q q1 q2
    rw [H.1, H.2]
    obtain ⟨_, _, y0, y1⟩ := YL.out q
    have PT := Lib.hid (fun w1 hb => PUT.out w1 hb (by omega) (by omega))
    clear hC H PUT
    generalize sumC L = T at *
    go_enter Tryz.func39, Tryz.ntmps39
    go_wp2_with (first | (go_at_call 78; refine (PW.out _).mono ?_; rintro e w1 ⟨rfl, rfl⟩) | (go_at_call 17; refine (TOT.out _ HB.out).mono ?_; rintro e w2 ⟨rfl, hb2⟩; obtain ⟨c0, c1, d0, d1, f0, f1, g0, g1, lt⟩ := K0.out.to hb2 (by simp); obtain ⟨q0, q1⟩ := set_two d0 d1) | (go_at_call 79; refine (PT.out _ (HB.out.trans (hb2.mono (by omega)))).mono ?_; rintro e w3 ⟨A5, m5, c5, rfl, hown, hb3⟩; clear c0 c1 d0 d1 f0 f1 g0 g1 lt q0 q1; obtain ⟨c0, c1, d0, d1, f0, f1, g0, g1, lt⟩ := (K0.out.to hb2 (by simp)).to hb3 (by have := hb2.size; omega); obtain ⟨q0, q1⟩ := set_two d0 d1))
    have hz := hb2.size
    have hb4 := fun u u' => (((HB.out.trans (hb2.mono (by omega))).trans (hb3.mono (by omega))).setCell (p := ⟨w.heap.size + 1, 0, none⟩) (Nat.le_succ _) u).setCell (p := ⟨w.heap.size + 1, 1, none⟩) (Nat.le_succ _) u'
    have hown4 := fun u u' => ownsRow_setCell_below (ownsRow_setCell_below hown (a := ⟨w.heap.size + 1, 0, none⟩) (by show w.heap.size + 1 < w2.heap.size; omega) u) (a := ⟨w.heap.size + 1, 1, none⟩) (by show w.heap.size + 1 < w2.heap.size; omega) u'
    exact bodyPost_ret (v := .tuple #[.agg #[.int .i64 l, .slice A5 m5 c5], .int .i64 0]) (by simp [results, Tryz.results39, go_sem, q0, q1]) rfl (rg_new (own_low (hown4 _ _) (by omega)) (hb4 _ _))
end Go.Proofs.YtelekchdbiimiaaGreat
