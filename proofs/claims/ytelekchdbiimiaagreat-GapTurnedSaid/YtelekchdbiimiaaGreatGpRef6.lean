/- The document's answers of package dewpondref21, over the contract of its at: Side, Apart. -/
import Derived.Test.YtelekchdbiimiaaGreatGpRef5
import Derived.Test.YtelekchdbiimiaaGreatGpRef2
import Derived.Deep.RegionHeld3
namespace Go.Proofs.YtelekchdbiimiaaGreat
set_option linter.unusedVariables false
set_option maxRecDepth 100000
open Go.RowKit
theorem re_next2 {W a b : World} (h : Below W.heap.size W a) (hb : Below a.heap.size a b) : Below W.heap.size W b := h.trans (hb.mono h.size)
theorem gp_keep7 {W a b : World} {p1 p2 p3 p4 p5 p6 p7 : Addr} {x1 x2 x3 x4 x5 x6 x7 : Value} (h : a.cell? p1 = some x1 ∧ a.cell? p2 = some x2 ∧ a.cell? p3 = some x3 ∧ a.cell? p4 = some x4 ∧ a.cell? p5 = some x5 ∧ a.cell? p6 = some x6 ∧ a.cell? p7 = some x7 ∧ Below W.heap.size W a) (hb : Below a.heap.size a b)
    (h1 : p1.block < W.heap.size) (h2 : p2.block < W.heap.size) (h3 : p3.block < W.heap.size) (h4 : p4.block < W.heap.size) (h5 : p5.block < W.heap.size) (h6 : p6.block < W.heap.size) (h7 : p7.block < W.heap.size) :
    b.cell? p1 = some x1 ∧ b.cell? p2 = some x2 ∧ b.cell? p3 = some x3 ∧ b.cell? p4 = some x4 ∧ b.cell? p5 = some x5 ∧ b.cell? p6 = some x6 ∧ b.cell? p7 = some x7 ∧ Below W.heap.size W b := by
  obtain ⟨a1, a2, a3, a4, a5, a6, a7, a8⟩ := h
  have hz := a8.size
  exact ⟨(hb.cell (by omega)).trans a1, (hb.cell (by omega)).trans a2, (hb.cell (by omega)).trans a3, (hb.cell (by omega)).trans a4, (hb.cell (by omega)).trans a5, (hb.cell (by omega)).trans a6, (hb.cell (by omega)).trans a7, a8.trans (hb.mono hz)⟩
theorem gp_below7 {W a : World} {p1 p2 p3 p4 p5 p6 p7 : Addr} {x1 x2 x3 x4 x5 x6 x7 : Value} (h : a.cell? p1 = some x1 ∧ a.cell? p2 = some x2 ∧ a.cell? p3 = some x3 ∧ a.cell? p4 = some x4 ∧ a.cell? p5 = some x5 ∧ a.cell? p6 = some x6 ∧ a.cell? p7 = some x7 ∧ Below W.heap.size W a) : Below W.heap.size W a := h.2.2.2.2.2.2.2
/-- the contract of at -/
structure GpAt : Prop where
  at' : ∀ {l : Int} (k1 : Int) (A1 : Option Addr) (n1 c1 : Nat) (L : List Nd) (k2 : Int) (A2 : Option Addr) (n2 c2 : Nat) (M : List Nd) (y : Int) (w : World), NodesAt w (.slice A1 n1 c1) L → RollC l L → n1 ≤ 1000 → NodesAt w (.slice A2 n2 c2) M → RollC l M → n2 ≤ 1000 → -9223372036854775808 ≤ y → y ≤ 9223372036854775807 →
    Calls Tryz.prog 29 #[.agg #[.int .i64 k1, .int .i64 l, .slice A1 n1 c1], .agg #[.int .i64 k2, .int .i64 l, .slice A2 n2 c2], .int .i64 y] w fun e w' => e = .returned (.int .i64 (sdN l L M y)) ∧ Below w.heap.size w w'
set_option maxHeartbeats 3200000 in
theorem rGpSide_any (KA : GpAt) {l1 l2 : Int} (k1 : Int) (A1 : Option Addr) (n1 c1 : Nat) (L : List Nd) (k2 : Int) (A2 : Option Addr) (n2 c2 : Nat) (M : List Nd) (y : Int) (w : World) (h1 : NodesAt w (.slice A1 n1 c1) L) (hr1 : RollC l1 L) (hn1 : n1 ≤ 1000) (h2 : NodesAt w (.slice A2 n2 c2) M) (hr2 : RollC l2 M) (hn2 : n2 ≤ 1000) (Y0 : -9223372036854775808 ≤ y) (Y1 : y ≤ 9223372036854775807) :
    Calls Tryz.prog 11 #[.agg #[.int .i64 k1, .int .i64 l1, .slice A1 n1 c1], .agg #[.int .i64 k2, .int .i64 l2, .slice A2 n2 c2], .int .i64 y] w fun e w' => e = .returned (.tuple #[.int .i64 (sdE l1 l2 L M y), .int .i64 (gpE l1 l2 L M)]) ∧ Below w.heap.size w w' := by
  have TW := Lib.hid (GpTw.new 31 w k1 l1 A1 n1 c1 k2 l2 A2 n2 c2)
  have WR := Lib.hid (fun v (hb : Below w.heap.size w v) => rGpWrong_any k1 A1 n1 c1 L k2 A2 n2 c2 M v (h1.below hb) hr1 hn1 (h2.below hb) hr2 hn2)
  have SE : Hid (sdE l1 l2 L M y = if gpE l1 l2 L M = 0 then sdN l1 L M y else 0) := rfl
  have GY := Lib.hid (fun (h : gpE l1 l2 L M = 0) => gpE_yes h)
  have AT := Lib.hid (fun (e : l1 = l2) v (hb : Below w.heap.size w v) => KA.at' (l := l1) k1 A1 n1 c1 L k2 A2 n2 c2 M y v (h1.below hb) hr1 hn1 (h2.below hb) (by rw [e]; exact hr2) hn2 Y0 Y1)
  clear h1 hr1 h2 hr2 KA
  generalize sdE l1 l2 L M y = se at *
  generalize gpE l1 l2 L M = ge at *
  by_cases hg : ge = 0
  · obtain ⟨hll, _, _⟩ := GY.out hg
    have e1 : se = sdN l1 L M y := by rw [SE.out, if_pos hg]
    subst hg hll e1
    have AT1 := Lib.hid (AT.out rfl)
    clear SE GY AT
    go_enter Tryz.func11, Tryz.ntmps11
    go_upto_region 1 with fail
    generalize ((w.alloc (.cells #[.int .i64 k1, .int .i64 l1, .slice A1 n1 c1] 31)).alloc (.cells #[.int .i64 k2, .int .i64 l1, .slice A2 n2 c2] 31)) = W at *
    obtain ⟨⟨x0, x1, x2⟩, ⟨y0, y1, y2⟩, zx, zy⟩ := TW.out.cells
    go_wp2_with fail
    refine (WR.out _ TW.out.hb).mono ?_
    rintro e v1 ⟨rfl, hb1⟩
    have T1 := Lib.hid (TW.out.below hb1)
    clear hb1 x0 x1 x2 y0 y1 y2 zx zy
    obtain ⟨⟨x0, x1, x2⟩, ⟨y0, y1, y2⟩, zx, zy⟩ := T1.out.cells
    go_wp2_with fail
    refine (AT1.out _ T1.out.hb).mono ?_
    rintro e v2 ⟨rfl, hb2⟩
    go_wp2_with fail
    go_ret2
    exact ⟨rfl, T1.out.hb.trans (hb2.mono T1.out.hb.size)⟩
  · have b1 : (ge == 0) = false := beq_eq_false_iff_ne.2 hg
    have e1 : se = 0 := by rw [SE.out, if_neg hg]
    subst e1
    clear SE GY AT
    go_enter Tryz.func11, Tryz.ntmps11
    go_upto_region 1 with fail
    generalize ((w.alloc (.cells #[.int .i64 k1, .int .i64 l1, .slice A1 n1 c1] 31)).alloc (.cells #[.int .i64 k2, .int .i64 l2, .slice A2 n2 c2] 31)) = W at *
    obtain ⟨⟨x0, x1, x2⟩, ⟨y0, y1, y2⟩, zx, zy⟩ := TW.out.cells
    go_wp2_with fail
    refine (WR.out _ TW.out.hb).mono ?_
    rintro e v1 ⟨rfl, hb1⟩
    have T1 := Lib.hid (TW.out.below hb1)
    clear hb1 x0 x1 x2 y0 y1 y2 zx zy
    go_wp2_with fail
    go_ret2
    exact ⟨rfl, T1.out.hb⟩
set_option maxHeartbeats 6400000 in
theorem rGpApart_any (KA : GpAt) {l1 l2 : Int} (k1 : Int) (A1 : Option Addr) (n1 c1 : Nat) (L : List Nd) (k2 : Int) (A2 : Option Addr) (n2 c2 : Nat) (M : List Nd) (w : World) (h1 : NodesAt w (.slice A1 n1 c1) L) (hr1 : RollC l1 L) (hn1 : n1 ≤ 1000) (h2 : NodesAt w (.slice A2 n2 c2) M) (hr2 : RollC l2 M) (hn2 : n2 ≤ 1000) :
    Calls Tryz.prog 13 #[.agg #[.int .i64 k1, .int .i64 l1, .slice A1 n1 c1], .agg #[.int .i64 k2, .int .i64 l2, .slice A2 n2 c2]] w fun e w' => e = .returned (.tuple #[.int .i64 (apX l1 l2 L M), .int .i64 (apZ l1 l2 L M), .int .i64 (gpE l1 l2 L M)]) ∧ Below w.heap.size w w' := by
  have TW := Lib.hid (GpTw.new 31 w k1 l1 A1 n1 c1 k2 l2 A2 n2 c2)
  have WR := Lib.hid (fun v (hb : Below w.heap.size w v) => rGpWrong_any k1 A1 n1 c1 L k2 A2 n2 c2 M v (h1.below hb) hr1 hn1 (h2.below hb) hr2 hn2)
  have SX : Hid (apX l1 l2 L M = if gpE l1 l2 L M = 0 then (apF (sdN l1 L M) (gpP l1 L M)).1 else 0) := rfl
  have SZ : Hid (apZ l1 l2 L M = if gpE l1 l2 L M = 0 then (apF (sdN l1 L M) (gpP l1 L M)).2 else 0) := rfl
  have GY := Lib.hid (fun (h : gpE l1 l2 L M = 0) => gpE_yes h)
  have H1 := Lib.hid h1
  have H2 := Lib.hid h2
  have HR1 := Lib.hid hr1
  have HR2 := Lib.hid hr2
  have HA := Lib.hid KA
  clear h1 hr1 h2 hr2 KA
  generalize apX l1 l2 L M = ax at *
  generalize apZ l1 l2 L M = az at *
  generalize gpE l1 l2 L M = ge at *
  by_cases hg : ge = 0
  case neg =>
    have b1 : (ge == 0) = false := beq_eq_false_iff_ne.2 hg
    have e1 : ax = 0 := by rw [SX.out, if_neg hg]
    have e2 : az = 0 := by rw [SZ.out, if_neg hg]
    subst e1 e2
    clear SX SZ GY HA H1 H2 HR1 HR2
    go_enter Tryz.func13, Tryz.ntmps13
    go_upto_region 1 with fail
    generalize ((w.alloc (.cells #[.int .i64 k1, .int .i64 l1, .slice A1 n1 c1] 31)).alloc (.cells #[.int .i64 k2, .int .i64 l2, .slice A2 n2 c2] 31)) = W at *
    obtain ⟨⟨x0, x1, x2⟩, ⟨y0, y1, y2⟩, zx, zy⟩ := TW.out.cells
    go_wp2_with fail
    refine (WR.out _ TW.out.hb).mono ?_
    rintro e v1 ⟨rfl, hb1⟩
    have T1 := Lib.hid (TW.out.below hb1)
    clear hb1 x0 x1 x2 y0 y1 y2 zx zy
    go_wp2_with fail
    go_ret3
    exact ⟨rfl, T1.out.hb⟩
  case pos =>
    obtain ⟨hll, hs1, hs2⟩ := GY.out hg
    subst hll
    have e1 : ax = (apF (sdN l1 L M) (gpP l1 L M)).1 := by rw [SX.out, if_pos hg]
    have e2 : az = (apF (sdN l1 L M) (gpP l1 L M)).2 := by rw [SZ.out, if_pos hg]
    have q1 := gp_pos H1.out hs1
    have q2 := gp_pos H2.out hs2
    have EN := Lib.hid (fun v (hb : Below w.heap.size w v) => rGpEnds_any k1 A1 n1 c1 L k2 A2 n2 c2 M v (H1.out.below hb) HR1.out hn1 (H2.out.below hb) HR2.out hn2 q1 q2)
    have AT := Lib.hid (fun y Y0 Y1 v (hb : Below w.heap.size w v) => HA.out.at' (l := l1) k1 A1 n1 c1 L k2 A2 n2 c2 M y v (H1.out.below hb) HR1.out hn1 (H2.out.below hb) HR2.out hn2 Y0 Y1)
    have PP := Lib.hid (fun (m : Nat) (hm : m < (gpP l1 L M).length) => gp_at HR1.out HR2.out hm)
    have PN : Hid ((gpP l1 L M).length ≤ 4001) := by have a := (nodes_cells H1.out).1; have b := (nodes_cells H2.out).1; show _ ≤ _; rw [gp_len]; omega
    have TK := Lib.hid (fun (k : Nat) hk => apF_take (sdN l1 L M) (P := gpP l1 L M) (k := k) hk)
    have T0 : Hid (apF (sdN l1 L M) ((gpP l1 L M).take 0) = (0, 0)) := rfl
    clear SX SZ GY HA H1 H2 HR1 HR2 hs1 hs2 q1 q2
    generalize gpP l1 L M = P at *
    generalize sdN l1 L M = F at *
    have AX := Lib.hid (And.intro e1 e2)
    clear e1 e2
    subst hg
    go_enter Tryz.func13, Tryz.ntmps13
    go_upto_region 1 with fail
    generalize ((w.alloc (.cells #[.int .i64 k1, .int .i64 l1, .slice A1 n1 c1] 31)).alloc (.cells #[.int .i64 k2, .int .i64 l1, .slice A2 n2 c2] 31)) = W at *
    obtain ⟨⟨x0, x1, x2⟩, ⟨y0, y1, y2⟩, zx, zy⟩ := TW.out.cells
    go_wp2_with fail
    refine (WR.out _ TW.out.hb).mono ?_
    rintro e v1 ⟨rfl, hb1⟩
    have T1 := Lib.hid (TW.out.below hb1)
    clear hb1 x0 x1 x2 y0 y1 y2 zx zy WR TW
    obtain ⟨⟨x0, x1, x2⟩, ⟨y0, y1, y2⟩, zx, zy⟩ := T1.out.cells
    go_wp2_with fail
    refine (EN.out _ T1.out.hb).mono ?_
    rintro e v2 ⟨⟨A9, m9, c9, rfl, ho2⟩, hb2⟩
    have T2 := Lib.hid (T1.out.below hb2)
    have I2 := Lib.hid (ownI_ints ho2)
    have M9 : Hid (m9 = P.length) := (ints_cells (ownI_ints ho2)).1
    have m9b : m9 ≤ 4001 := by have := M9.out; have := PN.out; omega
    clear ho2 hb2 x0 x1 x2 y0 y1 y2 zx zy EN T1 PN
    go_wp2_with fail
    go_loopw [8, 9, 11] (fun xv sv i wr => ∃ m : Nat, m ≤ m9 ∧ i = .int .i64 m ∧ xv = .int .i64 (apF F (P.take m)).1 ∧ sv = .int .i64 (apF F (P.take m)).2 ∧ Below v2.heap.size v2 wr) (fun _ _ i _ => m9 - (intOf i).toNat)
    case atStart => exact ⟨0, by omega, rfl, by rw [T0.out], by rw [T0.out], Below.refl _ _⟩
    case round =>
      obtain ⟨m, hm, rfl, rfl, rfl, hbr⟩ := hrel
      have BR := Lib.hid hbr
      clear hbr
      by_cases hlt : m < m9
      · have hml : m < P.length := by have := M9.out; omega
        have T3 := Lib.hid (T2.out.below BR.out)
        obtain ⟨b9, o9, rfl, hbz, ec⟩ := gpInts_at (I2.out.below BR.out) hlt
        have pp := PP.out m hml
        have tk := Lib.hid (TK.out m hml)
        have k0 : (0 : Int) ≤ (m : Int) := Int.natCast_nonneg _
        have k1' : (m : Int) < (m9 : Int) := by omega
        generalize P.getD m 0 = y at *
        generalize hza : apF F (P.take (m + 1)) = Z at *
        have HZ := Lib.hid hza
        generalize apF F (P.take m) = S at *
        obtain ⟨sx, ss⟩ := S
        simp only at tk ⊢
        have AT1 := Lib.hid (AT.out y pp.1 pp.2)
        have SP : Hid (Z = if F y ≠ 0 ∧ (ss = 0 ∨ y < sx) then (y, F y) else (sx, ss)) := tk.out
        clear hza tk pp
        generalize F y = fy at *
        obtain ⟨⟨x0, x1, x2⟩, ⟨y0, y1, y2⟩, zx, zy⟩ := T3.out.cells
        have KD : Hid (w.heap.size < wr.heap.size) := zx
        have KE : Hid (w.heap.size + 1 < wr.heap.size) := zy
        have KG : Hid (b9 < wr.heap.size) := hbz
        have WTC := Lib.hid (fun v (hb : Below wr.heap.size wr v) => AT1.out v (T3.out.hb.trans (hb.mono T3.out.hb.size)))
        go_wp2_with fail
        go_region_held3 (fun w' => w'.cell? ⟨w.heap.size, 0, none⟩ = some (.int .i64 k1) ∧ w'.cell? ⟨w.heap.size, 1, none⟩ = some (.int .i64 l1) ∧ w'.cell? ⟨w.heap.size, 2, none⟩ = some (.slice A1 n1 c1) ∧ w'.cell? ⟨w.heap.size + 1, 0, none⟩ = some (.int .i64 k2) ∧ w'.cell? ⟨w.heap.size + 1, 1, none⟩ = some (.int .i64 l1) ∧ w'.cell? ⟨w.heap.size + 1, 2, none⟩ = some (.slice A2 n2 c2) ∧ w'.cell? ⟨b9, o9 + m, none⟩ = some (.int .i64 y) ∧ Below wr.heap.size wr w')
          (first | assumption | (exact gp_keep7 (by assumption) (by assumption) KD.out KD.out KD.out KE.out KE.out KE.out KG.out) | (exact ⟨x0, x1, x2, y0, y1, y2, ec, below_drew _⟩))
          (first
            | (go_at_call 29; refine (WTC.out _ (gp_below7 (p1 := ⟨w.heap.size, 0, none⟩) (p2 := ⟨w.heap.size, 1, none⟩) (p3 := ⟨w.heap.size, 2, none⟩) (p4 := ⟨w.heap.size + 1, 0, none⟩) (p5 := ⟨w.heap.size + 1, 1, none⟩) (p6 := ⟨w.heap.size + 1, 2, none⟩) (p7 := ⟨b9, o9 + m, none⟩) (x1 := .int .i64 k1) (x2 := .int .i64 l1) (x3 := .slice A1 n1 c1) (x4 := .int .i64 k2) (x5 := .int .i64 l1) (x6 := .slice A2 n2 c2) (x7 := .int .i64 y) (by assumption))).mono ?_; rintro e w6 ⟨rfl, hb6⟩))
        rename_i hH0
        obtain ⟨_, _, _, _, _, _, ec6, hB0⟩ := hH0
        have B6 := Lib.hid (re_next2 BR.out hB0)
        have kg6 : b9 < w6.heap.size := Nat.lt_of_lt_of_le KG.out hB0.size
        clear x0 x1 x2 y0 y1 y2 zx zy KD KE KG WTC hB0 BR T3 AT1 hbz ec hb6
        rcases (show (fy = 0) ∨ (¬ fy = 0 ∧ ss = 0) ∨ (¬ fy = 0 ∧ ¬ ss = 0 ∧ y < sx) ∨ (¬ fy = 0 ∧ ¬ ss = 0 ∧ ¬ y < sx) by omega) with u | ⟨u, v⟩ | ⟨u, v, z⟩ | ⟨u, v, z⟩
        · have e : Z = (sx, ss) := by rw [SP.out, if_neg (fun q => q.1 u)]
          subst e
          subst u
          clear SP
          go_wp2_with fail
          go_roundw
          case rel => exact ⟨m + 1, by omega, by go_num, by rw [HZ.out], by rw [HZ.out], B6.out⟩
          case measure => simp [intOf]; omega
        · have e : Z = (y, fy) := by rw [SP.out, if_pos ⟨u, .inl v⟩]
          subst e
          have f1 : (fy == 0) = false := beq_eq_false_iff_ne.2 u
          subst v
          clear SP
          go_wp2_with fail
          go_roundw
          case rel => exact ⟨m + 1, by omega, by go_num, by rw [HZ.out], by rw [HZ.out], B6.out⟩
          case measure => simp [intOf]; omega
        · have e : Z = (y, fy) := by rw [SP.out, if_pos ⟨u, .inr z⟩]
          subst e
          have f1 : (fy == 0) = false := beq_eq_false_iff_ne.2 u
          have f2 : (ss == 0) = false := beq_eq_false_iff_ne.2 v
          clear SP
          go_wp2_with fail
          go_roundw
          case rel => exact ⟨m + 1, by omega, by go_num, by rw [HZ.out], by rw [HZ.out], B6.out⟩
          case measure => simp [intOf]; omega
        · have e : Z = (sx, ss) := by rw [SP.out, if_neg (fun q => q.2.elim v z)]
          subst e
          have f1 : (fy == 0) = false := beq_eq_false_iff_ne.2 u
          have f2 : (ss == 0) = false := beq_eq_false_iff_ne.2 v
          clear SP
          go_wp2_with fail
          go_roundw
          case rel => exact ⟨m + 1, by omega, by go_num, by rw [HZ.out], by rw [HZ.out], B6.out⟩
          case measure => simp [intOf]; omega
      · obtain rfl : m = m9 := by omega
        have e : P.take m = P := List.take_of_length_le (by have := M9.out; omega)
        obtain ⟨a1, a2⟩ := AX.out
        rw [← e] at a1 a2
        have TF := Lib.hid (T2.out.below BR.out)
        clear e
        generalize apF F (P.take m) = S at *
        obtain ⟨sx, ss⟩ := S
        simp only at a1 a2 ⊢
        subst a1 a2
        go_wp2_with fail
        go_ret3
        exact ⟨rfl, TF.out.hb⟩
theorem gpAt : GpAt := ⟨fun k1 A1 n1 c1 L k2 A2 n2 c2 M y w h1 hr1 hn1 h2 hr2 hn2 Y0 Y1 => rGpAt_any k1 A1 n1 c1 L k2 A2 n2 c2 M y w h1 hr1 hn1 h2 hr2 hn2 Y0 Y1⟩
end Go.Proofs.YtelekchdbiimiaaGreat
