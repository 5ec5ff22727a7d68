/- The document's answers of package dewpondref21: at, Side. -/
import Derived.Test.YtelekchdbiimiaaGreatGpRef
import Derived.Deep.RegionHeld3
import Derived.Deep.Cut
namespace Go.Proofs.YtelekchdbiimiaaGreat
set_option linter.unusedVariables false
set_option maxRecDepth 100000
open Go.RowKit
theorem gp_below8 {W a : World} {p1 p2 p3 p4 p5 p6 p7 p8 : Addr} {x1 x2 x3 x4 x5 x6 x7 x8 : Value} (h : a.cell? p1 = some x1 ∧ a.cell? p2 = some x2 ∧ a.cell? p3 = some x3 ∧ a.cell? p4 = some x4 ∧ a.cell? p5 = some x5 ∧ a.cell? p6 = some x6 ∧ a.cell? p7 = some x7 ∧ a.cell? p8 = some x8 ∧ Below W.heap.size W a) : Below W.heap.size W a := h.2.2.2.2.2.2.2.2
theorem gp_st1 {T : TypeId} {w : World} {p : Nat} {x y u v : Value} (h : w.ownsRow 0 T 2 (.slice (some ⟨p, 0, none⟩) 1 1) 1 [x, y]) : ((w.setCell ⟨p, 0, none⟩ u).setCell ⟨p, 1, none⟩ v).ownsRow 0 T 2 (.slice (some ⟨p, 0, none⟩) 1 1) 1 [u, v] := by
  have a := (h.stored 0 u).1
  exact (a.stored 1 v).1
theorem gp_st2 {T : TypeId} {w : World} {p q : Nat} {x y u v : Value} (h : w.ownsRow 0 T 2 (.slice (some ⟨p, 0, none⟩) 1 1) 1 [x, y]) (n : p ≠ q) : ((w.setCell ⟨q, 0, none⟩ u).setCell ⟨q, 1, none⟩ v).ownsRow 0 T 2 (.slice (some ⟨p, 0, none⟩) 1 1) 1 [x, y] :=
  own_kp (own_kp h (Kp.setCell w ⟨q, 0, none⟩ u) fun g e f => by simp [Value.ownBlock] at e; exact n (e.trans f)) (Kp.setCell _ ⟨q, 1, none⟩ v) fun g e f => by simp [Value.ownBlock] at e; exact n (e.trans f)
theorem gp_keep6 {W a b : World} {p1 p2 p3 p4 p5 p6 : Addr} {x1 x2 x3 x4 x5 x6 : Value} (h : a.cell? p1 = some x1 ∧ a.cell? p2 = some x2 ∧ a.cell? p3 = some x3 ∧ a.cell? p4 = some x4 ∧ a.cell? p5 = some x5 ∧ a.cell? p6 = some x6 ∧ Below W.heap.size W a) (hb : Below a.heap.size a b)
    (h1 : p1.block < W.heap.size) (h2 : p2.block < W.heap.size) (h3 : p3.block < W.heap.size) (h4 : p4.block < W.heap.size) (h5 : p5.block < W.heap.size) (h6 : p6.block < W.heap.size) : b.cell? p1 = some x1 ∧ b.cell? p2 = some x2 ∧ b.cell? p3 = some x3 ∧ b.cell? p4 = some x4 ∧ b.cell? p5 = some x5 ∧ b.cell? p6 = some x6 ∧ Below W.heap.size W b := by
  obtain ⟨a1, a2, a3, a4, a5, a6, a7⟩ := h
  have hz := a7.size
  exact ⟨(hb.cell (by omega)).trans a1, (hb.cell (by omega)).trans a2, (hb.cell (by omega)).trans a3, (hb.cell (by omega)).trans a4, (hb.cell (by omega)).trans a5, (hb.cell (by omega)).trans a6, a7.trans (hb.mono hz)⟩
theorem gp_below6 {W a : World} {p1 p2 p3 p4 p5 p6 : Addr} {x1 x2 x3 x4 x5 x6 : Value} (h : a.cell? p1 = some x1 ∧ a.cell? p2 = some x2 ∧ a.cell? p3 = some x3 ∧ a.cell? p4 = some x4 ∧ a.cell? p5 = some x5 ∧ a.cell? p6 = some x6 ∧ Below W.heap.size W a) : Below W.heap.size W a := h.2.2.2.2.2.2
theorem gp_keep6G {W a b : World} {p1 p2 p3 p4 p5 p6 : Addr} {x1 x2 x3 x4 x5 x6 : Value} (h : a.cell? p1 = some x1 ∧ a.cell? p2 = some x2 ∧ a.cell? p3 = some x3 ∧ a.cell? p4 = some x4 ∧ a.cell? p5 = some x5 ∧ a.cell? p6 = some x6 ∧ Below W.heap.size W a) (hb : Below W.heap.size a b)
    (h1 : p1.block < W.heap.size) (h2 : p2.block < W.heap.size) (h3 : p3.block < W.heap.size) (h4 : p4.block < W.heap.size) (h5 : p5.block < W.heap.size) (h6 : p6.block < W.heap.size) : b.cell? p1 = some x1 ∧ b.cell? p2 = some x2 ∧ b.cell? p3 = some x3 ∧ b.cell? p4 = some x4 ∧ b.cell? p5 = some x5 ∧ b.cell? p6 = some x6 ∧ Below W.heap.size W b := by
  obtain ⟨a1, a2, a3, a4, a5, a6, a7⟩ := h
  exact ⟨(hb.cell h1).trans a1, (hb.cell h2).trans a2, (hb.cell h3).trans a3, (hb.cell h4).trans a4, (hb.cell h5).trans a5, (hb.cell h6).trans a6, a7.trans hb⟩
theorem gp_bsG {B : Nat} {a w : World} {q : Nat} {u v : Value} (h : Below B a w) (n : B ≤ q) : Below B a ((w.setCell ⟨q, 0, none⟩ u).setCell ⟨q, 1, none⟩ v) := (h.setCell (p := ⟨q, 0, none⟩) n u).setCell (p := ⟨q, 1, none⟩) n v
theorem gp_boxN (w : World) (T : TypeId) (a b : Value) (p : Nat) (h : p = w.heap.size) : (w.alloc (.cells #[a, b] T)).ownsRow 0 T 2 (.slice (some ⟨p, 0, none⟩) 1 1) 1 [a, b] := by subst h; exact own_low (box2 w T a b) (Nat.zero_le _)
theorem gp_box (w : World) (T : TypeId) (a b : Value) : (w.alloc (.cells #[a, b] T)).ownsRow 0 T 2 (.slice (some ⟨w.heap.size, 0, none⟩) 1 1) 1 [a, b] := own_low (box2 w T a b) (Nat.zero_le _)
set_option maxHeartbeats 64000000 in
theorem rGpAt_any {l : Int} (k1 : Int) (A1 : Option Addr) (n1 c1 : Nat) (L : List Nd) (k2 : Int) (A2 : Option Addr) (n2 c2 : Nat) (M : List Nd) (y : Int) (w : World) (h1 : NodesAt w (.slice A1 n1 c1) L) (hr1 : RollC l L) (hn1 : n1 ≤ 1000) (h2 : NodesAt w (.slice A2 n2 c2) M) (hr2 : RollC l M) (hn2 : n2 ≤ 1000) (Y0 : -9223372036854775808 ≤ y) (Y1 : y ≤ 9223372036854775807) :
    Calls Tryz.prog 29 #[.agg #[.int .i64 k1, .int .i64 l, .slice A1 n1 c1], .agg #[.int .i64 k2, .int .i64 l, .slice A2 n2 c2], .int .i64 y] w fun e w' => e = .returned (.int .i64 (sdN l L M y)) ∧ Below w.heap.size w w' := by
  have TW := Lib.hid (GpTw.new 31 w k1 l A1 n1 c1 k2 l A2 n2 c2)
  have WA := Lib.hid (fun v (hb : Below w.heap.size w v) => rDgWeight_any l k1 A1 n1 c1 L v (h1.below hb) hr1 hn1)
  have WB := Lib.hid (fun v (hb : Below w.heap.size w v) => rDgWeight_any l k2 A2 n2 c2 M v (h2.below hb) hr2 hn2)
  have BA := Lib.hid (fun v (hb : Below w.heap.size w v) => rGpBoth_any k1 y A1 n1 c1 L v (h1.below hb) hr1 hn1 Y0 Y1)
  have BB := Lib.hid (fun v (hb : Below w.heap.size w v) => rGpBoth_any k2 y A2 n2 c2 M v (h2.below hb) hr2 hn2 Y0 Y1)
  have SD : Hid (sdN l L M y = if highR l M y * sumC L < lowR l L y * sumC M then 1 else if highR l L y * sumC M < lowR l M y * sumC L then -1 else 0) := rfl
  have la := low_bd hr1 y
  have ha := high_bd hr1 y
  have lb := low_bd hr2 y
  have hb := high_bd hr2 y
  have sa : 0 ≤ sumC L ∧ sumC L ≤ 72057594037927935 := ⟨sumC_nonneg (good_nonneg (roll_good hr1)), hr1.2.2.2.2⟩
  have sb : 0 ≤ sumC M ∧ sumC M ≤ 72057594037927935 := ⟨sumC_nonneg (good_nonneg (roll_good hr2)), hr2.2.2.2.2⟩
  clear h1 hr1 h2 hr2
  generalize sdN l L M y = sd at *
  generalize lowR l L y = p0 at *
  generalize highR l L y = p1 at *
  generalize lowR l M y = q0 at *
  generalize highR l M y = q1 at *
  generalize sumC L = sL at *
  generalize sumC M = sM at *
  have O1 := Lib.hid (fun v => rfOrd_any p0 sM q1 sL v (by omega) (by omega) (by omega) (by omega) (by omega) (by omega) (by omega) (by omega))
  have O2 := Lib.hid (fun v => rfOrd_any p1 sM q0 sL v (by omega) (by omega) (by omega) (by omega) (by omega) (by omega) (by omega) (by omega))
  have oy1 := ord_yes (a := p0) (b := sM) (c := q1) (d := sL) (by unfold ordC; omega)
  have oy2 := ord_yes (a := p1) (b := sM) (c := q0) (d := sL) (by unfold ordC; omega)
  rw [oy1.1, oy1.2] at O1
  rw [oy2.1, oy2.2] at O2
  clear oy1 oy2 la ha lb hb sa sb
  go_enter Tryz.func29, Tryz.ntmps29
  go_upto_region 1 with fail
  generalize ((w.alloc (.cells #[.int .i64 k1, .int .i64 l, .slice A1 n1 c1] 31)).alloc (.cells #[.int .i64 k2, .int .i64 l, .slice A2 n2 c2] 31)) = W at *
  obtain ⟨⟨x0, x1, x2⟩, ⟨y0, y1, y2⟩, zx, zy⟩ := TW.out.cells
  have HBW := Lib.hid (fun (v : World) (hb : Below W.heap.size W v) => TW.out.hb.trans (hb.mono TW.out.hb.size))
  have ZX := Lib.hid zx
  have ZY := Lib.hid zy
  clear zx zy
  go_cut [7, 8] (fun s7 s8 wx => ∃ g3 g4, s7 = .pointer (some ⟨g3, 0, none⟩) ∧ s8 = .pointer (some ⟨g4, 0, none⟩) ∧ wx.ownsRow 0 46 2 (.slice (some ⟨g3, 0, none⟩) 1 1) 1 [.int .i64 p0, .int .i64 p1] ∧ wx.ownsRow 0 46 2 (.slice (some ⟨g4, 0, none⟩) 1 1) 1 [.int .i64 q0, .int .i64 q1] ∧ Below W.heap.size W wx)
  case first =>
    clear O1 O2 SD WA WB TW Y0 Y1 hn1 hn2
    go_region_held3 (fun w' => w'.cell? ⟨w.heap.size, 0, none⟩ = some (.int .i64 k1) ∧ w'.cell? ⟨w.heap.size, 1, none⟩ = some (.int .i64 l) ∧ w'.cell? ⟨w.heap.size, 2, none⟩ = some (.slice A1 n1 c1) ∧ w'.cell? ⟨w.heap.size + 1, 0, none⟩ = some (.int .i64 k2) ∧ w'.cell? ⟨w.heap.size + 1, 1, none⟩ = some (.int .i64 l) ∧ w'.cell? ⟨w.heap.size + 1, 2, none⟩ = some (.slice A2 n2 c2) ∧ Below W.heap.size W w')
      (first | (with_reducible exact gp_keep6G K2.out (by repeat (first | with_reducible exact Below.refl _ _ | with_reducible refine gp_bsG ?_ (by first | omega | (simp; omega)) | with_reducible refine Below.alloc ?_ (by first | omega | (simp; omega)) _)) ZX.out ZX.out ZX.out ZY.out ZY.out ZY.out) | assumption | (with_reducible exact gp_keep6 (by assumption) h2 ZX.out ZX.out ZX.out ZY.out ZY.out ZY.out) | (with_reducible exact gp_keep6 (by assumption) h1 ZX.out ZX.out ZX.out ZY.out ZY.out ZY.out) | (with_reducible exact gp_keep6 (by assumption) ((Below.refl _ _).alloc (Nat.le_refl _) _) ZX.out ZX.out ZX.out ZY.out ZY.out ZY.out) | (exact ⟨x0, x1, x2, y0, y1, y2, below_drew _⟩))
      (first
        | (go_at_call 59; (with_reducible refine (BA.out _ (HBW.out _ (gp_below6 (p1 := ⟨w.heap.size, 0, none⟩) (p2 := ⟨w.heap.size, 1, none⟩) (p3 := ⟨w.heap.size, 2, none⟩) (p4 := ⟨w.heap.size + 1, 0, none⟩) (p5 := ⟨w.heap.size + 1, 1, none⟩) (p6 := ⟨w.heap.size + 1, 2, none⟩) (x1 := .int .i64 k1) (x2 := .int .i64 l) (x3 := .slice A1 n1 c1) (x4 := .int .i64 k2) (x5 := .int .i64 l) (x6 := .slice A2 n2 c2) (by assumption)))).mono ?_); rintro e v1 ⟨rfl, h1⟩; have s1 := h1.size; (try simp at s1); (try (have da : Hid (v1.ownsRow 0 46 2 (.slice (some ⟨W.heap.size, 0, none⟩) 1 1) 1 [.int .i64 0, .int .i64 0]) := by first | (exact own_below (gp_box W.drew _ _ _) h1) | (exact own_below ((gp_box W.drew _ _ _).alloc _) h1))); (try (have db : Hid (v1.ownsRow 0 46 2 (.slice (some ⟨W.heap.size + 1, 0, none⟩) 1 1) 1 [.int .i64 0, .int .i64 0]) := own_below (gp_boxN (W.drew.alloc (.cells #[.int .i64 0, .int .i64 0] 46)) 46 _ _ _ (by simp)) h1)))
        | (go_at_call 59; (with_reducible refine (BB.out _ (HBW.out _ (gp_below6 (p1 := ⟨w.heap.size, 0, none⟩) (p2 := ⟨w.heap.size, 1, none⟩) (p3 := ⟨w.heap.size, 2, none⟩) (p4 := ⟨w.heap.size + 1, 0, none⟩) (p5 := ⟨w.heap.size + 1, 1, none⟩) (p6 := ⟨w.heap.size + 1, 2, none⟩) (x1 := .int .i64 k1) (x2 := .int .i64 l) (x3 := .slice A1 n1 c1) (x4 := .int .i64 k2) (x5 := .int .i64 l) (x6 := .slice A2 n2 c2) (by assumption)))).mono ?_); rintro e v2 ⟨rfl, h2⟩; have s2 := h2.size; (try simp at s2); have K2 := Lib.hid (gp_keep6 (W := W) (p1 := ⟨w.heap.size, 0, none⟩) (p2 := ⟨w.heap.size, 1, none⟩) (p3 := ⟨w.heap.size, 2, none⟩) (p4 := ⟨w.heap.size + 1, 0, none⟩) (p5 := ⟨w.heap.size + 1, 1, none⟩) (p6 := ⟨w.heap.size + 1, 2, none⟩) (x1 := .int .i64 k1) (x2 := .int .i64 l) (x3 := .slice A1 n1 c1) (x4 := .int .i64 k2) (x5 := .int .i64 l) (x6 := .slice A2 n2 c2) (by assumption) h2 ZX.out ZX.out ZX.out ZY.out ZY.out ZY.out); have hw2 : Below v1.heap.size v1 v2 := Below.trans (by first | (exact Below.refl _ _) | (exact (Below.refl _ _).alloc (Nat.le_refl _) _) | (exact ((Below.refl _ _).alloc (Nat.le_refl _) _).alloc (by simp) _)) (Below.mono h2 (by first | (simp; done) | (simp; omega))); (try (have ea : v2.ownsRow 0 46 2 (.slice (some ⟨W.heap.size, 0, none⟩) 1 1) 1 [.int .i64 0, .int .i64 0] := own_below da.out hw2; obtain ⟨ea0, ea1, ea2, ea3, ea4⟩ := box_cells ea)); (try (have eb : v2.ownsRow 0 46 2 (.slice (some ⟨W.heap.size + 1, 0, none⟩) 1 1) 1 [.int .i64 0, .int .i64 0] := own_below db.out hw2; obtain ⟨eb0, eb1, eb2, eb3, eb4⟩ := box_cells eb)); (try (have ec : v2.ownsRow 0 46 2 (.slice (some ⟨v1.heap.size, 0, none⟩) 1 1) 1 [.int .i64 0, .int .i64 0] := (by first | (exact own_below (gp_box v1 _ _ _) h2) | (exact own_below ((gp_box v1 _ _ _).alloc _) h2)); obtain ⟨ec0, ec1, ec2, ec3, ec4⟩ := box_cells ec)); (try (have ed : v2.ownsRow 0 46 2 (.slice (some ⟨v1.heap.size + 1, 0, none⟩) 1 1) 1 [.int .i64 0, .int .i64 0] := own_below (gp_boxN (v1.alloc (.cells #[.int .i64 0, .int .i64 0] 46)) 46 _ _ _ (by simp)) h2; obtain ⟨ed0, ed1, ed2, ed3, ed4⟩ := box_cells ed))))
    all_goals go_wp2_with fail
    all_goals go_meet
    all_goals refine ⟨_, _, rfl, rfl, ?_, ?_, Below.trans (gp_below6 K2.out) ?_⟩
    all_goals repeat (first | (with_reducible exact ea) | (with_reducible exact eb) | (with_reducible exact ec) | (with_reducible exact ed) | (with_reducible exact Below.refl _ _) | (with_reducible refine gp_st1 (x := .int .i64 0) (y := .int .i64 0) ?_) | (with_reducible refine gp_st2 ?_ (by first | omega | (simp; omega))) | (with_reducible exact gp_boxN _ _ _ _ _ (by first | rfl | (simp; done))) | (with_reducible refine World.ownsRow.alloc ?_ _) | (with_reducible refine gp_bsG ?_ (by first | omega | (simp; omega))) | (with_reducible refine Below.alloc ?_ (by first | omega | (simp; omega)) _))
  case rest =>
    obtain ⟨g3, g4, rfl, rfl, hg3, hg4, hbc⟩ := hcut
    have TC := Lib.hid (TW.out.below hbc)
    have G3 := Lib.hid hg3
    have G4 := Lib.hid hg4
    clear x0 x1 x2 y0 y1 y2 BA BB hg3 hg4 hbc HBW ZX ZY
    obtain ⟨W2, hW2⟩ : ∃ W2 : World, W2 = wc := ⟨_, rfl⟩
    subst hW2
    go_upto_region 2 with fail
    obtain ⟨⟨x0, x1, x2⟩, ⟨y0, y1, y2⟩, zx, zy⟩ := TC.out.cells
    obtain ⟨m0, m1, _, _, z3⟩ := box_cells G3.out
    obtain ⟨k0, k1', _, _, z4⟩ := box_cells G4.out
    have KX := Lib.hid zx
    have KY := Lib.hid zy
    have K3 := Lib.hid z3
    have K4 := Lib.hid z4
    have WAC := Lib.hid (fun v (hb : Below W2.heap.size W2 v) => WA.out v (TC.out.hb.trans (hb.mono TC.out.hb.size)))
    have WBC := Lib.hid (fun v (hb : Below W2.heap.size W2 v) => WB.out v (TC.out.hb.trans (hb.mono TC.out.hb.size)))
    clear zx zy z3 z4
    go_region_held3 (fun w' => w'.cell? ⟨w.heap.size, 0, none⟩ = some (.int .i64 k1) ∧ w'.cell? ⟨w.heap.size, 1, none⟩ = some (.int .i64 l) ∧ w'.cell? ⟨w.heap.size, 2, none⟩ = some (.slice A1 n1 c1) ∧ w'.cell? ⟨w.heap.size + 1, 0, none⟩ = some (.int .i64 k2) ∧ w'.cell? ⟨w.heap.size + 1, 1, none⟩ = some (.int .i64 l) ∧ w'.cell? ⟨w.heap.size + 1, 2, none⟩ = some (.slice A2 n2 c2) ∧ w'.cell? ⟨g3, 0, none⟩ = some (.int .i64 p0) ∧ w'.cell? ⟨g4, 1, none⟩ = some (.int .i64 q1) ∧ Below W2.heap.size W2 w')
      (first | assumption | (exact gp_keep8 (by assumption) (by assumption) KX.out KX.out KX.out KY.out KY.out KY.out K3.out K4.out) | (exact ⟨x0, x1, x2, y0, y1, y2, m0, k1', below_drew _⟩))
      (first
        | (go_at_call 58; (with_reducible refine (WBC.out _ (gp_below8 (p1 := ⟨w.heap.size, 0, none⟩) (p2 := ⟨w.heap.size, 1, none⟩) (p3 := ⟨w.heap.size, 2, none⟩) (p4 := ⟨w.heap.size + 1, 0, none⟩) (p5 := ⟨w.heap.size + 1, 1, none⟩) (p6 := ⟨w.heap.size + 1, 2, none⟩) (p7 := ⟨g3, 0, none⟩) (p8 := ⟨g4, 1, none⟩) (x1 := .int .i64 k1) (x2 := .int .i64 l) (x3 := .slice A1 n1 c1) (x4 := .int .i64 k2) (x5 := .int .i64 l) (x6 := .slice A2 n2 c2) (x7 := .int .i64 p0) (x8 := .int .i64 q1) (by assumption))).mono ?_); rintro e a1 ⟨rfl, hba1⟩)
        | (go_at_call 58; (with_reducible refine (WAC.out _ (gp_below8 (p1 := ⟨w.heap.size, 0, none⟩) (p2 := ⟨w.heap.size, 1, none⟩) (p3 := ⟨w.heap.size, 2, none⟩) (p4 := ⟨w.heap.size + 1, 0, none⟩) (p5 := ⟨w.heap.size + 1, 1, none⟩) (p6 := ⟨w.heap.size + 1, 2, none⟩) (p7 := ⟨g3, 0, none⟩) (p8 := ⟨g4, 1, none⟩) (x1 := .int .i64 k1) (x2 := .int .i64 l) (x3 := .slice A1 n1 c1) (x4 := .int .i64 k2) (x5 := .int .i64 l) (x6 := .slice A2 n2 c2) (x7 := .int .i64 p0) (x8 := .int .i64 q1) (by assumption))).mono ?_); rintro e b1 ⟨rfl, hbb1⟩)
        | (go_at_call 19; refine (O1.out _).mono ?_; rintro e z1 ⟨rfl, hz1⟩))
    rename_i hH
    have hB := hH.2.2.2.2.2.2.2.2
    have TD := Lib.hid (TC.out.below hB)
    have G5 := Lib.hid (own_below G3.out hB)
    have G6 := Lib.hid (own_below G4.out hB)
    clear hH hB x0 x1 x2 y0 y1 y2 m0 m1 k0 k1' KX KY K3 K4 WAC WBC TC G3 G4
    by_cases c1 : q1 * sL < p0 * sM
    · have e : sd = 1 := by rw [SD.out, if_pos c1]
      have hc := cmp3_gt c1
      rw [hc]
      subst e
      clear SD c1 hc
      go_wp2_with fail
      go_ret
      exact ⟨rfl, TD.out.hb⟩
    have SD2 : Hid (sd = if p1 * sM < q0 * sL then -1 else 0) := by show _ = _; rw [SD.out, if_neg c1]
    have hc := cmp3_le (x := p0 * sM) (y := q1 * sL) (by omega)
    generalize cmp3 (p0 * sM) (q1 * sL) = cm at *
    have hcm : ¬ 0 < cm := by omega
    clear SD c1 hc
    go_upto_region 5 with fail
    obtain ⟨⟨x0, x1, x2⟩, ⟨y0, y1, y2⟩, zx, zy⟩ := TD.out.cells
    obtain ⟨m0, m1, _, _, z3⟩ := box_cells G5.out
    obtain ⟨k0, k1', _, _, z4⟩ := box_cells G6.out
    have KX := Lib.hid zx
    have KY := Lib.hid zy
    have K3 := Lib.hid z3
    have K4 := Lib.hid z4
    have WAC := Lib.hid (fun v (hb : Below z1.heap.size z1 v) => WA.out v (TD.out.hb.trans (hb.mono TD.out.hb.size)))
    have WBC := Lib.hid (fun v (hb : Below z1.heap.size z1 v) => WB.out v (TD.out.hb.trans (hb.mono TD.out.hb.size)))
    clear zx zy z3 z4
    go_region_held3 (fun w' => w'.cell? ⟨w.heap.size, 0, none⟩ = some (.int .i64 k1) ∧ w'.cell? ⟨w.heap.size, 1, none⟩ = some (.int .i64 l) ∧ w'.cell? ⟨w.heap.size, 2, none⟩ = some (.slice A1 n1 c1) ∧ w'.cell? ⟨w.heap.size + 1, 0, none⟩ = some (.int .i64 k2) ∧ w'.cell? ⟨w.heap.size + 1, 1, none⟩ = some (.int .i64 l) ∧ w'.cell? ⟨w.heap.size + 1, 2, none⟩ = some (.slice A2 n2 c2) ∧ w'.cell? ⟨g3, 1, none⟩ = some (.int .i64 p1) ∧ w'.cell? ⟨g4, 0, none⟩ = some (.int .i64 q0) ∧ Below z1.heap.size z1 w')
      (first | assumption | (exact gp_keep8 (by assumption) (by assumption) KX.out KX.out KX.out KY.out KY.out KY.out K3.out K4.out) | (exact ⟨x0, x1, x2, y0, y1, y2, m1, k0, below_drew _⟩))
      (first
        | (go_at_call 58; (with_reducible refine (WBC.out _ (gp_below8 (p1 := ⟨w.heap.size, 0, none⟩) (p2 := ⟨w.heap.size, 1, none⟩) (p3 := ⟨w.heap.size, 2, none⟩) (p4 := ⟨w.heap.size + 1, 0, none⟩) (p5 := ⟨w.heap.size + 1, 1, none⟩) (p6 := ⟨w.heap.size + 1, 2, none⟩) (p7 := ⟨g3, 1, none⟩) (p8 := ⟨g4, 0, none⟩) (x1 := .int .i64 k1) (x2 := .int .i64 l) (x3 := .slice A1 n1 c1) (x4 := .int .i64 k2) (x5 := .int .i64 l) (x6 := .slice A2 n2 c2) (x7 := .int .i64 p1) (x8 := .int .i64 q0) (by assumption))).mono ?_); rintro e a2 ⟨rfl, hba2⟩)
        | (go_at_call 58; (with_reducible refine (WAC.out _ (gp_below8 (p1 := ⟨w.heap.size, 0, none⟩) (p2 := ⟨w.heap.size, 1, none⟩) (p3 := ⟨w.heap.size, 2, none⟩) (p4 := ⟨w.heap.size + 1, 0, none⟩) (p5 := ⟨w.heap.size + 1, 1, none⟩) (p6 := ⟨w.heap.size + 1, 2, none⟩) (p7 := ⟨g3, 1, none⟩) (p8 := ⟨g4, 0, none⟩) (x1 := .int .i64 k1) (x2 := .int .i64 l) (x3 := .slice A1 n1 c1) (x4 := .int .i64 k2) (x5 := .int .i64 l) (x6 := .slice A2 n2 c2) (x7 := .int .i64 p1) (x8 := .int .i64 q0) (by assumption))).mono ?_); rintro e b2 ⟨rfl, hbb2⟩)
        | (go_at_call 19; refine (O2.out _).mono ?_; rintro e z2 ⟨rfl, hz2⟩))
    rename_i hH
    have hB := hH.2.2.2.2.2.2.2.2
    have TE := Lib.hid (TD.out.hb.trans (hB.mono TD.out.hb.size))
    clear hH hB x0 x1 x2 y0 y1 y2 m0 m1 k0 k1' KX KY K3 K4 WAC WBC TD G5 G6
    by_cases c2 : p1 * sM < q0 * sL
    · have e : sd = -1 := by rw [SD2.out, if_pos c2]
      have hc := cmp3_lt c2
      rw [hc]
      subst e
      clear SD2 c2 hc
      go_wp2_with fail
      go_ret
      exact ⟨rfl, TE.out⟩
    · have e : sd = 0 := by rw [SD2.out, if_neg c2]
      have hc : ¬ cmp3 (p1 * sM) (q0 * sL) < 0 := by
        rcases Int.lt_or_le (q0 * sL) (p1 * sM) with q | q
        · rw [cmp3_gt q]; omega
        · rw [cmp3_eq (by omega)]; omega
      generalize cmp3 (p1 * sM) (q0 * sL) = cm2 at *
      subst e
      clear SD2 c2
      go_wp2_with fail
      go_ret
      exact ⟨rfl, TE.out⟩
end Go.Proofs.YtelekchdbiimiaaGreat
