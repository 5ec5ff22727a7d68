/- What the statements of layer digest call: is a digest the document's (like)? -/
import Derived.Test.YtfilmblpikcpnaaGreatDgLaw
import Derived.Test.YtfilmblpikcpnaaGreatDgRef
namespace Go.Proofs.YtfilmblpikcpnaaGreat
set_option linter.unusedVariables false
set_option maxRecDepth 100000
open Go.RowKit

theorem keep_sixD {W a b : World} {p0 p1 p2 p3 p4 p5 : Addr} {x0 x1 x2 x3 x4 x5 : Value} (h : a.cell? p0 = some x0 ∧ a.cell? p1 = some x1 ∧ a.cell? p2 = some x2 ∧ a.cell? p3 = some x3 ∧ a.cell? p4 = some x4 ∧ a.cell? p5 = some x5 ∧ Below W.heap.size W a) (hb : Below a.heap.size a b)
    (q0 : p0.block < W.heap.size) (q1 : p1.block < W.heap.size) (q2 : p2.block < W.heap.size) (q3 : p3.block < W.heap.size) (q4 : p4.block < W.heap.size) (q5 : p5.block < W.heap.size) :
    b.cell? p0 = some x0 ∧ b.cell? p1 = some x1 ∧ b.cell? p2 = some x2 ∧ b.cell? p3 = some x3 ∧ b.cell? p4 = some x4 ∧ b.cell? p5 = some x5 ∧ Below W.heap.size W b := by
  obtain ⟨h0, h1, h2, h3, h4, h5, h6⟩ := h
  have hz := h6.size
  exact ⟨(hb.cell (by omega)).trans h0, (hb.cell (by omega)).trans h1, (hb.cell (by omega)).trans h2, (hb.cell (by omega)).trans h3, (hb.cell (by omega)).trans h4, (hb.cell (by omega)).trans h5, h6.trans (hb.mono hz)⟩
theorem below_six {W a : World} {p0 p1 p2 p3 p4 p5 : Addr} {x0 x1 x2 x3 x4 x5 : Value} (h : a.cell? p0 = some x0 ∧ a.cell? p1 = some x1 ∧ a.cell? p2 = some x2 ∧ a.cell? p3 = some x3 ∧ a.cell? p4 = some x4 ∧ a.cell? p5 = some x5 ∧ Below W.heap.size W a) : Below W.heap.size W a := h.2.2.2.2.2.2
set_option maxHeartbeats 6400000 in
theorem dgLike_any {B q p g h : Nat} {kd l k : Int} {n : Nat} {L : List Nd} (A : Option Addr) (m c : Nat) (w : World) (d : DgA w B q p g h kd l k n L) (hn : n ≤ 1000) (hv : NodesAt w (.slice A m c) L) :
    Calls Tryz.prog 16 #[.pointer (some ⟨q, 0, none⟩), .agg #[.int .i64 l, .int .i64 k, .int .i64 kd], .agg #[.int .i64 k, .int .i64 l, .slice A m c]] w fun e w' => e = .returned (.bool true) ∧ Below w.heap.size w w' := by
  have e1 : (w.alloc (.cells #[.int .i64 l, .int .i64 k, .int .i64 kd] 23)).heap.size = w.heap.size + 1 := by simp
  have X0 := Lib.hid ((tri_nw w 23 (.int .i64 l) (.int .i64 k) (.int .i64 kd)).alloc (.cells #[.int .i64 k, .int .i64 l, .slice A m c] 36))
  have Y0 : Hid (((w.alloc (.cells #[.int .i64 l, .int .i64 k, .int .i64 kd] 23)).alloc (.cells #[.int .i64 k, .int .i64 l, .slice A m c] 36)).ownsRow (w.heap.size + 1) 36 3 (.slice (some ⟨w.heap.size + 1, 0, none⟩) 1 1) 1 [.int .i64 k, .int .i64 l, .slice A m c]) := by
    have z := tri_nw (w.alloc (.cells #[.int .i64 l, .int .i64 k, .int .i64 kd] 23)) 36 (.int .i64 k) (.int .i64 l) (.slice A m c)
    rw [e1] at z
    exact z
  have HB0 : Hid (Below w.heap.size w ((w.alloc (.cells #[.int .i64 l, .int .i64 k, .int .i64 kd] 23)).alloc (.cells #[.int .i64 k, .int .i64 l, .slice A m c] 36))) := ((Below.refl _ _).alloc (Nat.le_refl _) _).alloc (by simp) _
  obtain ⟨x0, x1, x2, _, _, _, hz0⟩ := tri_all X0.out
  obtain ⟨y0, y1, y2, _, _, _, hz1⟩ := tri_all Y0.out
  have Z0 := Lib.hid hz0
  have Z1 := Lib.hid hz1
  have hml := (nodes_cells hv).1
  have hlen := d.po.len
  have hm : m ≤ 1000 := by omega
  have HM : Hid (L.length = m) := hml.symm
  have kb1 := d.v.k1
  have kb2 := d.v.k2
  have hw8 : IntKind.i64.wrap (8 * k) = 8 * k := wrap_lit rfl (by omega) (by omega)
  have CE := conf_eq l k kd
  have D0 := Lib.hid (d.below HB0.out)
  have V0 := Lib.hid (hv.below HB0.out)
  have R := Lib.hid d.po.roll
  have HC := Lib.hid (fun w1 hb => dgConf_any w1 (D0.out.below hb).box)
  have HN := Lib.hid (fun w1 hb => dgN_any w1 (D0.out.below hb).box (D0.out.below hb).po hn)
  have HW := Lib.hid (fun w1 hb => rDgWeight_any l k A m c L w1 (V0.out.below hb) R.out hm)
  have HL := Lib.hid (fun w1 hb => dgLen_any w1 (D0.out.below hb).box (D0.out.below hb).po hn)
  have HP := Lib.hid (fun w1 hb => dgCap_any w1 (D0.out.below hb).box (D0.out.below hb).po hn D0.out.isk)
  have HQ := Lib.hid (fun w1 hb => rDgCap_any l k A m c L w1 (V0.out.below hb) R.out hm kb1 kb2)
  have HR := Lib.hid (fun w1 hb => dgRoom_any w1 (D0.out.below hb).box kb1 kb2)
  have HO := Lib.hid (fun w1 hb => (dgNodes_any w1 (D0.out.below hb).box (D0.out.below hb).po hn).mono (R' := fun e w' => ∃ A3 m3 c3, e = .returned (.slice A3 m3 c3) ∧ NodesAt w' (.slice A3 m3 c3) L ∧ m3 ≤ 1000 ∧ Below w1.heap.size w1 w') fun e w' ⟨A3, m3, c3, he, ho, hb⟩ => ⟨A3, m3, c3, he, ownNd_nodes ho, by have a1 := (nodes_cells (ownNd_nodes ho)).1; have a2 := HM.out; omega, hb⟩)
  have HS := Lib.hid (fun (w1 : World) (A3 : Option Addr) (m3 c3 : Nat) hb (ho : NodesAt w1 (.slice A3 m3 c3) L) (hm3 : m3 ≤ 1000) => dgSame_below (rSame_any A3 A m3 c3 m c L L w1 ho (V0.out.below hb) (by omega) (by omega)))
  rw [same_self] at HS
  rw [← hml] at HL
  clear d hv hz0 hz1 hml hlen e1
  generalize sumC L / k = cp at *
  generalize sumC L = s at *
  go_enter Tryz.func16, Tryz.ntmps16
  go_wp2_with fail
  generalize (w.alloc (.cells #[.int .i64 l, .int .i64 k, .int .i64 kd] 23)).alloc (.cells #[.int .i64 k, .int .i64 l, .slice A m c] 36) = W at *
  go_region_held3 (fun w' => w'.cell? ⟨w.heap.size, 0, none⟩ = some (.int .i64 l) ∧ w'.cell? ⟨w.heap.size, 1, none⟩ = some (.int .i64 k) ∧ w'.cell? ⟨w.heap.size, 2, none⟩ = some (.int .i64 kd) ∧ w'.cell? ⟨w.heap.size + 1, 0, none⟩ = some (.int .i64 k) ∧ w'.cell? ⟨w.heap.size + 1, 1, none⟩ = some (.int .i64 l) ∧ w'.cell? ⟨w.heap.size + 1, 2, none⟩ = some (.slice A m c) ∧ Below W.heap.size W w')
    (first | assumption | (exact keep_sixD (by assumption) (by assumption) Z0.out Z0.out Z0.out Z1.out Z1.out Z1.out) | (exact ⟨x0, x1, x2, y0, y1, y2, below_drew _⟩))
    (first
      | (go_at_call 35; refine (HC.out _ (below_six (p0 := ⟨w.heap.size, 0, none⟩) (p1 := ⟨w.heap.size, 1, none⟩) (p2 := ⟨w.heap.size, 2, none⟩) (p3 := ⟨w.heap.size + 1, 0, none⟩) (p4 := ⟨w.heap.size + 1, 1, none⟩) (p5 := ⟨w.heap.size + 1, 2, none⟩) (x0 := .int .i64 l) (x1 := .int .i64 k) (x2 := .int .i64 kd) (x3 := .int .i64 k) (x4 := .int .i64 l) (x5 := .slice A m c) (by assumption))).mono ?_; rintro e v1 ⟨rfl, hb1⟩)
      | (go_at_call 21; refine (HN.out _ (below_six (p0 := ⟨w.heap.size, 0, none⟩) (p1 := ⟨w.heap.size, 1, none⟩) (p2 := ⟨w.heap.size, 2, none⟩) (p3 := ⟨w.heap.size + 1, 0, none⟩) (p4 := ⟨w.heap.size + 1, 1, none⟩) (p5 := ⟨w.heap.size + 1, 2, none⟩) (x0 := .int .i64 l) (x1 := .int .i64 k) (x2 := .int .i64 kd) (x3 := .int .i64 k) (x4 := .int .i64 l) (x5 := .slice A m c) (by assumption))).mono ?_; rintro e v2 ⟨rfl, hb2⟩)
      | (go_at_call 43; refine (HW.out _ (below_six (p0 := ⟨w.heap.size, 0, none⟩) (p1 := ⟨w.heap.size, 1, none⟩) (p2 := ⟨w.heap.size, 2, none⟩) (p3 := ⟨w.heap.size + 1, 0, none⟩) (p4 := ⟨w.heap.size + 1, 1, none⟩) (p5 := ⟨w.heap.size + 1, 2, none⟩) (x0 := .int .i64 l) (x1 := .int .i64 k) (x2 := .int .i64 kd) (x3 := .int .i64 k) (x4 := .int .i64 l) (x5 := .slice A m c) (by assumption))).mono ?_; rintro e v3 ⟨rfl, hb3⟩)
      | (go_at_call 20; refine (HL.out _ (below_six (p0 := ⟨w.heap.size, 0, none⟩) (p1 := ⟨w.heap.size, 1, none⟩) (p2 := ⟨w.heap.size, 2, none⟩) (p3 := ⟨w.heap.size + 1, 0, none⟩) (p4 := ⟨w.heap.size + 1, 1, none⟩) (p5 := ⟨w.heap.size + 1, 2, none⟩) (x0 := .int .i64 l) (x1 := .int .i64 k) (x2 := .int .i64 kd) (x3 := .int .i64 k) (x4 := .int .i64 l) (x5 := .slice A m c) (by assumption))).mono ?_; rintro e v4 ⟨rfl, hb4⟩)
      | (go_at_call 36; refine (HP.out _ (below_six (p0 := ⟨w.heap.size, 0, none⟩) (p1 := ⟨w.heap.size, 1, none⟩) (p2 := ⟨w.heap.size, 2, none⟩) (p3 := ⟨w.heap.size + 1, 0, none⟩) (p4 := ⟨w.heap.size + 1, 1, none⟩) (p5 := ⟨w.heap.size + 1, 2, none⟩) (x0 := .int .i64 l) (x1 := .int .i64 k) (x2 := .int .i64 kd) (x3 := .int .i64 k) (x4 := .int .i64 l) (x5 := .slice A m c) (by assumption))).mono ?_; rintro e v5 ⟨rfl, hb5⟩)
      | (go_at_call 44; refine (HQ.out _ (below_six (p0 := ⟨w.heap.size, 0, none⟩) (p1 := ⟨w.heap.size, 1, none⟩) (p2 := ⟨w.heap.size, 2, none⟩) (p3 := ⟨w.heap.size + 1, 0, none⟩) (p4 := ⟨w.heap.size + 1, 1, none⟩) (p5 := ⟨w.heap.size + 1, 2, none⟩) (x0 := .int .i64 l) (x1 := .int .i64 k) (x2 := .int .i64 kd) (x3 := .int .i64 k) (x4 := .int .i64 l) (x5 := .slice A m c) (by assumption))).mono ?_; rintro e v6 ⟨rfl, hb6⟩)
      | (go_at_call 37; refine (HR.out _ (below_six (p0 := ⟨w.heap.size, 0, none⟩) (p1 := ⟨w.heap.size, 1, none⟩) (p2 := ⟨w.heap.size, 2, none⟩) (p3 := ⟨w.heap.size + 1, 0, none⟩) (p4 := ⟨w.heap.size + 1, 1, none⟩) (p5 := ⟨w.heap.size + 1, 2, none⟩) (x0 := .int .i64 l) (x1 := .int .i64 k) (x2 := .int .i64 kd) (x3 := .int .i64 k) (x4 := .int .i64 l) (x5 := .slice A m c) (by assumption))).mono ?_; rintro e v7 ⟨rfl, hb7⟩)
      | (go_at_call 19; refine (HO.out _ (below_six (p0 := ⟨w.heap.size, 0, none⟩) (p1 := ⟨w.heap.size, 1, none⟩) (p2 := ⟨w.heap.size, 2, none⟩) (p3 := ⟨w.heap.size + 1, 0, none⟩) (p4 := ⟨w.heap.size + 1, 1, none⟩) (p5 := ⟨w.heap.size + 1, 2, none⟩) (x0 := .int .i64 l) (x1 := .int .i64 k) (x2 := .int .i64 kd) (x3 := .int .i64 k) (x4 := .int .i64 l) (x5 := .slice A m c) (by assumption))).mono ?_; rintro e v8 ⟨A3, m3, c3, rfl, hn3, hm3, hb8⟩)
      | (go_at_call 33; refine (HS.out _ A3 m3 c3 (below_six (p0 := ⟨w.heap.size, 0, none⟩) (p1 := ⟨w.heap.size, 1, none⟩) (p2 := ⟨w.heap.size, 2, none⟩) (p3 := ⟨w.heap.size + 1, 0, none⟩) (p4 := ⟨w.heap.size + 1, 1, none⟩) (p5 := ⟨w.heap.size + 1, 2, none⟩) (x0 := .int .i64 l) (x1 := .int .i64 k) (x2 := .int .i64 kd) (x3 := .int .i64 k) (x4 := .int .i64 l) (x5 := .slice A m c) (by assumption)) (by exact hn3) (by exact hm3)).mono ?_; rintro e v9 ⟨rfl, hb9⟩))
  rename_i hH
  have hbb := hH.2.2.2.2.2.2
  go_wp2_with fail
  go_ret
  exact ⟨rfl, HB0.out.trans (hbb.mono HB0.out.size)⟩

end Go.Proofs.YtfilmblpikcpnaaGreat
