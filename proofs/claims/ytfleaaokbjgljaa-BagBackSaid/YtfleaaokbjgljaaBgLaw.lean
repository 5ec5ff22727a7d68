/- The laws' own functions of layer 10: like, Made, and the chapter's example. -/
import Derived.Test.YtfleaaokbjgljaaBgRef8
namespace Go.Proofs.Ytfleaaokbjgljaa
set_option linter.unusedVariables false
set_option maxRecDepth 100000
open Go.RowKit
attribute [local go_sem ↓] Go.wp_at_zero Go.wp_at_succ

theorem bg_below {B g : Nat} {l : Int} {L : List Nd} {v : Value} {w w' : World} (d : BgA w B g l L v) (k : Kp (bgF g v) w w') (hB : B ≤ w.heap.size) : Below B w w' := k.below (fun j _ h => (d.blocks j h).1) hB
set_option maxHeartbeats 3200000 in
theorem bgLike_any {B g : Nat} {l : Int} {L : List Nd} {v : Value} (A : Option Addr) (n c : Nat) (w : World) (d : BgA w B g l L v) (hv : NodesAt w (.slice A n c) L) (hn : L.length ≤ 100000) :
    Calls Try.prog 13 #[.pointer (some ⟨g, 0, none⟩), .agg #[.int .i64 l, .slice A n c]] w fun e w' => e = .returned (.bool true) ∧ Below w.heap.size w w' := by
  have hb0 : Below w.heap.size w (w.alloc (.cells #[.int .i64 l, .slice A n c] 29)) := (Below.refl _ _).alloc (Nat.le_refl _) _
  have hm := (nodes_cells hv).1
  have HB := Lib.hid hb0
  have hz : w.heap.size < (w.alloc (.cells #[.int .i64 l, .slice A n c] 29)).heap.size := by simp
  have x0 : (w.alloc (.cells #[.int .i64 l, .slice A n c] 29)).cell? ⟨w.heap.size, 0, none⟩ = some (.int .i64 l) := by simp
  have x1 : (w.alloc (.cells #[.int .i64 l, .slice A n c] 29)).cell? ⟨w.heap.size, 1, none⟩ = some (.slice A n c) := by simp
  have D := Lib.hid (d.below hb0)
  have NV := Lib.hid (hv.below hb0)
  have BC := Lib.hid d.bag
  have LN := Lib.hid (fun w1 (hb : Below (w.alloc (.cells #[.int .i64 l, .slice A n c] 29)).heap.size (w.alloc (.cells #[.int .i64 l, .slice A n c] 29)) w1) => (bgLen_any w1 (D.out.below hb)).mono (R' := fun e w' => e = .returned (.int .i64 (n : Int)) ∧ w1 = w') fun e w' ⟨a, b⟩ => ⟨by rw [a, hm], b⟩)
  have IT := Lib.hid (fun w1 (hb : Below (w.alloc (.cells #[.int .i64 l, .slice A n c] 29)).heap.size (w.alloc (.cells #[.int .i64 l, .slice A n c] 29)) w1) => (bgItems_any w1 (D.out.below hb) (by omega)).mono (R' := fun e w' => ∃ A3 m3 c3, e = .returned (.slice A3 m3 c3) ∧ NodesAt w' (.slice A3 m3 c3) L ∧ Below w1.heap.size w1 w' ∧ m3 ≤ 1000000) fun e w' ⟨v, a, b, c⟩ => by
    obtain ⟨A3, m3, c3, rfl⟩ := ownNd_slice b
    exact ⟨A3, m3, c3, a, ownNd_nodes b, c, by have := (nodes_cells (ownNd_nodes b)).1; omega⟩)
  have hss := same_self L
  have HZ := Lib.hid hz
  have hn2 : n ≤ 1000000 := by omega
  clear d hv hb0 hz hm
  go_enter Try.func13, Try.ntmps13
  go_wp2_with fail
  generalize w.alloc (.cells #[.int .i64 l, .slice A n c] 29) = W at *
  go_region_held3 (fun w' => w'.cell? ⟨w.heap.size, 0, none⟩ = some (.int .i64 l) ∧ w'.cell? ⟨w.heap.size, 1, none⟩ = some (.slice A n c) ∧ Below W.heap.size W w')
    (first | assumption | (exact held2 (by assumption) (by assumption) HZ.out HZ.out) | (exact held2N (by assumption) _) | (exact ⟨x0, x1, below_drew _⟩))
    (first
      | (go_at_call 31; refine (bgL_any _ (D.out.below (held2B (p := ⟨w.heap.size, 0, none⟩) (q := ⟨w.heap.size, 1, none⟩) (x := .int .i64 l) (y := .slice A n c) (by assumption)))).mono ?_; rintro e w1 ⟨rfl, rfl⟩)
      | (go_at_call 32; refine (LN.out _ (held2B (p := ⟨w.heap.size, 0, none⟩) (q := ⟨w.heap.size, 1, none⟩) (x := .int .i64 l) (y := .slice A n c) (by assumption))).mono ?_; rintro e w1 ⟨rfl, rfl⟩)
      | (go_at_call 30; refine (bgTotal_any _ (D.out.below (held2B (p := ⟨w.heap.size, 0, none⟩) (q := ⟨w.heap.size, 1, none⟩) (x := .int .i64 l) (y := .slice A n c) (by assumption)))).mono ?_; rintro e w1 ⟨rfl, rfl⟩)
      | (go_at_call 36; refine (rgTotal_any _ _ _ _ L _ (NV.out.below (held2B (p := ⟨w.heap.size, 0, none⟩) (q := ⟨w.heap.size, 1, none⟩) (x := .int .i64 l) (y := .slice A n c) (by assumption))) (good_nonneg BC.out.good) BC.out.tot hn2).mono ?_; rintro e w2 ⟨rfl, hb2⟩)
      | (go_at_call 33; refine (IT.out _ (held2B (p := ⟨w.heap.size, 0, none⟩) (q := ⟨w.heap.size, 1, none⟩) (x := .int .i64 l) (y := .slice A n c) (by assumption))).mono ?_; rintro e w3 ⟨A3, m3, c3, rfl, hn3, hb3, hm3⟩)
      | (go_at_call 34; refine (rgSameItems_any _ _ _ _ _ _ L L _ (by exact hn3) (NV.out.below (held2B (p := ⟨w.heap.size, 0, none⟩) (q := ⟨w.heap.size, 1, none⟩) (x := .int .i64 l) (y := .slice A n c) (by assumption))) hm3 hn2).mono ?_; rintro e w4 ⟨rfl, q4, rfl⟩))
  rename_i hH
  have hbb := hH.2.2
  go_wp2_with fail
  go_ret
  exact ⟨rfl, HB.out.trans (hbb.mono HB.out.size)⟩
theorem bex_a : bagS 3 [] 5 2 = [(5, 2)] ∧ bagE 3 [] 5 2 = 0 := by decide
theorem bex_b : bagS 3 [(5, 2)] 1 1 = [(1, 1), (5, 2)] ∧ bagE 3 [(5, 2)] 1 1 = 0 := by decide
theorem bex_c : kthV [(1, 1), (5, 2)] 2 = 5 ∧ kthE [(1, 1), (5, 2)] 2 = 0 := by decide
theorem bex_d : imgS [(1, 1), (5, 2)] 1 = [(0, 1), (2, 2)] := by decide
theorem bex_e : betN [(1, 1), (5, 2)] 0 4 = 1 := by decide
theorem blit2 (w : World) (t : TypeId) (a b c d : Int) : NodesAt (w.alloc (.cells #[.int .i64 a, .int .i64 b, .int .i64 c, .int .i64 d] t)) (.slice (some ⟨w.heap.size, 0, none⟩) 2 2) [(a, b), (c, d)] :=
  ⟨_, 2, rfl, by simp, by unfold maxLen; omega, fun e => by simp at e, fun _ => ⟨w.heap.size, 0, rfl, by simp, fun k hk => by
    match k, hk with
    | 0, _ => simp
    | 1, _ => simp⟩⟩
set_option maxHeartbeats 3200000 in
theorem bgAlive_any (w : World) : Calls Try.prog 9 #[] w fun e w' => e = .returned (.bool true) ∧ Below w.heap.size w w' := by
  go_enter Try.func9, Try.ntmps9
  go_wp2_with fail
  refine (bgNew_any 3 w (by omega)).mono ?_
  rintro e w1 ⟨g, rfl, d1, b1⟩
  have A1 := bgAdd_any 5 2 w1 d1 (by simp) (by omega) (by omega) (by omega) (by omega)
  rw [bex_a.1, bex_a.2] at A1
  have D1 := Lib.hid d1
  have z1 := b1.size
  have B1 := Lib.hid b1
  clear d1 b1
  go_wp2_with fail
  refine A1.mono ?_
  rintro e w2 ⟨v2, rfl, d2, k2, _⟩
  have A2 := bgAdd_any 1 1 w2 d2 (by simp) (by omega) (by omega) (by omega) (by omega)
  rw [bex_b.1, bex_b.2] at A2
  have B2 := Lib.hid (B1.out.trans (bg_below D1.out k2 z1))
  have z2 := B2.out.size
  have D2 := Lib.hid d2
  clear d2 k2 A1
  go_wp2_with fail
  refine A2.mono ?_
  rintro e w3 ⟨v3, rfl, d3, k3, _⟩
  have B3 := Lib.hid (B2.out.trans (bg_below D2.out k3 z2))
  have D3 := Lib.hid d3
  have K := bgKth_any 2 w3 d3 (by simp) (by omega) (by omega)
  rw [bex_c.1, bex_c.2] at K
  clear d3 k3 A2
  go_wp2_with fail
  refine K.mono ?_
  rintro e w4 ⟨rfl, q, rfl⟩
  have B4 : Hid (Below w.heap.size w (w3.drewN q)) := drewN_below B3.out q
  have D4 := Lib.hid (D3.out.below (drewN_below (Below.refl _ w3) q))
  have I := bgImage_any 1 (w3.drewN q) D4.out (by simp) (by omega) (by omega)
  rw [bex_d] at I
  clear K
  generalize w3.drewN q = W4 at *
  go_wp2_with fail
  refine I.mono ?_
  rintro e w5 ⟨g5, v5, rfl, d5, b5⟩
  have D5 := Lib.hid d5
  have B5 := Lib.hid (B4.out.trans (b5.mono B4.out.size))
  have D45 := Lib.hid (D4.out.below b5)
  have RK := bgRank_any 4 w5 D45.out (by simp)
  rw [bex_e] at RK
  clear d5 b5 I
  go_wp2_with fail
  refine RK.mono ?_
  rintro e w6 ⟨rfl, b6⟩
  have D6 := Lib.hid (D5.out.below b6)
  have B6 := Lib.hid (B5.out.trans (b6.mono B5.out.size))
  clear b6 RK
  go_wp2_with fail
  refine (bgItems_any w6 D6.out (by simp)).mono ?_
  rintro e w7 ⟨v7, rfl, o7, b7⟩
  obtain ⟨A7, m7, c7, rfl⟩ := ownNd_slice o7
  have O7 := Lib.hid (ownNd_nodes o7)
  have hm7 : m7 ≤ 1000000 := by have := (nodes_cells (ownNd_nodes o7)).1; simp at this; omega
  have B7 := Lib.hid (B6.out.trans (b7.mono B6.out.size))
  clear o7 b7
  have hss := same_self ([(0, 1), (2, 2)] : List Nd)
  go_wp2_with (go_at_call 34; refine (rgSameItems_any _ _ _ _ _ _ [(0, 1), (2, 2)] [(0, 1), (2, 2)] _ (O7.out.below ((Below.refl _ _).alloc (Nat.le_refl _) _)) (blit2 ..) hm7 (by omega)).mono ?_; rintro e w8 ⟨rfl, q8, rfl⟩)
  go_ret
  exact ⟨ret_b hss, drewN_below (B7.out.alloc B7.out.size _) _⟩

end Go.Proofs.Ytfleaaokbjgljaa
