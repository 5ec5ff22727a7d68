/- Texts laid together: DgRef, DgRef2, DgRef3, DgRef4, DgRef5. -/
import Derived.Test.YtfmgcabgbnfjlaaDgN
import Derived.Test.YtfmgcabgbnfjlaaPrR
import Derived.Test.YtfmgcabgbnfjlaaDrQ
import Derived.Test.YtfmgcabgbnfjlaaPoQ
import Derived.Test.YtfmgcabgbnfjlaaPbR
import Derived.Deep.RegionHeld3
/- The document's answers of package dewpondref13: Is, New, Weight, Cap. -/
namespace Go.Proofs.Ytfmgcabgbnfjlaa
set_option linter.unusedVariables false
set_option maxRecDepth 100000
open Go.RowKit

theorem dgBelow3 {W a : World} {p q r : Addr} {x y z : Value} (h : a.cell? p = some x ∧ a.cell? q = some y ∧ a.cell? r = some z ∧ Below W.heap.size W a) : Below W.heap.size W a := h.2.2.2
theorem rDgIs_any (l k kd : Int) (w : World) : Calls Try.prog 36 #[.agg #[.int .i64 l, .int .i64 k, .int .i64 kd]] w fun e w' => e = .returned (.bool (kIs k && isP kd l)) ∧ Below w.heap.size w w' := by
  have HB0 : Hid (Below w.heap.size w (w.alloc (.cells #[.int .i64 l, .int .i64 k, .int .i64 kd] 23))) := (Below.refl _ _).alloc (Nat.le_refl _) _
  obtain ⟨x0, x1, x2, _, _, _, hz⟩ := tri_all (tri_new w 23 (.int .i64 l) (.int .i64 k) (.int .i64 kd))
  have IS := Lib.hid (fun w => rPrIs_any k w)
  have PS := Lib.hid (fun w => poIs_any kd l w)
  cases hk : kIs k
  · rw [hk] at IS
    clear hk
    go_enter Try.func36, Try.ntmps36
    go_wp2_with fail
    generalize w.alloc (.cells #[.int .i64 l, .int .i64 k, .int .i64 kd] 23) = W at *
    go_wp2_with (go_at_call 60; refine (IS.out _).mono ?_; rintro e w1 ⟨rfl, rfl⟩)
    go_ret
    exact ⟨by simp, HB0.out⟩
  · rw [hk] at IS
    clear hk
    go_enter Try.func36, Try.ntmps36
    go_wp2_with fail
    generalize w.alloc (.cells #[.int .i64 l, .int .i64 k, .int .i64 kd] 23) = W at *
    go_wp2_with (first | (go_at_call 60; refine (IS.out _).mono ?_; rintro e w1 ⟨rfl, rfl⟩) | (go_at_call 61; refine (PS.out _).mono ?_; rintro e w2 ⟨rfl, rfl⟩))
    go_ret
    exact ⟨by simp, HB0.out⟩
theorem rDgNew_any (l k kd : Int) (w : World) : Calls Try.prog 38 #[.agg #[.int .i64 l, .int .i64 k, .int .i64 kd]] w fun e w' => e = .returned (.agg #[.int .i64 k, .int .i64 l, .slice none 0 0]) ∧ Below w.heap.size w w' := by
  have HB0 : Hid (Below w.heap.size w (w.alloc (.cells #[.int .i64 l, .int .i64 k, .int .i64 kd] 23))) := (Below.refl _ _).alloc (Nat.le_refl _) _
  have R0 := Lib.hid (tri_new w 23 (.int .i64 l) (.int .i64 k) (.int .i64 kd))
  have hz : (w.alloc (.cells #[.int .i64 l, .int .i64 k, .int .i64 kd] 23)).heap.size = w.heap.size + 1 := by simp
  have R1 : Hid (((w.alloc (.cells #[.int .i64 l, .int .i64 k, .int .i64 kd] 23)).alloc (.cells #[.int .i64 0, .int .i64 0, .slice none 0 0] 33)).ownsRow w.heap.size 33 3 (.slice (some ⟨w.heap.size + 1, 0, none⟩) 1 1) 1 [.int .i64 0, .int .i64 0, .slice none 0 0]) := by
    have q := tri_new (w.alloc (.cells #[.int .i64 l, .int .i64 k, .int .i64 kd] 23)) 33 (.int .i64 0) (.int .i64 0) (.slice none 0 0)
    rw [hz] at q
    exact own_low q (Nat.le_succ _)
  have R2 := Lib.hid (World.ownsRow.alloc R0.out (.cells #[.int .i64 0, .int .i64 0, .slice none 0 0] 33))
  have HB1 : Hid (Below w.heap.size w ((w.alloc (.cells #[.int .i64 l, .int .i64 k, .int .i64 kd] 23)).alloc (.cells #[.int .i64 0, .int .i64 0, .slice none 0 0] 33))) := HB0.out.alloc (by simp) _
  clear hz
  go_enter Try.func38, Try.ntmps38
  go_wp2_with fail
  exact bodyPost_ret (v := .agg #[.int .i64 k, .int .i64 l, .slice none 0 0]) (by simp [results, Try.results38, go_sem]) rfl ⟨rfl, HB0.out.alloc HB0.out.size _⟩
theorem rDgWeight_any (l k : Int) (A : Option Addr) (n c : Nat) (L : List Nd) (w : World) (h : NodesAt w (.slice A n c) L) (hr : RollC l L) (hn : n ≤ 1000) :
    Calls Try.prog 43 #[.agg #[.int .i64 k, .int .i64 l, .slice A n c]] w fun e w' => e = .returned (.int .i64 (sumC L)) ∧ Below w.heap.size w w' := by
  have HB0 : Hid (Below w.heap.size w (w.alloc (.cells #[.int .i64 k, .int .i64 l, .slice A n c] 33))) := (Below.refl _ _).alloc (Nat.le_refl _) _
  obtain ⟨x0, x1, x2, _, _, _, hz⟩ := tri_all (tri_new w 33 (.int .i64 k) (.int .i64 l) (.slice A n c))
  have TT := Lib.hid (fun w1 (hb : Below (w.alloc (.cells #[.int .i64 k, .int .i64 l, .slice A n c] 33)).heap.size (w.alloc (.cells #[.int .i64 k, .int .i64 l, .slice A n c] 33)) w1) => rsTotal_any l A n c L w1 (h.below (HB0.out.trans (hb.mono HB0.out.size))) hr (by omega))
  clear h hr
  go_enter Try.func43, Try.ntmps43
  go_wp2_with (go_at_call 66; refine (TT.out _ (Below.refl _ _)).mono ?_; rintro e w1 ⟨rfl, hb1⟩)
  go_ret
  exact ⟨rfl, HB0.out.trans (hb1.mono HB0.out.size)⟩
set_option maxHeartbeats 800000 in
theorem rDgCap_any (l k : Int) (A : Option Addr) (n c : Nat) (L : List Nd) (w : World) (h : NodesAt w (.slice A n c) L) (hr : RollC l L) (hn : n ≤ 1000) (k1 : 1 ≤ k) (k2 : k ≤ 1048576) :
    Calls Try.prog 23 #[.agg #[.int .i64 k, .int .i64 l, .slice A n c]] w fun e w' => e = .returned (.int .i64 (sumC L / k)) ∧ Below w.heap.size w w' := by
  have HB0 : Hid (Below w.heap.size w (w.alloc (.cells #[.int .i64 k, .int .i64 l, .slice A n c] 33))) := (Below.refl _ _).alloc (Nat.le_refl _) _
  obtain ⟨x0, x1, x2, _, _, _, hz⟩ := tri_all (tri_new w 33 (.int .i64 k) (.int .i64 l) (.slice A n c))
  have HZ := Lib.hid hz
  have TT := Lib.hid (fun w1 (hb : Below (w.alloc (.cells #[.int .i64 k, .int .i64 l, .slice A n c] 33)).heap.size (w.alloc (.cells #[.int .i64 k, .int .i64 l, .slice A n c] 33)) w1) => rDgWeight_any l k A n c L w1 (h.below (HB0.out.trans (hb.mono HB0.out.size))) hr hn)
  have nn := good_nonneg (roll_good hr)
  have s0 : 0 ≤ sumC L := Int.le_trans (sum_le nn 0).1 (sum_le nn 0).2
  have s1 := hr.2.2.2.2
  have kz : ¬ k = 0 := by omega
  have hw : IntKind.i64.wrap ((sumC L).tdiv k) = sumC L / k := by
    rw [Int.tdiv_eq_ediv_of_nonneg s0]
    have a := Int.ediv_nonneg s0 (show 0 ≤ k by omega)
    have b := Int.ediv_le_self k s0
    exact wrap_lit rfl (by omega) (by omega)
  clear h hr nn hz
  generalize sumC L / k = q at *
  generalize sumC L = s at *
  go_enter Try.func23, Try.ntmps23
  go_wp2_with fail
  generalize w.alloc (.cells #[.int .i64 k, .int .i64 l, .slice A n c] 33) = W at *
  go_region_held3 (fun w' => w'.cell? ⟨w.heap.size, 0, none⟩ = some (.int .i64 k) ∧ w'.cell? ⟨w.heap.size, 1, none⟩ = some (.int .i64 l) ∧ w'.cell? ⟨w.heap.size, 2, none⟩ = some (.slice A n c) ∧ Below W.heap.size W w')
    (first | assumption | (exact keep_three (by assumption) (by assumption) HZ.out HZ.out HZ.out) | (exact ⟨x0, x1, x2, below_drew _⟩))
    (first | ((with_reducible refine (TT.out _ (dgBelow3 (p := ⟨w.heap.size, 0, none⟩) (x := .int .i64 k) (q := ⟨w.heap.size, 1, none⟩) (y := .int .i64 l) (r := ⟨w.heap.size, 2, none⟩) (z := .slice A n c) (by assumption))).mono ?_); rintro e v1 ⟨rfl, hbv1⟩))
  rename_i hH
  have hbb := hH.2.2.2
  go_wp2_with fail
  go_ret
  exact ⟨rfl, HB0.out.trans (hbb.mono HB0.out.size)⟩

end Go.Proofs.Ytfmgcabgbnfjlaa

/- The document's answer of package dewpondref13: Compress. -/
namespace Go.Proofs.Ytfmgcabgbnfjlaa
set_option linter.unusedVariables false
set_option maxRecDepth 100000
open Go.RowKit

end Go.Proofs.Ytfmgcabgbnfjlaa

/- The document's answer of package dewpondref13: Insert. -/
namespace Go.Proofs.Ytfmgcabgbnfjlaa
set_option linter.unusedVariables false
set_option maxRecDepth 100000
open Go.RowKit

end Go.Proofs.Ytfmgcabgbnfjlaa

/- The document's answer of package dewpondref13: Insert, where it is OK. -/
namespace Go.Proofs.Ytfmgcabgbnfjlaa
set_option linter.unusedVariables false
set_option maxRecDepth 100000
open Go.RowKit

end Go.Proofs.Ytfmgcabgbnfjlaa

/- The document's answers of package dewpondref13: Do, Above. -/
namespace Go.Proofs.Ytfmgcabgbnfjlaa
set_option linter.unusedVariables false
set_option maxRecDepth 100000
open Go.RowKit

end Go.Proofs.Ytfmgcabgbnfjlaa
