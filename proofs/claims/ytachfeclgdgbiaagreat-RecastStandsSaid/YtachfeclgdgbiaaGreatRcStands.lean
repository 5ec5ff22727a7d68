/- What the statements of layer recast call: stands. -/
import Derived.Test.YtachfeclgdgbiaaGreatRcLaw
namespace Go.Proofs.YtachfeclgdgbiaaGreat
set_option linter.unusedVariables false
set_option maxRecDepth 100000
open Go.RowKit

set_option maxHeartbeats 25600000 in
theorem rcStands_any {B q p g h B2 q2 p2 g2 h2 : Nat} {kd l k l2 : Int} {n n2 : Nat} {F L T : List Nd} (id : Int) (A : Option Addr) (m c : Nat) (w : World) (d : DgA w B q p g h kd l k n F) (d2 : DgA w B2 q2 p2 g2 h2 kd l2 k n2 L) (hn : n ≤ 1000) (hn2 : n2 ≤ 1000)
    (hv : NodesAt w (.slice A m c) T) (hm : m ≤ 1000) (s : DgS l F T) (tot : sumC F = sumC L) (len : F.length ≤ L.length) (I0 : -9223372036854775808 ≤ id) (I1 : id ≤ 9223372036854775807) :
    Calls Tryz.prog 24 #[.pointer (some ⟨q, 0, none⟩), .agg #[.int .i64 l, .slice A m c], .pointer (some ⟨q2, 0, none⟩), .int .i64 id] w fun e w' => e = .returned (.bool true) ∧ Below w.heap.size w w' := by
  have HB0 : Hid (Below w.heap.size w (w.alloc (.cells #[.int .i64 l, .slice A m c] 56))) := (Below.refl _ _).alloc (Nat.le_refl _) _
  have X0 := Lib.hid (box2 w 56 (.int .i64 l) (.slice A m c))
  have PN : ∀ w, (binOp .eql 27 (.pointer (some ⟨q, 0, none⟩)) (.pointer none)).run Tryz.prog w = .ok (.bool false) w := fun _ => by kernel_rfl
  have D0 := Lib.hid (d.below HB0.out)
  have E0 := Lib.hid (d2.below HB0.out)
  have V0 := Lib.hid (hv.below HB0.out)
  have SS := Lib.hid s
  have VF := Lib.hid d.v
  have MM := Lib.hid hm
  have u := d.po.uni
  have N1 := Lib.hid (fun v (hb : Below _ _ v) => dgN_any v (D0.out.below hb).box (D0.out.below hb).po hn)
  have N2 := Lib.hid (fun v (hb : Below _ _ v) => dgN_any v (E0.out.below hb).box (E0.out.below hb).po hn2)
  have L1 := Lib.hid (fun v (hb : Below _ _ v) => dgLen_any v (D0.out.below hb).box (D0.out.below hb).po hn)
  have L2 := Lib.hid (fun v (hb : Below _ _ v) => dgLen_any v (E0.out.below hb).box (E0.out.below hb).po hn2)
  have C1 := Lib.hid (fun v (hb : Below _ _ v) => dgConf_any v (D0.out.below hb).box)
  have C2 := Lib.hid (fun v (hb : Below _ _ v) => dgConf_any v (E0.out.below hb).box)
  have TT := Lib.hid (fun v (hb : Below _ _ v) => rgTotal_any l A m c T v (V0.out.below hb) (good_nonneg SS.out.bag.good) SS.out.bag.tot (by have := MM.out; omega))
  rw [← tot] at N2
  rw [← s.std.tot] at TT
  have EN := Lib.hid (fun w => rends_any l id w (by omega) (by omega) I0 I1)
  have NDc := Lib.hid (fun v (hb : Below _ _ v) => (dgNodes_any v (D0.out.below hb).box (D0.out.below hb).po hn).mono (R' := fun e w' => ∃ A9 m9 c9, e = .returned (.slice A9 m9 c9) ∧ OwnNd 75 w' 0 (.slice A9 m9 c9) F ∧ m9 ≤ 1000 ∧ Below v.heap.size v w') fun e w' ⟨A9, m9, c9, a, b, hb⟩ => ⟨A9, m9, c9, a, own_low b (Nat.zero_le _), by have x := (nodes_cells (ownNd_nodes b)).1; have y := D0.out.po.len; omega, hb⟩)
  have BT := Lib.hid (fun (lo hi : Int) v (hb : Below _ _ v) => rgBetween_any l lo hi A m c T v (V0.out.below hb) (good_nonneg SS.out.bag.good) SS.out.bag.tot (by have := MM.out; omega))
  have BW := Lib.hid (fun (v : World) (A9 : Option Addr) (m9 c9 : Nat) (ho : NodesAt v (.slice A9 m9 c9) F) (h9 : m9 ≤ 1000) => rPrBelow_any l id A9 m9 c9 F v ho VF.out.roll h9 I0 I1)
  have AW := Lib.hid (fun (v : World) (A9 : Option Addr) (m9 c9 : Nat) (ho : NodesAt v (.slice A9 m9 c9) F) (h9 : m9 ≤ 1000) => rDgAbove_any (l := l) id A9 m9 c9 F v ho VF.out.roll h9 I0 I1)
  have LW := Lib.hid (fun (v : World) (A9 : Option Addr) (m9 c9 : Nat) (ho : NodesAt v (.slice A9 m9 c9) F) (h9 : m9 ≤ 1000) => rPrLight_any l k A9 m9 c9 F v ho VF.out.roll h9 (by have := VF.out.k1; omega) (by have := VF.out.k2; omega))
  rw [rcLight_v d.v] at LW
  unfold belN at BW
  have F1 : ∀ w, (Instr.field 23 (.agg #[.int .i64 l, .int .i64 k, .int .i64 kd]) 1).run Tryz.prog w = .ok (.int .i64 k) w := fun _ => by kernel_rfl
  have F2 : ∀ w, (Instr.field 23 (.agg #[.int .i64 l, .int .i64 k, .int .i64 kd]) 2).run Tryz.prog w = .ok (.int .i64 kd) w := fun _ => by kernel_rfl
  have F0 : ∀ w, (Instr.field 23 (.agg #[.int .i64 l, .int .i64 k, .int .i64 kd]) 0).run Tryz.prog w = .ok (.int .i64 l) w := fun _ => by kernel_rfl
  have G1 : ∀ w, (Instr.field 23 (.agg #[.int .i64 l2, .int .i64 k, .int .i64 kd]) 1).run Tryz.prog w = .ok (.int .i64 k) w := fun _ => by kernel_rfl
  have G2 : ∀ w, (Instr.field 23 (.agg #[.int .i64 l2, .int .i64 k, .int .i64 kd]) 2).run Tryz.prog w = .ok (.int .i64 kd) w := fun _ => by kernel_rfl
  obtain ⟨fl, hfl⟩ : ∃ fl : Int, fl = (F.length : Int) := ⟨_, rfl⟩
  obtain ⟨ll, hll⟩ : ∃ ll : Int, ll = (L.length : Int) := ⟨_, rfl⟩
  rw [← hfl] at L1
  rw [← hll] at L2
  have c1 : decide (ll < fl) = false := decide_eq_false (by omega)
  have SB := Lib.hid (show 0 ≤ sumC F ∧ sumC F ≤ 72057594037927935 from ⟨sumC_nonneg (good_nonneg (roll_good d.v.roll)), d.v.roll.2.2.2.2⟩)
  clear d d2 hv s tot len hfl hll hm u
  generalize sumC F = sf at *
  have c2 : (sf != sf) = false := by simp
  have c3 : (k != k) = false := by simp
  have c4 : (kd != kd) = false := by simp
  have c5 : (l != l) = false := by simp
  go_enter Tryz.func24, Tryz.ntmps24
  go_upto_region 1 with fail
  generalize w.alloc (.cells #[.int .i64 l, .slice A m c] 56) = W at *
  obtain ⟨x0, x1, _, _, hx⟩ := box_cells X0.out
  have HX := Lib.hid hx
  go_region_held3 (fun w' => w'.cell? ⟨w.heap.size, 0, none⟩ = some (.int .i64 l) ∧ w'.cell? ⟨w.heap.size, 1, none⟩ = some (.slice A m c) ∧ Below W.heap.size W w')
    (first | assumption | (exact rc_keep2 (by assumption) (by assumption) HX.out HX.out) | (exact ⟨x0, x1, below_drew _⟩))
    (first
      | (go_at_call 38; (with_reducible refine (N1.out _ (rc_below2 (p := ⟨w.heap.size, 0, none⟩) (q := ⟨w.heap.size, 1, none⟩) (x := .int .i64 l) (y := .slice A m c) (by assumption))).mono ?_); rintro e v1 ⟨rfl, hbv1⟩)
      | (go_at_call 38; (with_reducible refine (N2.out _ (rc_below2 (p := ⟨w.heap.size, 0, none⟩) (q := ⟨w.heap.size, 1, none⟩) (x := .int .i64 l) (y := .slice A m c) (by assumption))).mono ?_); rintro e v2 ⟨rfl, hbv2⟩)
      | (go_at_call 52; (with_reducible refine (L1.out _ (rc_below2 (p := ⟨w.heap.size, 0, none⟩) (q := ⟨w.heap.size, 1, none⟩) (x := .int .i64 l) (y := .slice A m c) (by assumption))).mono ?_); rintro e v3 ⟨rfl, hbv3⟩)
      | (go_at_call 52; (with_reducible refine (L2.out _ (rc_below2 (p := ⟨w.heap.size, 0, none⟩) (q := ⟨w.heap.size, 1, none⟩) (x := .int .i64 l) (y := .slice A m c) (by assumption))).mono ?_); rintro e v4 ⟨rfl, hbv4⟩)
      | (go_at_call 26; (with_reducible refine (C1.out _ (rc_below2 (p := ⟨w.heap.size, 0, none⟩) (q := ⟨w.heap.size, 1, none⟩) (x := .int .i64 l) (y := .slice A m c) (by assumption))).mono ?_); rintro e v5 ⟨rfl, hbv5⟩)
      | (go_at_call 26; (with_reducible refine (C2.out _ (rc_below2 (p := ⟨w.heap.size, 0, none⟩) (q := ⟨w.heap.size, 1, none⟩) (x := .int .i64 l) (y := .slice A m c) (by assumption))).mono ?_); rintro e v6 ⟨rfl, hbv6⟩)
      | (go_at_call 51; refine (TT.out _ (rc_below2 (p := ⟨w.heap.size, 0, none⟩) (q := ⟨w.heap.size, 1, none⟩) (x := .int .i64 l) (y := .slice A m c) (by assumption))).mono ?_; rintro e v7 ⟨rfl, hbv7⟩))
  rename_i hH
  have B1 : Hid (Below W.heap.size W v5) := hH.2.2
  clear hH N1 N2 L1 L2 C2 TT x0 x1 hx
  have XB := Lib.hid (own_below X0.out B1.out)
  obtain ⟨x0, x1, _, _, hx⟩ := box_cells XB.out
  go_upto_region 3 with fail
  go_cut [9] (fun s9 wx => ∃ qs A9 m9 c9, s9 = .pointer (some ⟨qs, 0, none⟩) ∧ wx.ownsRow v5.heap.size 35 2 (.slice (some ⟨qs, 0, none⟩) 1 1) 1 [.int .i64 l, .slice A9 m9 c9] ∧ OwnNd 75 wx 0 (.slice A9 m9 c9) F ∧ m9 ≤ 1000 ∧ Below v5.heap.size v5 wx)
  case first =>
    go_region_with (go_at_call 34; refine (NDc.out _ (B1.out.trans (Below.mono (by first | (exact below_drew _) | (exact (below_drew _).alloc (Nat.le_refl _) _)) B1.out.size))).mono ?_; rintro e w9 ⟨A9, m9, c9, rfl, ho9, hm9, hb9⟩; have hw9 : Below v5.heap.size v5 w9 := Below.trans (by first | (exact below_drew _) | (exact (below_drew _).alloc (Nat.le_refl _) _)) (Below.mono hb9 (by simp)); obtain ⟨xx0, xx1, _, _, hz9⟩ := box_cells (own_below XB.out hw9); first | (have du : Hid (w9.ownsRow v5.heap.size 35 2 (.slice (some ⟨v5.heap.size, 0, none⟩) 1 1) 1 [.int .i64 0, .slice none 0 0]) := own_below (box2 v5.drew _ _ _) hb9; obtain ⟨v0, v1, v2, v3, _⟩ := box_cells du.out) | skip)
    all_goals go_wp2_with fail
    all_goals go_meet
    all_goals first
      | (exact ⟨v5.heap.size, A9, m9, c9, rfl, (box_set du.out _ _).1, (box_set du.out _ _).2.1 _ _ _ _ _ _ (by decide) ho9, hm9, hw9.trans (box_set du.out _ _).2.2.1⟩)
      | (exact ⟨w9.heap.size, A9, m9, c9, rfl, own_low (box2 ..) hw9.size, own_below ho9 ((Below.refl _ _).alloc (Nat.le_refl _) _), hm9, hw9.alloc hw9.size _⟩)
  case rest =>
    obtain ⟨qs, A9, m9, c9, rfl, hq, ho, hm9, hbc⟩ := hcut
    have RC := Lib.hid (B1.out.trans (hbc.mono B1.out.size))
    have QC := Lib.hid hq
    have OC := Lib.hid (ownNd_nodes ho)
    have MC := Lib.hid hm9
    clear hq ho hm9 hbc x0 x1 hx NDc
    obtain ⟨x0, x1, _, _, hx⟩ := box_cells (own_below X0.out RC.out)
    obtain ⟨s0, s1, _, _, hs⟩ := box_cells QC.out
    have HX2 := Lib.hid hx
    have HS := Lib.hid hs
    go_upto_region 5 with (go_at_call 53; refine (EN.out _).mono ?_; rintro e w4 ⟨rfl, rfl⟩)
    have BT2 := Lib.hid (fun v (hb : Below wc.heap.size wc v) => BT.out (loN l id) (hiN l id) v (RC.out.trans (hb.mono RC.out.size)))
    have BW2 := Lib.hid (fun v (hb : Below wc.heap.size wc v) => BW.out v A9 m9 c9 (OC.out.below hb) MC.out)
    have ST : Hid (RightC l id → wtF (aboveB id) F ≤ betN T (loN l id) (hiN l id) ∧ betN T (loN l id) (hiN l id) ≤ wtF (aboveB id) F + wtF (overB id) F) := fun hr => rc_stand VF.out SS.out hr I1
    have bA := wtF_bd (aboveB id) (good_nonneg (roll_good VF.out.roll))
    have bO := wtF_bd (overB id) (good_nonneg (roll_good VF.out.roll))
    have BAO := Lib.hid (And.intro bA (And.intro bO VF.out.roll.2.2.2.2))
    clear bA bO BT BW
    generalize betN T (loN l id) (hiN l id) = held at *
    generalize wtF (aboveB id) F = low at *
    generalize wtF (overB id) F = ab at *
    go_region_held3 (fun w' => w'.cell? ⟨w.heap.size, 0, none⟩ = some (.int .i64 l) ∧ w'.cell? ⟨w.heap.size, 1, none⟩ = some (.slice A m c) ∧ w'.cell? ⟨qs, 0, none⟩ = some (.int .i64 l) ∧ w'.cell? ⟨qs, 1, none⟩ = some (.slice A9 m9 c9) ∧ Below wc.heap.size wc w')
      (first | assumption | (exact rc_keep4 (by assumption) (by assumption) HX2.out HX2.out HS.out HS.out) | (exact ⟨x0, x1, s0, s1, below_drew _⟩))
      (first
        | (go_at_call 54; refine (BT2.out _ (rc_below4 (p := ⟨w.heap.size, 0, none⟩) (q := ⟨w.heap.size, 1, none⟩) (r := ⟨qs, 0, none⟩) (s := ⟨qs, 1, none⟩) (x := .int .i64 l) (y := .slice A m c) (z := .int .i64 l) (u := .slice A9 m9 c9) (by assumption))).mono ?_; rintro e va ⟨rfl, hbva⟩)
        | (go_at_call 55; refine (BW2.out _ (rc_below4 (p := ⟨w.heap.size, 0, none⟩) (q := ⟨w.heap.size, 1, none⟩) (r := ⟨qs, 0, none⟩) (s := ⟨qs, 1, none⟩) (x := .int .i64 l) (y := .slice A m c) (z := .int .i64 l) (u := .slice A9 m9 c9) (by assumption))).mono ?_; rintro e vb ⟨rfl, hbvb⟩))
    rename_i hH
    have Q5 := Lib.hid hH.2.2.2.2
    obtain ⟨s0, s1, _, _, hs⟩ := box_cells (own_below QC.out hH.2.2.2.2)
    have HS5 := Lib.hid hs
    clear hH x0 x1 hx BT2 BW2
    by_cases hr : RightC l id
    · have en := (end_yes hr).2.2
      have st := ST.out hr
      have h1 : decide (low ≤ held) = true := decide_eq_true st.1
      have h2 : decide (held ≤ low + ab) = true := decide_eq_true st.2
      have hw : IntKind.i64.wrap (low + ab) = low + ab := wrap_lit rfl (by have := BAO.out; omega) (by have := BAO.out; omega)
      have AW2 := Lib.hid (fun v (hb : Below vb.heap.size vb v) => AW.out v A9 m9 c9 (OC.out.below (Q5.out.trans (hb.mono Q5.out.size))) MC.out)
      have LW2 := Lib.hid (fun v (hb : Below vb.heap.size vb v) => LW.out v A9 m9 c9 (OC.out.below (Q5.out.trans (hb.mono Q5.out.size))) MC.out)
      have CF2 := Lib.hid (fun v (hb : Below vb.heap.size vb v) => C1.out v (RC.out.trans ((Q5.out.trans (hb.mono Q5.out.size)).mono RC.out.size)))
      clear hr st AW LW C1
      go_upto_region 6 with fail
      go_region_held3 (fun w' => w'.cell? ⟨qs, 0, none⟩ = some (.int .i64 l) ∧ w'.cell? ⟨qs, 1, none⟩ = some (.slice A9 m9 c9) ∧ Below vb.heap.size vb w')
        (first | assumption | (exact rc_keep2 (by assumption) (by assumption) HS5.out HS5.out) | (exact ⟨s0, s1, below_drew _⟩))
        (first
          | (go_at_call 56; refine (AW2.out _ (rc_below2 (p := ⟨qs, 0, none⟩) (q := ⟨qs, 1, none⟩) (x := .int .i64 l) (y := .slice A9 m9 c9) (by assumption))).mono ?_; rintro e vc ⟨rfl, hbvc⟩)
          | (go_at_call 26; refine (CF2.out _ (rc_below2 (p := ⟨qs, 0, none⟩) (q := ⟨qs, 1, none⟩) (x := .int .i64 l) (y := .slice A9 m9 c9) (by assumption))).mono ?_; rintro e vd ⟨rfl, hbvd⟩)
          | (go_at_call 57; refine (LW2.out _ (rc_below2 (p := ⟨qs, 0, none⟩) (q := ⟨qs, 1, none⟩) (x := .int .i64 l) (y := .slice A9 m9 c9) (by assumption))).mono ?_; rintro e ve ⟨rfl, hbve⟩))
      rename_i hH
      go_wp2_with fail
      go_ret
      have z1 := Q5.out.trans (Below.mono hH.2.2 Q5.out.size)
      have z2 := RC.out.trans (z1.mono RC.out.size)
      exact ⟨rfl, HB0.out.trans (z2.mono HB0.out.size)⟩
    · have en := (end_no hr).2.2
      clear hr
      go_upto_region 6 with fail
      go_quiet (fail)
      go_wp2_with fail
      go_ret
      have z1 := Q5.out.trans ((drewN_below (Below.refl vb.heap.size vb) nq).mono Q5.out.size)
      have z2 := RC.out.trans (z1.mono RC.out.size)
      exact ⟨rfl, HB0.out.trans (z2.mono HB0.out.size)⟩

end Go.Proofs.YtachfeclgdgbiaaGreat
