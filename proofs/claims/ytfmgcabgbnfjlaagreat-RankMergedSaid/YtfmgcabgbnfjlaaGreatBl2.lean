/- The project's package blend: Merge. -/
import Derived.Test.YtfmgcabgbnfjlaaGreatBl
import Derived.Test.YtfmgcabgbnfjlaaGreatBlN
import Derived.Test.YtfmgcabgbnfjlaaGreatRo6
import Derived.Laws.Small
import Derived.Deep.RegionWith
import Derived.Deep.Cut
import Derived.Deep.DeepCutAuto
namespace Go.Proofs.YtfmgcabgbnfjlaaGreat
set_option linter.unusedVariables false
set_option maxRecDepth 100000
open Go.RowKit

theorem bl_two {l : Int} {P Q : List Nd} (hP : RollC l P) (hQ : RollC l Q) (ht : ¬ 72057594037927935 < sumC P + sumC Q) : foldB (P ++ Q) = true := by
  refine foldC_iff.2 ⟨⟨fun n hn => ?_, by rw [sumC_app]; omega⟩, fun n hn => ?_⟩
  · rcases List.mem_append.1 hn with q | q
    · exact good_nonneg (roll_good hP) n q
    · exact good_nonneg (roll_good hQ) n q
  · rcases List.mem_append.1 hn with q | q
    · exact right_pos (hP.2.2.1 n q).1
    · exact right_pos (hQ.2.2.1 n q).1
theorem bl_two_no {P Q : List Nd} (ht : 72057594037927935 < sumC P + sumC Q) : foldB (P ++ Q) = false := by
  cases h : foldB (P ++ Q)
  · rfl
  · have := (foldC_iff.1 h).1.2
    rw [sumC_app] at this
    omega
theorem blMerge_nil1 (v : Value) (w : World) : Calls Tryz.prog 22 #[.pointer none, v] w (BlNo 1 w) := by
  go_enter Tryz.func22, Tryz.ntmps22
  go_wp2_with fail
  go_ret2
  exact ⟨rfl, Below.refl _ _⟩
theorem blMerge_nil2 (q : Nat) (w : World) : Calls Tryz.prog 22 #[.pointer (some ⟨q, 0, none⟩), .pointer none] w (BlNo 1 w) := by
  have PN : ∀ w, (binOp .eql 38 (.pointer (some ⟨q, 0, none⟩)) (.pointer none)).run Tryz.prog w = .ok (.bool false) w := fun _ => by kernel_rfl
  go_enter Tryz.func22, Tryz.ntmps22
  go_wp2_with fail
  go_ret2
  exact ⟨rfl, Below.refl _ _⟩
/-- what Merge hands out, or why not -/
def BlMrgPost (kd la ka lb kb : Int) (L M : List Nd) (w : World) (e : Ending) (w' : World) : Prop :=
  (¬ bmgE la lb L M = 0 ∧ BlNo (bmgE la lb L M) w e w') ∨ (bmgE la lb L M = 0 ∧ la = lb ∧ BlPost kd la (bmgK ka kb) (bmgL la (bmgK ka kb) L M) w e w')
theorem blMrg_no {kd la ka lb kb x : Int} {L M : List Nd} {w w' : World} (h : bmgE la lb L M = x) (hx : ¬ x = 0) (hb : Below w.heap.size w w') : BlMrgPost kd la ka lb kb L M w (.returned (.tuple #[.pointer none, .int .i64 x])) w' :=
  .inl ⟨by rw [h]; exact hx, by rw [h]; exact ⟨rfl, hb⟩⟩
set_option maxHeartbeats 12800000 in
theorem blMerge_any {B q p g h B2 q2 p2 g2 h2 : Nat} {kd la ka kd2 lb kb : Int} {n n2 : Nat} {L M : List Nd} (w : World) (d : DgA w B q p g h kd la ka n L) (d2 : DgA w B2 q2 p2 g2 h2 kd2 lb kb n2 M) (hn : n ≤ 400) (hn2 : n2 ≤ 400) (hnn : L.length + M.length ≤ 500) :
    Calls Tryz.prog 22 #[.pointer (some ⟨q, 0, none⟩), .pointer (some ⟨q2, 0, none⟩)] w (BlMrgPost kd la ka lb kb L M w) := by
  have PN1 : ∀ w, (binOp .eql 38 (.pointer (some ⟨q, 0, none⟩)) (.pointer none)).run Tryz.prog w = .ok (.bool false) w := fun _ => by kernel_rfl
  have PN2 : ∀ w, (binOp .eql 38 (.pointer (some ⟨q2, 0, none⟩)) (.pointer none)).run Tryz.prog w = .ok (.bool false) w := fun _ => by kernel_rfl
  have DA := Lib.hid d
  have DB := Lib.hid d2
  have CA := Lib.hid (dgConf_any w d.box)
  have CB := Lib.hid (fun v (hb : Below _ _ v) => dgConf_any v (d2.box.below hb))
  have NN := Lib.hid hnn
  clear d d2 hnn
  go_enter Tryz.func22, Tryz.ntmps22
  go_wp2_with fail
  refine CA.out.mono ?_
  rintro e w1 ⟨rfl, hb1⟩
  have R1 := Lib.hid hb1
  clear hb1 CA
  go_wp2_with fail
  refine (CB.out _ R1.out).mono ?_
  rintro e w2 ⟨rfl, hb2⟩
  have R2 := Lib.hid (R1.out.trans (hb2.mono R1.out.size))
  have e1 : (w2.alloc (.cells #[.int .i64 la, .int .i64 ka, .int .i64 kd] 23)).heap.size = w2.heap.size + 1 := by simp
  have R3 := Lib.hid ((R2.out.alloc R2.out.size (.cells #[.int .i64 la, .int .i64 ka, .int .i64 kd] 23)).alloc (by rw [e1]; have := R2.out.size; omega) (.cells #[.int .i64 lb, .int .i64 kb, .int .i64 kd2] 23))
  have X3 := Lib.hid ((tri_nw w2 23 (.int .i64 la) (.int .i64 ka) (.int .i64 kd)).alloc (.cells #[.int .i64 lb, .int .i64 kb, .int .i64 kd2] 23))
  have Y3 := tri_nw (w2.alloc (.cells #[.int .i64 la, .int .i64 ka, .int .i64 kd] 23)) 23 (.int .i64 lb) (.int .i64 kb) (.int .i64 kd2)
  rw [e1] at Y3
  have Y3 := Lib.hid Y3
  have S2 := Lib.hid R2.out.size
  obtain ⟨x0, x1, x2, xf0, xf1, xf2, hx⟩ := tri_all X3.out
  obtain ⟨y0, y1, y2, _, _, _, hy⟩ := tri_all Y3.out
  clear hb2 CB e1 R1
  go_upto_region 4 with fail
  generalize (w2.alloc (.cells #[.int .i64 la, .int .i64 ka, .int .i64 kd] 23)).alloc (.cells #[.int .i64 lb, .int .i64 kb, .int .i64 kd2] 23) = W3 at *
  by_cases hl : la = lb
  · subst hl
    have g1 : (la != la) = false := by simp
    have hmin : min ka kb = bmgK ka kb := by unfold bmgK; split <;> omega
    have KK := Lib.hid (bmgK_le ka kb)
    have k1 := KK.out.2.2 DA.out.v.k1 DB.out.v.k1
    have BK := Lib.hid (bmgL_eq la (bmgK ka kb) L M)
    have PA := dgV_lower DA.out.v k1 KK.out.1
    have PB := dgV_lower DB.out.v k1 KK.out.2.1
    have LA := Lib.hid (fun v (hb : Below _ _ v) => blLower_any (bmgK ka kb) v (DA.out.below (w' := v) hb) hn k1 KK.out.1)
    have LB := Lib.hid (fun v (hb : Below _ _ v) => blLower_any (bmgK ka kb) v (DB.out.below (w' := v) hb) hn2 k1 KK.out.2.1)
    have IP := Lib.hid DA.out.po.is
    have HE : Hid ((72057594037927935 < sumC L + sumC M → bmgE la la L M = 5) ∧ (¬ 72057594037927935 < sumC L + sumC M → bmgE la la L M = 0)) := ⟨bmgE_full, bmgE_ok⟩
    have VM : Hid (¬ 72057594037927935 < sumC L + sumC M → DgV la (bmgK ka kb) (bmgL la (bmgK ka kb) L M) ∧ sumC (bmgL la (bmgK ka kb) L M) = sumC L + sumC M ∧ (bmgL la (bmgK ka kb) L M).length ≤ L.length + M.length ∧ ((bmgL la (bmgK ka kb) L M).length : Int) ≤ 8 * bmgK ka kb - 2) := dgV_bmg DA.out.v DB.out.v
    generalize hkk : bmgK ka kb = k at *
    have HKK := Lib.hid hkk
    clear hkk
    generalize pressW la k L = P at *
    generalize pressW la k M = Q at *
    generalize hff : bmgL la k L M = F at *
    have HFF := Lib.hid hff
    clear hff
    have VA := Lib.hid PA
    have VB := Lib.hid PB
    clear PA PB k1
    have T4 := Lib.hid (tri_mid X3.out (.int .i64 k))
    go_upto_region 7 with fail
    have R4 := Lib.hid (R3.out.trans (T4.out.2.1.mono S2.out))
    have X4 := Lib.hid T4.out.1
    clear x0 x1 x2 xf0 xf1 xf2 hx y0 y1 y2 hy T4 X3 Y3 R3
    generalize W3.setCell ⟨w2.heap.size, 1, none⟩ (.int .i64 k) = W4 at *
    obtain ⟨x0, x1, x2, _, _, _, hx⟩ := tri_all X4.out
    go_wp2_with fail
    refine (LA.out _ R4.out).mono ?_
    rintro e w5 ⟨hb5, q5, p5, g5, h5, rfl, hd5⟩
    have C5 := Lib.hid hb5
    have R5 := Lib.hid (R4.out.trans (hb5.mono R4.out.size))
    have D5 := Lib.hid hd5
    clear hb5 hd5 LA x0 x1 x2 hx
    obtain ⟨x0, x1, x2, _, _, _, hx⟩ := tri_all (own_below X4.out C5.out)
    go_wp2_with fail
    refine (LB.out _ R5.out).mono ?_
    rintro e w6 ⟨hb6, q6, p6, g6, h6, rfl, hd6⟩
    have C6 := Lib.hid (C5.out.trans (hb6.mono C5.out.size))
    have D6 := Lib.hid hd6
    have E6 := Lib.hid (D5.out.below hb6)
    clear hb6 hd6 LB x0 x1 x2 hx
    have PLN : Hid (P.length + Q.length ≤ 500) := by have a := NN.out; have b := VA.out.2.2.1; have c := VB.out.2.2.1; show _ ≤ _; omega
    go_wp2_with fail
    refine (dgNodes_any w6 E6.out.box E6.out.po (by have := PLN.out; omega)).mono ?_
    rintro e w7 ⟨A7, m7, c7, rfl, ho7, hb7⟩
    have C7 := Lib.hid (C6.out.trans (hb7.mono C6.out.size))
    have D7 := Lib.hid (D6.out.below hb7)
    have O7 := Lib.hid (ownNd_nodes ho7)
    clear ho7 hb7
    go_wp2_with fail
    refine (dgNodes_any w7 D7.out.box D7.out.po (by have := PLN.out; omega)).mono ?_
    rintro e w8 ⟨A8, m8, c8, rfl, ho8, hb8⟩
    have C8 := Lib.hid (C7.out.trans (hb8.mono C7.out.size))
    have O8 := Lib.hid (ownNd_nodes ho8)
    have P8 := Lib.hid (O7.out.below hb8)
    clear ho8 hb8
    have JN := Lib.hid (join_any A7 A8 m7 c7 m8 c8 P Q w8 P8.out O8.out (nbds_roll VA.out.1.roll) (nbds_roll VB.out.1.roll) (by have a := (nodes_cells P8.out).1; have b := PLN.out; omega) (by have a := (nodes_cells O8.out).1; have b := PLN.out; omega))
    by_cases ht : 72057594037927935 < sumC L + sumC M
    · have FB := bl_two_no (P := P) (Q := Q) (by rw [VA.out.2.2.2, VB.out.2.2.2]; exact ht)
      have JX := Lib.hid (JN.out.mono (fun _ _ q => fold_is_no FB q))
      have E := Lib.hid (HE.out.1 ht)
      clear ht FB JN HE
      go_wp2_with fail
      refine JX.out.mono ?_
      rintro e w9 ⟨rfl, hb9⟩
      have R9 := Lib.hid (R4.out.trans ((C8.out.trans (hb9.mono C8.out.size)).mono R4.out.size))
      clear hb9
      go_wp2_with fail
      go_ret2
      exact .inl ⟨by rw [E.out]; omega, by rw [E.out]; exact ⟨rfl, R9.out⟩⟩
    · have FB := bl_two VA.out.1.roll VB.out.1.roll (by rw [VA.out.2.2.2, VB.out.2.2.2]; exact ht)
      have JX := Lib.hid (JN.out.mono (fun _ _ q => fold_is_yes FB q))
      have E := Lib.hid (HE.out.2 (by omega))
      have VF := Lib.hid (VM.out (by omega))
      clear ht FB JN HE VM
      go_wp2_with fail
      refine JX.out.mono ?_
      rintro e w9 ⟨F9, A9, c9, rfl, hF9, hn9, hb9⟩
      obtain rfl : F9 = F := by rw [BK.out]; exact fold_mrg VA.out.1.roll VB.out.1.roll hF9
      have C9 := Lib.hid (C8.out.trans (hb9.mono C8.out.size))
      have R9 := Lib.hid (R4.out.trans (C9.out.mono R4.out.size))
      have N9 := Lib.hid hn9
      have LV := Lib.hid (blLoad_v kd la k A9 F9.length c9 F9 w9 N9.out VF.out.1 IP.out (by have a := VF.out.2.2.1; have b := NN.out; omega))
      obtain ⟨x0, x1, x2, _, _, _, hx⟩ := tri_all (own_below X4.out C9.out)
      clear hF9 hn9 hb9
      go_wp2_with fail
      refine LV.out.mono ?_
      rintro e w10 ⟨hb10, q10, p10, g10, h10, rfl, hd10⟩
      have R10 := Lib.hid (R9.out.trans (hb10.mono R9.out.size))
      have D10 := Lib.hid (hd10.low R9.out.size)
      clear hb10 hd10 LV x0 x1 x2 hx
      go_wp2_with fail
      go_ret2
      exact .inr ⟨E.out, rfl, by rw [HKK.out, HFF.out]; exact ⟨R10.out, q10, p10, g10, h10, rfl, D10.out⟩⟩
  · have g1 : (la != lb) = true := bne_iff_ne.2 hl
    have E := Lib.hid (bmgE_shape (L := L) (M := M) hl)
    clear hl
    go_wp2_with fail
    go_ret2
    exact blMrg_no E.out (by omega) R3.out

end Go.Proofs.YtfmgcabgbnfjlaaGreat
