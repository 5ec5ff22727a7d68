/- The walk of the statement QuantMany of layer quant, over the project's contracts: for every input it returns true, and nothing that was there before is changed. -/
import Derived.Test.YtkhacpapkalkiaaGreatQuLaw
import Derived.Test.YtkhacpapkalkiaaGreatQuRef
import Derived.Test.YtkhacpapkalkiaaGreatTiSame
import Derived.Test.YtkhacpapkalkiaaGreatOpQ
import Derived.Deep.Cut
namespace Go.Proofs.YtkhacpapkalkiaaGreat
set_option linter.unusedVariables false
set_option maxRecDepth 100000
open Go.RowKit

theorem mn_take {L : List Nd} : ∀ {R : List Int} {j : Nat} (h : j < R.length), mnE L (R.take j) = 0 → mnE L (R.take (j + 1)) = wrE L (R.getD j 0) ∧ (¬ wrE L (R.getD j 0) = 0 → mnE L R = wrE L (R.getD j 0))
  | [], j, h, _ => by simp at h
  | r :: R, 0, _, _ => by
    refine ⟨?_, fun z => ?_⟩
    · show mnE L [r] = _
      unfold mnE
      split
      · rename_i z; simp [mnE, z]
      · simp
    · unfold mnE
      simp at z
      rw [if_neg z]; simp
  | r :: R, j + 1, h, e => by
    have e2 : (if wrE L r = 0 then mnE L (R.take j) else wrE L r) = 0 := e
    by_cases z : wrE L r = 0
    · rw [if_pos z] at e2
      have q := mn_take (L := L) (R := R) (j := j) (by simpa using h) e2
      refine ⟨?_, fun y => ?_⟩
      · show (if wrE L r = 0 then mnE L (R.take (j + 1)) else wrE L r) = _
        rw [if_pos z, q.1]; simp
      · show (if wrE L r = 0 then mnE L R else wrE L r) = _
        rw [if_pos z]
        simp at y ⊢
        exact q.2 (by simpa using y)
    · rw [if_neg z] at e2; exact absurd e2 z
theorem mn_bd (L : List Nd) : ∀ R : List Int, mnE L R = 7 ∨ mnE L R = 2 ∨ mnE L R = 0
  | [] => .inr (.inr rfl)
  | r :: R => by
    unfold mnE
    split
    · exact mn_bd L R
    · exact wrE_bd L r
theorem map_take1 {f : Int → Int} {R : List Int} {j : Nat} (h : j < R.length) : (R.take (j + 1)).map f = (R.take j).map f ++ [f (R.getD j 0)] := by
  rw [take_at h, List.map_append]; rfl
theorem qu_keep4 {W a b : World} {p q r s : Addr} {x y z u : Value} (h : a.cell? p = some x ∧ a.cell? q = some y ∧ a.cell? r = some z ∧ a.cell? s = some u ∧ Below W.heap.size W a) (hb : Below a.heap.size a b)
    (hp : p.block < W.heap.size) (hq : q.block < W.heap.size) (hr : r.block < W.heap.size) (hs : s.block < W.heap.size) : b.cell? p = some x ∧ b.cell? q = some y ∧ b.cell? r = some z ∧ b.cell? s = some u ∧ Below W.heap.size W b := by
  obtain ⟨h1, h2, h3, h4, h5⟩ := h
  have hz := h5.size
  exact ⟨(hb.cell (by omega)).trans h1, (hb.cell (by omega)).trans h2, (hb.cell (by omega)).trans h3, (hb.cell (by omega)).trans h4, h5.trans (hb.mono hz)⟩
theorem qu_below4 {W a : World} {p q r s : Addr} {x y z u : Value} (h : a.cell? p = some x ∧ a.cell? q = some y ∧ a.cell? r = some z ∧ a.cell? s = some u ∧ Below W.heap.size W a) : Below W.heap.size W a := h.2.2.2.2
theorem quInt_info : (Tryz.prog.info? 3).map (fun i => (i.zero, i.size, i.bytes)) = some (some (.int .i64 0), 1, 8) := by kernel_rfl
/-- where the loop stands: what is wanted so far, or the first error -/
def QuRun (w : World) (B : Nat) (l : Int) (L : List Nd) (R : List Int) (j : Nat) (v : Value) (x : Int) : Prop :=
  ∃ P, OwnI 3 w B v P ∧ P.length ≤ j ∧ ((x = 0 ∧ mnE L (R.take j) = 0 ∧ P = (R.take j).map (atN l L)) ∨ (¬ x = 0 ∧ mnE L R = x))
set_option maxHeartbeats 12800000 in
theorem walk_quantManyK (KA : QuA) (KS : QuS) (KR : QuR) (KM : QuM) (l k kd : Int) (A : Option Addr) (n c : Nat) (L : List Nd) (A2 : Option Addr) (n2 c2 : Nat) (R : List Int) (L0 : -9223372036854775808 ≤ l) (L1 : l ≤ 9223372036854775807) (K0 : -9223372036854775808 ≤ k) (K1 : k ≤ 9223372036854775807) (D0 : -9223372036854775808 ≤ kd) (D1 : kd ≤ 9223372036854775807) (NB : NBds L) (m1 : n ≤ 9223372036854775807)
    (RB : BdZ R) (m2 : n2 ≤ 9223372036854775807) (w : World) (hv : NodesAt w (.slice A n c) L) (hr : IntsAt w (.slice A2 n2 c2) R) :
    Calls Tryz.prog 5 #[.agg #[.int .i64 l, .int .i64 k, .int .i64 kd, .slice A n c], .slice A2 n2 c2] w fun e w' => e = .returned (.bool true) ∧ Below w.heap.size w w' := by
  have HB0 : Hid (Below w.heap.size w (w.alloc (.cells #[.int .i64 l, .int .i64 k, .int .i64 kd, .slice A n c] 26))) := (Below.refl _ _).alloc (Nat.le_refl _) _
  have X0 := Lib.hid (quad_new w 26 (.int .i64 l) (.int .i64 k) (.int .i64 kd) (.slice A n c))
  have PM := Lib.hid KM
  have HV := Lib.hid hv
  have HR := Lib.hid hr
  have HRB : Hid (BdZ R) := RB
  have HNB : Hid (NBds L) := NB
  have LL := Lib.hid (And.intro L0 L1)
  have AL := Lib.hid (fun v => quAlive_any KA KS KR v)
  clear KA KS KR KM K0 K1 D0 D1 m1 hv hr NB RB L0 L1
  go_enter Tryz.func5, Tryz.ntmps5
  go_wp2_with fail
  generalize w.alloc (.cells #[.int .i64 l, .int .i64 k, .int .i64 kd, .slice A n c] 26) = W at *
  refine (PM.out.many_none _).mono ?_
  rintro e w1 ⟨⟨A5, c5, rfl⟩, hb1⟩
  have B1 := Lib.hid hb1
  clear hb1
  have ONE0 : OwnI 3 (w1.alloc (.cells #[.int .i64 1] 3)) w1.heap.size (.slice (some ⟨w1.heap.size, 0, none⟩) 1 1) [1] := World.ownsRow_lit (base := w1.heap.size) (e := 3) (size := 1) w1 #[.int .i64 1] 1 (Nat.le_refl _) (by unfold maxLen; omega) rfl
  have ONE := Lib.hid (ownI_ints ONE0)
  clear ONE0
  have B2 : Hid (Below W.heap.size W (w1.alloc (.cells #[.int .i64 1] 3))) := B1.out.alloc B1.out.size _
  go_wp2_with fail
  generalize w1.alloc (.cells #[.int .i64 1] 3) = W2 at *
  refine (PM.out.many_nil _ ONE.out (by omega) (by omega)).mono ?_
  rintro e w3 ⟨⟨A6, c6, rfl⟩, hb3⟩
  have B3 := Lib.hid (B2.out.trans (hb3.mono B2.out.size))
  clear hb3
  have W3 := Lib.hid (HB0.out.trans (B3.out.mono HB0.out.size))
  obtain ⟨x0, x1, x2, x3, _, _, _, _, hz⟩ := quad_all (own_below X0.out B3.out)
  cases hld : rnkLdB kd l k n L
  · have LD := Lib.hid (rnkLoad_no l k kd A n c L w3 (HV.out.below W3.out) HNB.out LL.out.1 LL.out.2 hld)
    clear hld
    go_wp2_with fail
    refine LD.out.mono ?_
    rintro e w7 ⟨rfl, hb7⟩
    have Q1 := Lib.hid (W3.out.trans (hb7.mono W3.out.size))
    have Q2 := Lib.hid (Q1.out.alloc Q1.out.size (.cells #[.int .i64 0, .int .i64 0, .slice none 0 0] 37))
    clear hb7 LD x0 x1 x2 x3 hz
    go_wp2_with (go_at_call 11; refine (AL.out _).mono ?_; rintro e v7 ⟨rfl, hbv7⟩)
    go_ret
    exact ⟨rfl, Q2.out.trans (hbv7.mono Q2.out.size)⟩
  · have LD := Lib.hid (rnkLoad_yes l k kd A n c L w3 (HV.out.below W3.out) HNB.out LL.out.1 LL.out.2 hld)
    have NL : Hid (¬ 150 < n) := (of_decide_eq_true hld).1
    clear hld
    go_wp2_with fail
    refine LD.out.mono ?_
    rintro e w7 ⟨q, p, g, h, rfl, hd7, hb7⟩
    have hba := (Below.refl w7.heap.size w7).alloc (Nat.le_refl _) (.cells #[.int .i64 k, .int .i64 l, .slice A n c] 37)
    have R8 := Lib.hid (W3.out.trans ((hb7.trans (hba.mono hb7.size)).mono W3.out.size))
    have D8 := Lib.hid (hd7.below hba)
    have Y8 := Lib.hid (tri_nw w7 37 (.int .i64 k) (.int .i64 l) (.slice A n c))
    have PN : ∀ w, (binOp .eql 33 (.pointer (some ⟨q, 0, none⟩)) (.pointer none)).run Tryz.prog w = .ok (.bool false) w := fun _ => by kernel_rfl
    clear hd7 hb7 hba LD x0 x1 x2 x3 hz
    go_upto_region 8 with fail
    generalize w7.alloc (.cells #[.int .i64 k, .int .i64 l, .slice A n c] 37) = W8 at *
    rcases (show 60 < n2 ∨ ¬ 60 < n2 by omega) with hn | hn
    · have g0 : decide (60 < (n2 : Int)) = true := decide_eq_true (by omega)
      clear hn
      go_wp2_with (go_at_call 11; refine (AL.out _).mono ?_; rintro e v7 ⟨rfl, hbv7⟩)
      go_ret
      exact ⟨rfl, R8.out.trans (hbv7.mono R8.out.size)⟩
    · have g0 : decide (60 < (n2 : Int)) = false := decide_eq_false (by omega)
      have n60 : n2 ≤ 60 := by omega
      obtain ⟨i0, hi, hz0, hz1, hz2⟩ := info_parts quInt_info
      have V8 := Lib.hid (HV.out.below R8.out)
      have I8 := Lib.hid (HR.out.below R8.out)
      have rl := D8.out.v.roll
      have RT := Lib.hid (fun v r (hb : Below W8.heap.size W8 v) r0 r1 => rQuAt_any r l k A n c L v (V8.out.below hb) rl (by have := NL.out; omega) r0 r1)
      have HL := Lib.hid (ints_cells I8.out).1
      have HC := Lib.hid (ints_cells I8.out).2
      clear rl hn
      go_wp2_with fail
      go_loopw [11, 12, 13] (fun v x i wr => ∃ (j : Nat) (E : Int), j ≤ n2 ∧ i = .int .i64 j ∧ x = .int .i64 E ∧ QuRun wr W8.heap.size l L R j v E ∧ Below W8.heap.size W8 wr) (fun _ _ i _ => n2 - (intOf i).toNat)
      case atStart => exact ⟨0, 0, by omega, rfl, rfl, ⟨[], ownI_nil .., by simp, .inl ⟨rfl, rfl, rfl⟩⟩, Below.refl _ _⟩
      case round =>
        obtain ⟨j, E, hj, rfl, rfl, ⟨P, ho, hPl, hP⟩, hbw⟩ := hrel
        have BW := Lib.hid hbw
        have OO := Lib.hid ho
        have PL := Lib.hid hPl
        clear hbw ho hPl
        rcases hP with ⟨hE, hm0, hP⟩ | ⟨hE, hmE⟩
        · subst hE
          have M0 := Lib.hid hm0
          have PE := Lib.hid hP
          clear hm0 hP
          by_cases hlt : j < n2
          · have hjl : j < R.length := by have := HL.out; omega
            obtain ⟨b, o, rfl, hbz, hcc⟩ := HC.out (by omega)
            have e0 : wr.cell? ⟨b, o + j, none⟩ = some (.int .i64 (R.getD j 0)) := (BW.out.cell (p := ⟨b, o + j, none⟩) hbz).trans (hcc j hjl)
            have hbw : b < wr.heap.size := Nat.lt_of_lt_of_le hbz BW.out.size
            have rb := HRB.out (R.getD j 0) (getD_mem hjl)
            have MT := Lib.hid (mn_take (L := L) hjl M0.out)
            have TK := Lib.hid (map_take1 (f := atN l L) hjl)
            obtain ⟨y0, y1, y2, _, _, _, hy⟩ := tri_all (own_below Y8.out BW.out)
            have HY := Lib.hid hy
            have HBW := Lib.hid hbw
            have pl : P.length ≤ 60 := by have := PL.out; omega
            clear hcc hbz
            generalize R.getD j 0 = x at *
            have j0 : (0 : Int) ≤ (j : Int) := Int.natCast_nonneg _
            have j1 : (j : Int) < (n2 : Int) := by omega
            have QT := Lib.hid (fun v (hb : Below wr.heap.size wr v) => RT.out v x (qu_next BW.out hb) rb.1 rb.2)
            have QA : Hid (wrE L x = 0 → qaA l L x = atN l L x) := fun z => qaA_yes z
            generalize qaA l L x = ax at *
            generalize wrE L x = E at *
            go_wp2_with fail
            go_region_held3 (fun w' => w'.cell? ⟨w7.heap.size, 0, none⟩ = some (.int .i64 k) ∧ w'.cell? ⟨w7.heap.size, 1, none⟩ = some (.int .i64 l) ∧ w'.cell? ⟨w7.heap.size, 2, none⟩ = some (.slice A n c) ∧ w'.cell? ⟨b, o + j, none⟩ = some (.int .i64 x) ∧ Below wr.heap.size wr w')
              (first | assumption | (exact qu_keep4 (by assumption) (by assumption) HY.out HY.out HY.out HBW.out) | (exact ⟨y0, y1, y2, e0, below_drew _⟩))
              (first
                | (go_at_call 12; (with_reducible refine (QT.out _ (qu_below4 (p := ⟨w7.heap.size, 0, none⟩) (q := ⟨w7.heap.size, 1, none⟩) (r := ⟨w7.heap.size, 2, none⟩) (s := ⟨b, o + j, none⟩) (x := .int .i64 k) (y := .int .i64 l) (z := .slice A n c) (u := .int .i64 x) (by assumption))).mono ?_); rintro e u0 ⟨rfl, hbu0⟩))
            rename_i hH
            have B9 := Lib.hid hH.2.2.2.2
            have z9 : W8.heap.size ≤ u0.heap.size := Nat.le_trans BW.out.size B9.out.size
            clear hH y0 y1 y2 hy e0
            go_wp2_with (at_builtin; refine wpList_append_own _ rfl _ _ 49 rfl W8.heap.size 3 i0 (.int .i64 0) 1 8 Tryz.underlying49 hi hz0 hz1 hz2 rfl (by decide) _ P.length (ints P) rfl (World.ownsRow.alloc (own_below OO.out B9.out) _) ⟨u0.heap.size, 0, none⟩ 1 1 [.int .i64 ax] rfl rfl (one_new _ _ _ _ rfl) (one_int _) (by unfold maxLen; omega) (by omega) (by simp; omega) ?_)
            intro v' w9 hown hgrow hnil
            have O4 := Lib.hid (ownI_snoc (x := ax) rfl hown)
            have B10 := Lib.hid (((qu_next BW.out B9.out).alloc z9 (.cells #[.int .i64 ax] 3)).grown hgrow (by simp; omega) (fun g hg => (World.ownsRow.lt OO.out g hg).1))
            clear hown hgrow hnil
            have RUN : Hid (QuRun w9 W8.heap.size l L R (j + 1) v' E) := by
              refine ⟨P ++ [ax], O4.out, by have := PL.out; simp; omega, ?_⟩
              by_cases z : E = 0
              · exact .inl ⟨z, MT.out.1.trans z, by rw [TK.out, PE.out, QA.out z]⟩
              · exact .inr ⟨z, MT.out.2 z⟩
            go_wp2_with fail
            go_roundw
            case rel => exact ⟨j + 1, E, by omega, by go_num, rfl, RUN.out, B10.out⟩
            case measure => simp [intOf]; omega
          · obtain rfl : j = n2 := by omega
            have e : R.take j = R := List.take_of_length_le (by have := HL.out; omega)
            rw [e] at M0 PE
            have R9 := Lib.hid (R8.out.trans (BW.out.mono R8.out.size))
            have MA := Lib.hid (PM.out.many wr (D8.out.below BW.out) (by omega) (I8.out.below BW.out) n60 HRB.out)
            rw [M0.out, if_pos rfl, ← PE.out] at MA
            obtain ⟨A7, m7, c7, rfl⟩ := own_slice OO.out
            have I7 := Lib.hid (ownI_ints OO.out)
            have m70 : m7 ≤ 1000000 := by have a := (ints_cells I7.out).1; have b := PL.out; omega
            clear e
            go_wp2_with fail
            refine MA.out.mono ?_
            rintro e v2 ⟨⟨A9, n9, c9, rfl, hi9⟩, hv2⟩
            have I9 := Lib.hid hi9
            have n90 : n9 ≤ 1000000 := by have a := (ints_cells hi9).1; have b := PL.out; omega
            have V2 := Lib.hid hv2
            have SM : Hid (Calls Tryz.prog 19 #[.slice A9 n9 c9, .slice A7 m7 c7] v2 fun e w' => e = .returned (.bool true) ∧ Below v2.heap.size v2 w') := (same5_any A9 A7 n9 m7 c9 c7 P P v2 I9.out (I7.out.below V2.out) n90 m70).mono fun e w' ⟨a, b⟩ => ⟨a.trans (ret_b (decide_eq_true rfl)), b⟩
            clear hi9 hv2 MA
            go_wp2_with (first
              | (go_at_call 19; refine SM.out.mono ?_; rintro e v3 ⟨rfl, hv3⟩)
              | (go_at_call 11; refine (AL.out _).mono ?_; rintro e v7 ⟨rfl, hbv7⟩))
            go_ret
            exact ⟨rfl, R9.out.trans ((qu_next (qu_next V2.out hv3) hbv7).mono R9.out.size)⟩
        · have R9 := Lib.hid (R8.out.trans (BW.out.mono R8.out.size))
          have e1 : (E == 0) = false := beq_eq_false_iff_ne.2 hE
          have e2 : (E != 0) = true := bne_iff_ne.2 hE
          have e3 : (E == E) = true := by simp
          have MA := Lib.hid (PM.out.many wr (D8.out.below BW.out) (by omega) (I8.out.below BW.out) n60 HRB.out)
          rw [hmE, if_neg hE] at MA
          have NX : Hid (j < n2 ∨ ¬ j < n2) := by show _ ∨ _; omega
          have H60 := Lib.hid hj
          clear hE hmE hj
          rcases NX.out with hlt | hlt
          case' inl =>
            have j0 : decide ((j : Int) < (n2 : Int)) = true := decide_eq_true (by omega)
            have j1 : decide (j < n2) = true := decide_eq_true hlt
            clear NX hlt
          case' inr =>
            have j0 : decide ((j : Int) < (n2 : Int)) = false := decide_eq_false (by omega)
            have j1 : decide (j < n2) = false := decide_eq_false hlt
            clear NX hlt
          all_goals
            go_wp2_with fail
            refine MA.out.mono ?_
            rintro e v2 ⟨⟨A9, n9, c9, rfl, hi9⟩, hv2⟩
            have I9 := Lib.hid hi9
            have n90 : n9 ≤ 1000000 := by have a := (ints_cells hi9).1; simp at a; omega
            have V2 := Lib.hid hv2
            have SM : Hid (Calls Tryz.prog 19 #[.slice A9 n9 c9, .slice none 0 0] v2 fun e w' => e = .returned (.bool true) ∧ Below v2.heap.size v2 w') := (same5_any A9 none n9 0 c9 0 [] [] v2 I9.out (ints_nil _) n90 (by omega)).mono fun e w' ⟨a, b⟩ => ⟨a.trans (ret_b (decide_eq_true rfl)), b⟩
            clear hi9 hv2 MA
            go_wp2_with (first
              | (go_at_call 19; refine SM.out.mono ?_; rintro e v3 ⟨rfl, hv3⟩)
              | (go_at_call 11; refine (AL.out _).mono ?_; rintro e v7 ⟨rfl, hbv7⟩))
            go_ret
            exact ⟨rfl, R9.out.trans ((qu_next (qu_next V2.out hv3) hbv7).mono R9.out.size)⟩

end Go.Proofs.YtkhacpapkalkiaaGreat
