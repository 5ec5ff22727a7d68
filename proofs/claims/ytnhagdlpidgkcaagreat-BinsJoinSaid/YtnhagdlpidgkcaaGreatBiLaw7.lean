/- The walk of the statement BinsJoin of layer bins, over the project's contracts: for every input it returns true, and nothing that was there before is changed. -/
import Derived.Test.YtnhagdlpidgkcaaGreatBiLaw
import Derived.Test.YtnhagdlpidgkcaaGreatBiR
import Derived.Test.YtnhagdlpidgkcaaGreatDgR
import Derived.Deep.Cut
namespace Go.Proofs.YtnhagdlpidgkcaaGreat
set_option linter.unusedVariables false
set_option maxRecDepth 100000
open Go.RowKit
theorem less_mem {E : List Int} {k : Nat} {x : Int} (h : x ∈ lessE E k) : x ∈ E := by
  unfold lessE at h
  rcases List.mem_append.1 h with q | q
  · exact List.mem_of_mem_take q
  · exact List.mem_of_mem_drop q
theorem bi_pair {a b : World} {p1 p2 : Addr} {x y : Value} (h : a.cell? p1 = some x ∧ a.cell? p2 = some y) (hb : Below a.heap.size a b) (h1 : p1.block < a.heap.size) (h2 : p2.block < a.heap.size) : b.cell? p1 = some x ∧ b.cell? p2 = some y :=
  ⟨(hb.cell h1).trans h.1, (hb.cell h2).trans h.2⟩
theorem bi_pairg {W w1 w2 : World} {base size n : Nat} {e : TypeId} {v : Value} {xs : List Value} {p1 p2 : Addr} {x y : Value} (h : W.cell? p1 = some x ∧ W.cell? p2 = some y) (hown : w1.ownsRow base e size v n xs) (hg : W.grownBy w2 v.ownBlock)
    (h1 : p1.block < base) (h2 : p2.block < base) (hz : base ≤ W.heap.size) : w2.cell? p1 = some x ∧ w2.cell? p2 = some y :=
  ⟨(grown_cell hg (by omega) fun e => by have := (World.ownsRow.lt hown _ e.symm).1; omega).trans h.1, (grown_cell hg (by omega) fun e => by have := (World.ownsRow.lt hown _ e.symm).1; omega).trans h.2⟩
set_option maxHeartbeats 25600000 in
theorem walk_binsJoinK (KO : BiO) (KR : BiBr) (l k kd : Int) (A : Option Addr) (n c : Nat) (L : List Nd) (A1 : Option Addr) (n1 c1 : Nat) (U : List Int) (t : Int) (L0 : -9223372036854775808 ≤ l) (L1 : l ≤ 9223372036854775807) (K0 : -9223372036854775808 ≤ k) (K1 : k ≤ 9223372036854775807) (D0 : -9223372036854775808 ≤ kd) (D1 : kd ≤ 9223372036854775807) (NB : NBds L) (m1 : n ≤ 9223372036854775807)
    (UB : Bds U) (m2 : n1 ≤ 9223372036854775807) (m3 : n1 ≤ c1) (T0 : -9223372036854775808 ≤ t) (T1 : t ≤ 9223372036854775807) (w : World) (hv : NodesAt w (.slice A n c) L) (hu : IntsAt w (.slice A1 n1 c1) U) :
    Calls Tryz.prog 8 #[.agg #[.int .i64 l, .int .i64 k, .int .i64 kd, .slice A n c], .slice A1 n1 c1, .int .i64 t] w fun e w' => e = .returned (.bool true) ∧ Below w.heap.size w w' := by
  obtain ⟨i0, hi, hz0, hz1, hz2⟩ := info_parts biInt_info
  have X0 := Lib.hid (quad_new w 26 (.int .i64 l) (.int .i64 k) (.int .i64 kd) (.slice A n c))
  have HB0 : Hid (Below w.heap.size w (w.alloc (.cells #[.int .i64 l, .int .i64 k, .int .i64 kd, .slice A n c] 26))) := (Below.refl _ _).alloc (Nat.le_refl _) _
  have PO := Lib.hid KO
  have HV := Lib.hid (hv.below HB0.out)
  have HU := Lib.hid (hu.below HB0.out)
  have HUB := Lib.hid UB
  have HNB : Hid (NBds L) := NB
  have LL := Lib.hid (And.intro L0 L1)
  have M3 := Lib.hid m3
  have HUL := Lib.hid (ints_cells hu).1
  have AL := Lib.hid (fun v => biAlive_any KO KR v)
  obtain ⟨x0, x1, x2, x3, _, _, _, _, hz⟩ := quad_all X0.out
  clear KO KR K0 K1 D0 D1 m1 hv hu NB L0 L1 UB m3
  go_enter Tryz.func8, Tryz.ntmps8
  go_upto_region 1 with fail
  generalize w.alloc (.cells #[.int .i64 l, .int .i64 k, .int .i64 kd, .slice A n c] 26) = W at *
  cases hld : rnkLdB kd l k n L
  · have LD := Lib.hid (rnkLoad_no l k kd A n c L W HV.out HNB.out LL.out.1 LL.out.2 hld)
    clear hld
    go_wp2_with fail
    refine LD.out.mono ?_
    rintro e w7 ⟨rfl, hb7⟩
    have Q1 := Lib.hid (HB0.out.trans (hb7.mono HB0.out.size))
    have Q2 := Lib.hid (Q1.out.alloc Q1.out.size (.cells #[.int .i64 0, .int .i64 0, .slice none 0 0] 35))
    clear hb7 LD x0 x1 x2 x3 hz
    go_wp2_with (go_at_call 11; refine (AL.out _).mono ?_; rintro e v7 ⟨rfl, hbv7⟩)
    go_ret
    exact ⟨rfl, Q2.out.trans (hbv7.mono Q2.out.size)⟩
  · have LD := Lib.hid (rnkLoad_yes l k kd A n c L W HV.out HNB.out LL.out.1 LL.out.2 hld)
    have NL : Hid (¬ 150 < n) := (of_decide_eq_true hld).1
    clear hld
    go_wp2_with fail
    refine LD.out.mono ?_
    rintro e w7 ⟨q, p, g, h, rfl, hd7, hb7⟩
    have hba := (Below.refl w7.heap.size w7).alloc (Nat.le_refl _) (.cells #[.int .i64 k, .int .i64 l, .slice A n c] 35)
    have Z8 := Lib.hid (hb7.trans (hba.mono hb7.size))
    have D8 := Lib.hid (hd7.below hba)
    have PN : ∀ w, (binOp .eql 31 (.pointer (some ⟨q, 0, none⟩)) (.pointer none)).run Tryz.prog w = .ok (.bool false) w := fun _ => by kernel_rfl
    clear hd7 hb7 hba LD x0 x1 x2 x3 hz
    go_upto_region 2 with fail
    generalize w7.alloc (.cells #[.int .i64 k, .int .i64 l, .slice A n c] 35) = W8 at *
    have R8 := Lib.hid (HB0.out.trans (Z8.out.mono HB0.out.size))
    have I8 := Lib.hid (HU.out.below Z8.out)
    clear X0 HV HU HB0 Z8
    rcases (show 30 < n1 ∨ (¬ 30 < n1 ∧ t < 0) ∨ (¬ 30 < n1 ∧ ¬ t < 0 ∧ (n1 : Int) ≤ t) ∨ (¬ 30 < n1 ∧ ¬ t < 0 ∧ ¬ (n1 : Int) ≤ t) by omega) with h30 | ⟨h30, h0⟩ | ⟨h30, h0, h1⟩ | ⟨h30, h0, h1⟩
    · have h30' : (30 : Int) < (n1 : Int) := by omega
      go_wp2_with (go_at_call 11; refine (AL.out _).mono ?_; rintro e v7 ⟨rfl, hbv7⟩)
      go_ret
      exact ⟨rfl, R8.out.trans (hbv7.mono R8.out.size)⟩
    · have h30' : ¬ (30 : Int) < (n1 : Int) := by omega
      go_wp2_with (go_at_call 11; refine (AL.out _).mono ?_; rintro e v7 ⟨rfl, hbv7⟩)
      go_ret
      exact ⟨rfl, R8.out.trans (hbv7.mono R8.out.size)⟩
    · have h30' : ¬ (30 : Int) < (n1 : Int) := by omega
      go_wp2_with (go_at_call 11; refine (AL.out _).mono ?_; rintro e v7 ⟨rfl, hbv7⟩)
      go_ret
      exact ⟨rfl, R8.out.trans (hbv7.mono R8.out.size)⟩
    have h30' : ¬ (30 : Int) < (n1 : Int) := by omega
    obtain ⟨s, rfl⟩ : ∃ s : Nat, t = (s : Int) := ⟨t.toNat, by omega⟩
    have N30 := Lib.hid (show n1 ≤ 30 by omega)
    have hs : s < n1 := by omega
    have HS := Lib.hid hs
    cases he : egB l U
    · have P1 := Lib.hid (PO.out.bof_no W8 D8.out (by have := NL.out; omega) I8.out HUB.out (by have := N30.out; omega) he)
      clear he
      go_wp2_with fail
      refine P1.out.mono ?_
      rintro e u3 ⟨⟨A3, c3, rfl⟩, hu3⟩
      have G3 := Lib.hid (R8.out.trans (hu3.mono R8.out.size))
      clear hu3
      go_wp2_with (go_at_call 11; refine (AL.out _).mono ?_; rintro e v7 ⟨rfl, hbv7⟩)
      go_ret
      exact ⟨rfl, G3.out.trans (hbv7.mono G3.out.size)⟩
    · have EC := Lib.hid (eg_yes he)
      have P1 := Lib.hid (PO.out.bof_own W8 D8.out (by have := NL.out; omega) I8.out HUB.out (by have := N30.out; omega) he)
      clear he h0 h1
      go_wp2_with fail
      refine P1.out.mono ?_
      rintro e u3 ⟨⟨A3, n3, c3, rfl, hi3, hc3⟩, hu3⟩
      have N3 : Hid (n3 = n1 + 1) := by show _ = _; have := (ints_cells hi3).1; rw [bins_len] at this; have := HUL.out; omega
      have I3 := Lib.hid hi3
      have C3 := Lib.hid hc3
      have B3 := Lib.hid hu3
      have E3 := Lib.hid (I8.out.below hu3)
      obtain ⟨b, o, rfl, hbz, _⟩ := bi_at E3.out hs
      have CE : Hid (Cells u3 (some ⟨b, o, none⟩) n1 (fun k => .int .i64 (U.getD k 0))) := by show Cells _ _ _ _; have q := (ints_cells E3.out).2; rwa [← HUL.out] at q
      have stk := fun w => sl_to Tryz.underlying27 hi hz1 (some ⟨b, o, none⟩) n1 c1 s (by have := M3.out; omega) w
      obtain ⟨s1, hs1⟩ : ∃ s1 : Nat, s1 = s + 1 := ⟨_, rfl⟩
      have sfk : ∀ w, (Instr.slice 27 (.slice (some ⟨b, o, none⟩) n1 c1) (some (.int .i64 ((s : Int) + 1))) none none).run Tryz.prog w = .ok (.slice (some (advA ⟨b, o, none⟩ c1 s1 1)) (n1 - s1) (c1 - s1)) w := fun w => by
        have q := sl_from Tryz.underlying27 hi hz1 ⟨b, o, none⟩ n1 c1 s1 (by omega) w
        rwa [show ((s1 : Nat) : Int) = (s : Int) + 1 by omega] at q
      have hw1 : wrap64 ((s : Int) + 1) = (s : Int) + 1 := IntWalk.wrap64_in _ (by have := N30.out; omega)
      have HS1 := Lib.hid hs1
      have HTL : Hid (s = (U.take s).length) := by show s = _; rw [List.length_take]; have := HUL.out; omega
      have HDL : Hid (n1 - s1 = (U.drop s1).length) := by show n1 - s1 = _; rw [List.length_drop]; have := HUL.out; omega
      clear hu3 hi3 hc3 P1 hs1 I8
      go_wp2_with (at_builtin; refine push_all _ rfl _ _ rfl _ [] (U.take s) rfl (ownI_nil _ u3 u3.heap.size) rfl HTL.out (fun h => by cases h) (cells_take CE.out (by omega)) (by simp; omega) (Nat.le_refl _) ?_)
      intro v1 w1 r1 g1 a1
      obtain ⟨A4, m4, c4, rfl⟩ := own_slice r1
      have HB1 := Lib.hid (below_grown (B := u3.heap.size) g1 (fun g h => by simp [Value.ownBlock] at h) (Nat.le_refl _))
      have R1 : Hid (OwnI 3 w1 u3.heap.size (.slice A4 m4 c4) (U.take s)) := r1
      clear r1 g1 a1
      go_wp2_with (at_builtin; refine push_all _ rfl _ _ rfl _ (U.take s) (U.drop s1) rfl R1.out rfl HDL.out (fun h => by cases h) ((cells_drop CE.out (by have := HS1.out; omega) M3.out).below HB1.out) (by rw [← HTL.out]; have := N30.out; omega) HB1.out.size ?_)
      intro v2 w2 r2 g2 a2
      obtain ⟨A5, m5, c5, rfl⟩ := own_slice r2
      have HB2 := Lib.hid (HB1.out.trans (below_grown (B := u3.heap.size) g2 (fun g h => (World.ownsRow.lt R1.out g h).1) HB1.out.size))
      have R2 : Hid (OwnI 3 w2 u3.heap.size (.slice A5 m5 c5) (lessE U s)) := by
        show OwnI _ _ _ _ _
        unfold lessE
        rw [← HS1.out]; exact r2
      have EL := Lib.hid (less_eg EC.out (show s < U.length by have := HUL.out; omega))
      have M5 : Hid (m5 ≤ 30) := by
        show _ ≤ _
        have a := (ints_cells (ownI_ints R2.out)).1
        rw [less_len (show s < U.length by have := HUL.out; omega)] at a
        have := HUL.out; have := N30.out; omega
      have G2 := Lib.hid (B3.out.trans (HB2.out.mono B3.out.size))
      have P2 := Lib.hid (PO.out.bof_yes w2 (D8.out.below G2.out) (by have := NL.out; omega) (ownI_ints R2.out) (fun x hx => HUB.out x (less_mem hx)) (by have := M5.out; omega) (egB_of EL.out))
      rw [bins_join (show s < U.length by have := HUL.out; omega)] at P2
      have I32 := Lib.hid (I3.out.below HB2.out)
      clear r2 g2 a2 R1 HB1 CE stk sfk HTL HDL E3 I3
      go_wp2_with fail
      refine P2.out.mono ?_
      rintro e u5 ⟨⟨A6, n6, c6, rfl, hi6⟩, hu5⟩
      have G5 := Lib.hid (R8.out.trans ((bi_next G2.out hu5).mono R8.out.size))
      have I6 := Lib.hid hi6
      have I35 := Lib.hid (I32.out.below hu5)
      have N6 : Hid (n6 ≤ 100) := by
        show _ ≤ _
        have a := (ints_cells hi6).1
        rw [← bins_join (show s < U.length by have := HUL.out; omega), bins_len, less_len (show s < U.length by have := HUL.out; omega)] at a
        have := HUL.out; have := N30.out; omega
      clear hu5 hi6 P2 I32
      obtain ⟨b3, o3, rfl, hbz3, q0⟩ := bi_at I35.out (show s < n3 by have := N3.out; omega)
      obtain ⟨b3', o3', hbo, _, q1⟩ := bi_at I35.out (show s1 < n3 by have := N3.out; have := HS1.out; omega)
      injection hbo with hbo
      injection hbo with hb2 ho2
      subst hb2 ho2
      have bt := bins_len l L U
      have CL : Hid (Cells u5 (some ⟨b3, o3, none⟩) n3 (fun k => .int .i64 ((binsN l L U).getD k 0))) := by show Cells _ _ _ _; have q := (ints_cells I35.out).2; rwa [← (ints_cells I35.out).1] at q
      have JW : Hid (joinW (binsN l L U) s = (binsN l L U).take s ++ [(binsN l L U).getD s 0 + (binsN l L U).getD s1 0] ++ (binsN l L U).drop (s + 2)) := by show _ = _; unfold joinW; rw [HS1.out]
      have b1 := bin_bd D8.out.v.roll EC.out s
      have b2 := bin_bd D8.out.v.roll EC.out s1
      have bx : 0 ≤ (binsN l L U).getD s 0 ∧ (binsN l L U).getD s 0 ≤ 72057594037927935 := by rw [bins_at l L U (by have := HUL.out; omega)]; exact b1
      have by' : 0 ≤ (binsN l L U).getD s1 0 ∧ (binsN l L U).getD s1 0 ≤ 72057594037927935 := by rw [bins_at l L U (by have := HUL.out; have := HS1.out; omega)]; exact b2
      have HT2 : Hid (s = ((binsN l L U).take s).length) := by show s = _; rw [List.length_take]; have := HUL.out; omega
      obtain ⟨s2, hs2⟩ : ∃ s2 : Nat, s2 = s + 2 := ⟨_, rfl⟩
      rw [← hs2] at JW
      have HS2 := Lib.hid hs2
      have HD2 : Hid (n3 - s2 = ((binsN l L U).drop s2).length) := by show n3 - s2 = _; rw [List.length_drop]; have := (ints_cells I35.out).1; omega
      have stk := fun w => sl_to Tryz.underlying27 hi hz1 (some ⟨b3, o3, none⟩) n3 c3 s (by have := C3.out; have := N3.out; omega) w
      have sfk : ∀ w, (Instr.slice 27 (.slice (some ⟨b3, o3, none⟩) n3 c3) (some (.int .i64 ((s : Int) + 2))) none none).run Tryz.prog w = .ok (.slice (some (advA ⟨b3, o3, none⟩ c3 s2 1)) (n3 - s2) (c3 - s2)) w := fun w => by
        have q := sl_from Tryz.underlying27 hi hz1 ⟨b3, o3, none⟩ n3 c3 s2 (by have := N3.out; omega) w
        rwa [show ((s2 : Nat) : Int) = (s : Int) + 2 by omega] at q
      have hw2 : wrap64 ((s : Int) + 2) = (s : Int) + 2 := IntWalk.wrap64_in _ (by have := N30.out; omega)
      clear hs2 bt b1 b2 I35
      generalize hTB : binsN l L U = TB at *
      generalize TB.getD s 0 = x at *
      generalize TB.getD s1 0 = y at *
      have M6 : Hid (n3 ≤ 31) := by show _ ≤ _; have := N3.out; have := N30.out; omega
      go_wp2_with (at_builtin; refine push_all _ rfl _ _ rfl _ [] (TB.take s) rfl (ownI_nil _ u5 u5.heap.size) rfl HT2.out (fun h => by cases h) (cells_take CL.out (by have := N3.out; omega)) (by simp; omega) (Nat.le_refl _) ?_)
      intro v1 w5 r1 g1 a1
      obtain ⟨A7, m7, c7, rfl⟩ := own_slice r1
      have HB3 := Lib.hid (below_grown (B := u5.heap.size) g1 (fun g h => by simp [Value.ownBlock] at h) (Nat.le_refl _))
      have R3 : Hid (OwnI 3 w5 u5.heap.size (.slice A7 m7 c7) (TB.take s)) := r1
      have q0' := (HB3.out.cell (p := ⟨b3, o3 + s, none⟩) hbz3).trans q0
      have q1' := (HB3.out.cell (p := ⟨b3, o3 + s1, none⟩) hbz3).trans q1
      have hbz5 := Nat.lt_of_lt_of_le hbz3 HB3.out.size
      clear r1 g1 a1 q0 q1
      have q1s : w5.cell? ⟨b3, o3 + (s + 1), none⟩ = some (.int .i64 y) := by have q := q1'; rwa [HS1.out] at q
      have k0 : (0 : Int) ≤ (s : Int) := Int.natCast_nonneg _
      have k1 : (s : Int) < (n3 : Int) := by have := N3.out; omega
      have k2 : (s : Int) + 1 < (n3 : Int) := by have := N3.out; omega
      have k3 : (0 : Int) ≤ (s : Int) + 1 := by omega
      have wi1 : IntKind.i64.wrap ((s : Int) + 1) = (s : Int) + 1 := by have := N30.out; rw [IntKind.wrap_i64]; omega
      have wi2 : IntKind.i64.wrap (x + y) = x + y := by rw [IntKind.wrap_i64]; omega
      go_upto_region 13 with fail
      have TL5 : (TB.take s).length ≤ 30 := by rw [← HT2.out]; have := N30.out; omega
      have TS5 := HB3.out.size
      generalize hP : TB.take s = P at *
      go_region_held3 (fun w' => w'.cell? ⟨b3, o3 + s, none⟩ = some (.int .i64 x) ∧ w'.cell? ⟨b3, o3 + (s + 1), none⟩ = some (.int .i64 y))
        (first | assumption | (exact ⟨q0', q1s⟩) | (exact bi_pair ⟨q0', q1s⟩ ((below_one w5 _).trans ((below_drew _).mono (by simp))) hbz5 hbz5) | (exact bi_pairg (bi_pair ⟨q0', q1s⟩ ((below_one w5 _).trans ((below_drew _).mono (by simp))) hbz5 hbz5) R3.out g2 hbz3 hbz3 (by simp; omega)))
        (first
          | (refine step_append_lies _ (by rfl) _ _ _ (by rfl) u5.heap.size 3 i0 _ 1 8 Tryz.underlying27 hi hz0 hz1 hz2 rfl (by omega) (.slice A7 m7 c7) P.length (ints P) (by rfl) ((World.ownsRow.alloc R3.out _).drew) ⟨w5.heap.size, 0, none⟩ 1 1 [.int .i64 (x + y)] (by rfl) (by rfl) (one_new _ _ _ _ rfl) (one_int _) (by omega) (by unfold maxLen; omega) (by omega) (by simp; omega) (w5.heap.size + 1) (by simp) ?_; intro gg cap w6 hown2 g2 hat2 hlt2))
      have HB4 := Lib.hid (((HB3.out.alloc HB3.out.size (.cells #[.int .i64 (x + y)] 3)).trans ((below_drew _).mono (by simp; omega))).trans (below_grown (B := u5.heap.size) g2 (fun g h => (World.ownsRow.lt R3.out g h).1) (by simp; omega)))
      have R4 : Hid (OwnI 3 w6 u5.heap.size (.slice (some ⟨gg, 0, none⟩) (P.length + 1) cap) (P ++ [x + y])) := ownI_snoc rfl hown2
      subst hP
      clear hown2 g2 hat2 R3 q0' q1' q1s hbz5
      go_wp2_with (at_builtin; refine push_all _ rfl _ _ rfl _ (TB.take s ++ [x + y]) (TB.drop s2) rfl R4.out rfl HD2.out (fun h => by cases h) ((cells_drop CL.out (by have := HS2.out; have := N3.out; omega) C3.out).below HB4.out) (by rw [List.length_append, ← HT2.out]; simp; have := N30.out; have := M6.out; omega) HB4.out.size ?_)
      intro v3 w7' r3 g3 a3
      obtain ⟨A9, m9, c9, rfl⟩ := own_slice r3
      have HB5 := Lib.hid (HB4.out.trans (below_grown (B := u5.heap.size) g3 (fun g h => (World.ownsRow.lt R4.out g h).1) HB4.out.size))
      have JW' : joinW TB s = TB.take s ++ (x + y) :: TB.drop s2 := by rw [JW.out, List.append_assoc]; rfl
      rw [← JW'] at r3
      have R5 := Lib.hid (ownI_ints r3)
      have I67 := Lib.hid (I6.out.below HB5.out)
      have M9 : Hid (m9 ≤ 100) := by
        show _ ≤ _
        have a := (ints_cells R5.out).1
        have b := (ints_cells I6.out).1
        have := N6.out
        omega
      have SM := Lib.hid (same5_any _ A9 n6 m9 c6 c9 (joinW TB s) (joinW TB s) w7' I67.out R5.out (by have := N6.out; omega) (by have := M9.out; omega))
      rw [show decide (joinW TB s = joinW TB s) = true from decide_eq_true rfl] at SM
      have G7 := Lib.hid (G5.out.trans (HB5.out.mono G5.out.size))
      clear r3 g3 a3 R4 R5 I6 I67
      go_wp2_with fail
      refine SM.out.mono ?_
      rintro e u9 ⟨rfl, hu9⟩
      have G9 := Lib.hid (G7.out.trans (hu9.mono G7.out.size))
      clear hu9
      go_wp2_with (go_at_call 11; refine (AL.out _).mono ?_; rintro e v7 ⟨rfl, hbv7⟩)
      go_ret
      exact ⟨rfl, G9.out.trans (hbv7.mono G9.out.size)⟩
end Go.Proofs.YtnhagdlpidgkcaaGreat
