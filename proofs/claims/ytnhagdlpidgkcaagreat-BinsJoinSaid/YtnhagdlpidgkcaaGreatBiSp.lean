/- The project's package bins: what is refused; spans: where each bin begins and ends, gone over by a closure, for every loop's body that leaves what the closure reads. -/
import Derived.Test.YtnhagdlpidgkcaaGreatBiP1
import Derived.Test.YtnhagdlpidgkcaaGreatPoQ
import Derived.Test.YtnhagdlpidgkcaaGreatDgQ
namespace Go.Proofs.YtnhagdlpidgkcaaGreat
set_option linter.unusedVariables false
set_option maxRecDepth 100000
open Go.RowKit Go.Shelf
attribute [local go_sem] Oper.semAt_some
/-- what such a closure reads, and which blocks it lies in -/
structure SpR (Fr : World → Nat → Prop) (W : World) (be bl : Nat) (A : Option Addr) (n c : Nat) (E : List Int) (l : Int) : Prop where
  ce : W.cell? ⟨be, 0, none⟩ = some (.slice A n c)
  cl : W.cell? ⟨bl, 0, none⟩ = some (.int .i64 l)
  ie : IntsAt W (.slice A n c) E
  fe : Fr W be
  fl : Fr W bl
  fa : ∀ b o, A = some ⟨b, o, none⟩ → 0 < n → Fr W b
theorem Frm.lt {Fr : World → Nat → Prop} (F : Frm Fr) {W : World} {k : Nat} (h : Fr W k) : k < W.heap.size := by
  obtain ⟨o, ho, _⟩ := F.cells h
  exact (Array.getElem?_eq_some_iff.1 ho).1
theorem SpR.kp {Fr : World → Nat → Prop} (F : Frm Fr) {W W' : World} {be bl : Nat} {A : Option Addr} {n c : Nat} {E : List Int} {l : Int} (h : SpR Fr W be bl A n c E l) (k : KpF Fr W W') : SpR Fr W' be bl A n c E l := by
  obtain ⟨ce, cl, ie, fe, fl, fa⟩ := h
  have ke := k.2 be (F.lt fe) fe
  have kl := k.2 bl (F.lt fl) fl
  refine ⟨(World.cell?_of_block (a := ⟨be, 0, none⟩) ke.1).trans ce, (World.cell?_of_block (a := ⟨bl, 0, none⟩) kl.1).trans cl, ?_, ke.2, kl.2, fun b o e hn => (k.2 b (F.lt (fa b o e hn)) (fa b o e hn)).2⟩
  obtain ⟨A', c', ev, hc⟩ := ie
  injection ev with e1 e2 e3
  subst e1 e2 e3
  refine ⟨A, c, rfl, fun h0 => ?_⟩
  obtain ⟨b, o, e, hb, hk⟩ := hc h0
  have ka := k.2 b (F.lt (fa b o e h0)) (fa b o e h0)
  exact ⟨b, o, e, Nat.lt_of_lt_of_le hb k.1, fun j hj => (World.cell?_of_block (a := ⟨b, o + j, none⟩) ka.1).trans (hk j hj)⟩
theorem biKpF {Fr : World → Nat → Prop} (F : Frm Fr) {W W' : World} (hb : Below W.heap.size W W') : KpF Fr W W' := ⟨hb.size, fun k hk hf => ⟨hb.block k hk, F.below hb hf⟩⟩
theorem frE_zero (E : List Int) : frE E 0 = 0 := rfl
theorem frE_next (E : List Int) (j : Nat) : frE E (j + 1) = E.getD j 0 + 1 := by unfold frE; rw [if_neg (by omega), Nat.add_sub_cancel]
theorem toE_at {l : Int} {E : List Int} {j : Nat} (h : j < E.length) : toE l E j = E.getD j 0 := if_pos h
theorem toE_end (l : Int) (E : List Int) : toE l E E.length = 2 ^ l.toNat - 1 := if_neg (by omega)
theorem biRefused_nil (v : Value) (w : World) : Calls Tryz.prog 29 #[.pointer none, v] w fun e w' => e = .returned (.int .i64 1) ∧ Below w.heap.size w w' := by
  go_enter Tryz.func29, Tryz.ntmps29
  go_wp2_with fail
  go_ret
  exact ⟨rfl, Below.refl _ _⟩
set_option maxHeartbeats 1600000 in
theorem biRefused_any {B q p g h : Nat} {kd l k : Int} {m : Nat} {L : List Nd} {A : Option Addr} {n c : Nat} {E : List Int} (w : World) (d : DgA w B q p g h kd l k m L) (hE : IntsAt w (.slice A n c) E) (UB : Bds E) (hn : n ≤ 1000) :
    Calls Tryz.prog 29 #[.pointer (some ⟨q, 0, none⟩), .slice A n c] w fun e w' => e = .returned (.int .i64 (if egB l E = true then 0 else 8)) ∧ Below w.heap.size w w' := by
  have PN : ∀ w, (binOp .eql 31 (.pointer (some ⟨q, 0, none⟩)) (.pointer none)).run Tryz.prog w = .ok (.bool false) w := fun _ => by kernel_rfl
  have FD : ∀ w, (Instr.field 23 (.agg #[.int .i64 l, .int .i64 k, .int .i64 kd]) 0).run Tryz.prog w = .ok (.int .i64 l) w := fun _ => by kernel_rfl
  have CF := Lib.hid (dgConf_any w d.box)
  have hl : 1 ≤ l ∧ l ≤ 48 := of_decide_eq_true d.v.roll.1
  have RT := Lib.hid (fun v (hb : Below w.heap.size w v) => biRight_any l v (hE.below hb) UB hn (by omega) (by omega))
  clear d hE UB
  cases he : egB l E
  · rw [if_neg (by decide)]
    rw [he] at RT
    go_enter Tryz.func29, Tryz.ntmps29
    go_wp2_with fail
    refine CF.out.mono ?_
    rintro e w1 ⟨rfl, hb1⟩
    have B1 := Lib.hid hb1
    clear hb1
    go_wp2_with fail
    refine (RT.out _ B1.out).mono ?_
    rintro e w2 ⟨rfl, hb2⟩
    have B2 := Lib.hid (B1.out.trans (hb2.mono B1.out.size))
    clear hb2
    go_wp2_with fail
    go_ret
    exact ⟨rfl, B2.out⟩
  · rw [if_pos rfl]
    rw [he] at RT
    go_enter Tryz.func29, Tryz.ntmps29
    go_wp2_with fail
    refine CF.out.mono ?_
    rintro e w1 ⟨rfl, hb1⟩
    have B1 := Lib.hid hb1
    clear hb1
    go_wp2_with fail
    refine (RT.out _ B1.out).mono ?_
    rintro e w2 ⟨rfl, hb2⟩
    have B2 := Lib.hid (B1.out.trans (hb2.mono B1.out.size))
    clear hb2
    go_wp2_with fail
    go_ret
    exact ⟨rfl, B2.out⟩
theorem biSpans_any {A : Option Addr} {n c : Nat} (l : Int) (w : World) : Calls Tryz.prog 31 #[.int .i64 l, .slice A n c] w fun e w' =>
    e = .returned (.func (.func 63) #[] #[.pointer (some ⟨w.heap.size + 1, 0, none⟩), .pointer (some ⟨w.heap.size, 0, none⟩)]) ∧ w' = (w.alloc (.cells #[.int .i64 l] 3)).alloc (.cells #[.slice A n c] 27) := by
  have mf : ∀ (fn : Fn) (first cap : Array Value) (w : World), (Instr.makeFunc fn first cap).run Tryz.prog w = .ok (.func fn first cap) w := fun _ _ _ _ => rfl
  go_enter Tryz.func31, Tryz.ntmps31
  go_wp2_with fail
  go_ret
  exact ⟨rfl, rfl⟩
set_option maxHeartbeats 6400000 in
/-- the closure goes over the bins -/
theorem spans1_in (n lp be bl : Nat) {A : Option Addr} {m c : Nat} {E : List Int} {l : Int} (hm : m ≤ 1000) (hg : EgC l E) (Fr : World → Nat → Prop) (FR : Frm Fr) (J Jx : List Nat → World → Prop)
    (hY : ∀ pre x W, J pre W → pre.length < E.length + 1 → YieldAt Fence.wide (n - 1) Tryz.prog lp #[.int .i64 (frE E x), .int .i64 (toE l E x)] W fun e W' =>
      (e = .returned (.bool true) ∧ J (pre ++ [x]) W' ∧ KpF Fr W W') ∨ (e = .returned (.bool false) ∧ Jx (pre ++ [x]) W'))
    (hJ : ∀ pre W W', J pre W → Below W.heap.size W W' → J pre W')
    (W : World) (d : SpR Fr W be bl A m c E l) (h0 : J [] W) :
    CallsIn Fence.wide n Tryz.prog 63 #[.func (.yield lp) #[] #[], .pointer (some ⟨be, 0, none⟩), .pointer (some ⟨bl, 0, none⟩)] W fun e W' => (∃ v, e = .returned v) ∧
      ((∃ ys, ys = List.range (E.length + 1) ∧ J ys W') ∨ (∃ pre, pre <+: List.range (E.length + 1) ∧ Jx pre W')) := by
  have D := Lib.hid d
  have HL := Lib.hid (ints_cells d.ie).1
  have HG := Lib.hid hg
  have hl := hg.uni
  have HY := Lib.hid hY
  have HJ := Lib.hid hJ
  obtain ⟨ce, cl, _, _, _, _⟩ := d
  have EN := Lib.hid (fun v => ends_any l 1 v (by omega) (by omega) (by omega) (by omega))
  rw [biRoot_end hl, ← toE_end l E] at EN
  clear hg hY hJ
  refine callsIn_of_wp Tryz.func63 rfl trivial ?_ rfl
  simp only [Tryz.ntmps63, List.size_toArray, List.length_cons, List.length_nil, Nat.reduceAdd, Nat.reduceSub, Array.replicate_succ, Array.replicate_zero, List.push_toArray, List.append_toArray, List.nil_append, List.cons_append]
  gi_wp2
  gi_loopw [4, 12] (fun f i wr => ∃ j : Nat, j ≤ m ∧ f = .int .i64 (frE E j) ∧ i = .int .i64 j ∧ J (List.range j) wr ∧ SpR Fr wr be bl A m c E l) (fun _ i _ => m - (intOf i).toNat)
  case atStart => exact ⟨0, Nat.zero_le _, by rw [frE_zero], rfl, h0, D.out⟩
  case round =>
    obtain ⟨j, hj, rfl, rfl, hJs, hd⟩ := hrel
    have DD := Lib.hid hd
    have JS := Lib.hid hJs
    obtain ⟨_, cl, _, _, _, _⟩ := hd
    clear hJs ce
    have hjE : j ≤ E.length := by have := HL.out; omega
    have rb := run_bd HG.out hjE
    by_cases hlt : j < m
    · have hjl : j < E.length := by have := HL.out; omega
      obtain ⟨b, o, rfl, hbz, e0⟩ := biInts_at DD.out.ie hlt
      have ta := toE_at (l := l) hjl
      have FN := Lib.hid (frE_next E j)
      have eb := HG.out.at hjl
      have j0 : (0 : Int) ≤ (j : Int) := Int.natCast_nonneg _
      have j1 : (j : Int) < (m : Int) := by omega
      obtain ⟨fn, tmps, assign, body, hy, hR⟩ := HY.out _ j _ JS.out (by rw [List.length_range]; omega)
      rw [ta] at hy
      have hRR := Lib.hid hR
      have RS := Lib.hid (show List.range (j + 1) = List.range j ++ [j] from List.range_succ)
      have wx : wrap64 (E.getD j 0 + 1) = E.getD j 0 + 1 := IntWalk.wrap64_in _ (by omega)
      have PX : Hid (List.range (j + 1) <+: List.range (E.length + 1)) := by
        show _ <+: _
        have q := List.take_prefix (j + 1) (List.range (E.length + 1))
        rwa [List.take_range, show min (j + 1) (E.length + 1) = j + 1 by omega] at q
      clear hR rb
      generalize frE E j = f at *
      generalize E.getD j 0 = x at *
      gi_wp2
      refine ⟨fun hq => (by cases hq), hRR.out.mono ?_⟩
      rintro e W3 (⟨rfl, hJ3, hk3⟩ | ⟨rfl, hJx3⟩)
      · have D3 := Lib.hid (DD.out.kp FR hk3)
        have J3 := Lib.hid (show J (List.range (j + 1)) W3 by rw [RS.out]; exact hJ3)
        clear hk3 hJ3
        gi_wp2
        go_roundw
        case rel => exact ⟨j + 1, by omega, by rw [FN.out], by go_num, J3.out, D3.out⟩
        case measure => simp [intOf]; omega
      · gi_wp2
        refine bodyPost_ret (results_none rfl _ _ _) rfl ?_
        exact ⟨⟨_, rfl⟩, .inr ⟨_, PX.out, by rw [RS.out]; exact hJx3⟩⟩
    · obtain rfl : j = m := by omega
      have jE := HL.out
      subst jE
      obtain ⟨fn, tmps, assign, body, hy, hR⟩ := HY.out _ E.length _ JS.out (by rw [List.length_range]; omega)
      have hRR := Lib.hid hR
      have RS := Lib.hid (show List.range (E.length + 1) = List.range E.length ++ [E.length] from List.range_succ)
      clear hR rb
      generalize frE E E.length = f at *
      generalize toE l E E.length = t at *
      gi_wp2
      refine ⟨trivial, fun hq => (by cases hq), (callsIn_wide.2 (EN.out _)).mono ?_⟩
      rintro e W2 ⟨rfl, rfl⟩
      gi_wp2
      refine ⟨fun hq => (by cases hq), hRR.out.mono ?_⟩
      rintro e W3 (⟨rfl, hJ3, hk3⟩ | ⟨rfl, hJx3⟩)
      · gi_wp2
        go_end0
        exact ⟨⟨_, rfl⟩, .inl ⟨_, rfl, by rw [RS.out]; exact hJ3⟩⟩
      · gi_wp2
        go_end0
        exact ⟨⟨_, rfl⟩, .inr ⟨_, List.prefix_rfl, by rw [RS.out]; exact hJx3⟩⟩
/-- the value that spans hands out, as the law of loops wants it -/
theorem spans_stops (n be bl : Nat) {A : Option Addr} {m c : Nat} {E : List Int} {l : Int} (hm : m ≤ 1000) (hg : EgC l E) (Fr : World → Nat → Prop) (FR : Frm Fr) (w : World) (d : SpR Fr w be bl A m c E l) :
    SeqStopsK Fence.wide n Tryz.prog 63 #[.pointer (some ⟨be, 0, none⟩), .pointer (some ⟨bl, 0, none⟩)] (fun x : Nat => #[.int .i64 (frE E x), .int .i64 (toE l E x)]) (KpF Fr) (fun ys => ys = List.range (E.length + 1)) (fun pre => pre <+: List.range (E.length + 1)) (E.length + 1) w := fun lp J Jx W hW hJ hJx hY h0 =>
  spans1_in n lp be bl hm hg Fr FR J Jx hY (fun pre A C hj hb => hJ pre A C none hj (below_none hb) (fun r e => by cases e)) W (d.kp FR (biKpF FR hW)) h0
end Go.Proofs.YtnhagdlpidgkcaaGreat
