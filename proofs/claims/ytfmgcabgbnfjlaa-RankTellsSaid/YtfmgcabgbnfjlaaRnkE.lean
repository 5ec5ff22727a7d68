/- The project's package rank: what each tells a closure; Low, High, Slack. -/
import Derived.Test.YtfmgcabgbnfjlaaRnkK
import Derived.Test.YtfmgcabgbnfjlaaRnkSum
import Derived.Test.YtfmgcabgbnfjlaaRkMul
import Derived.Test.YtfmgcabgbnfjlaaBl
import Derived.Deep.RegionWith
namespace Go.Proofs.Ytfmgcabgbnfjlaa
set_option linter.unusedVariables false
set_option maxRecDepth 100000
open Go.RowKit

/-- the nodes' row is kept -/
def EachKp (T : TypeId) (B : Nat) (w w' : World) : Prop := w.heap.size ≤ w'.heap.size ∧ ∀ v M, OwnNd T w B v M → OwnNd T w' B v M
theorem EachKp.kp {T : TypeId} {B : Nat} {F : Nat → Prop} {w w' : World} (h : Kp F w w') (f : ∀ i, F i → i < B) : EachKp T B w w' :=
  ⟨h.size, fun v M o => own_kp o h fun g e q => by have := (World.ownsRow.lt o g e).1; have := f g q; omega⟩
/-- a box with a sum, and one with a number -/
structure RnkBx (T : TypeId) (W w : World) (b c : Nat) (x s : Int) : Prop where
  cx : w.cell? ⟨b, 0, none⟩ = some (.int .i64 x)
  bs : w.ownsRow 0 T 1 (.slice (some ⟨c, 0, none⟩) 1 1) 1 [.int .i64 s]
  ne : b ≠ c
  lb : b < w.heap.size
  hb : Below W.heap.size W w
theorem RnkBx.sum {T : TypeId} {W w : World} {b c : Nat} {x s : Int} (h : RnkBx T W w b c x s) : w.cell? ⟨c, 0, none⟩ = some (.int .i64 s) ∧ w.frozen? ⟨c, 0, none⟩ = false ∧ c < w.heap.size :=
  ⟨h.bs.cellAt 0 (by omega), h.bs.frozenAt 0, (h.bs.lt c rfl).2⟩
theorem RnkBx.below {T : TypeId} {W w w' : World} {b c : Nat} {x s : Int} (h : RnkBx T W w b c x s) (q : Below w.heap.size w w') : RnkBx T W w' b c x s :=
  ⟨(q.cell h.lb).trans h.cx, own_below h.bs q, h.ne, Nat.lt_of_lt_of_le h.lb q.size, h.hb.trans (q.mono h.hb.size)⟩
theorem RnkBx.set {T : TypeId} {W w : World} {b c : Nat} {x s : Int} (h : RnkBx T W w b c x s) (hc : W.heap.size ≤ c) (t : Int) : RnkBx T W (w.setCell ⟨c, 0, none⟩ (.int .i64 t)) b c x t :=
  ⟨((Kp.setCell w ⟨c, 0, none⟩ (.int .i64 t)).cell h.lb (fun e => h.ne e)).trans h.cx, (h.bs.stored 0 (.int .i64 t)).1, h.ne, by have := h.lb; simpa using this, h.hb.setCell (p := ⟨c, 0, none⟩) hc _⟩
theorem RnkBx.new (T : TypeId) (W : World) (x s : Int) : RnkBx T W ((W.alloc (.cells #[.int .i64 x] T)).alloc (.cells #[.int .i64 s] T)) W.heap.size (W.heap.size + 1) x s := by
  have e : (W.alloc (.cells #[.int .i64 x] T)).heap.size = W.heap.size + 1 := by simp
  have b := box1 (W.alloc (.cells #[.int .i64 x] T)) T (.int .i64 s)
  rw [e] at b
  refine ⟨?_, own_low b (Nat.zero_le _), by omega, by simp; omega, ((Below.refl _ _).alloc (Nat.le_refl _) _).alloc (by simp) _⟩
  exact (World.cell?_alloc_lt _ _ _ (by simp)).trans (by simp)
theorem rnk_sum {P : Int → Bool} {l : Int} {L : List Nd} (h : RollC l L) {j : Nat} (hj : j < L.length) : 0 ≤ wtF P (L.take j) + (L.getD j nz).2 ∧ wtF P (L.take j) + (L.getD j nz).2 ≤ 144115188075855870 := by
  have a := wtF_parts (P := P) h j
  have m := nd_mem hj
  have p := good_nonneg (roll_good h)
  have c := sumC_mem p m
  have t : sumC L ≤ 72057594037927935 := h.2.2.2.2
  have z := p _ m
  omega
/-- a closure that each tells of the nodes, one after another -/
structure RnkTell (W : World) (F : Nat) (caps : Array Value) (l : Int) (L : List Nd) (I : Nat → World → Prop) : Prop where
  eg : ∀ args w, (callFunc F args).run Try.prog w = .ok (.enter F args) w
  keep : ∀ j w w', I j w → Below w.heap.size w w' → I j w'
  call : ∀ j, j < L.length → ∀ w, I j w → Calls Try.prog F (#[.int .i64 (loN l (L.getD j nz).1), .int .i64 (hiN l (L.getD j nz).1), .int .i64 (L.getD j nz).2] ++ caps) w fun e w' => e = .returned (.tuple #[]) ∧ I (j + 1) w' ∧ EachKp 54 W.heap.size w w'
set_option maxHeartbeats 3200000 in
theorem rnkEach_any {B q p g h F : Nat} {caps : Array Value} {kd l k : Int} {n : Nat} {L : List Nd} {I : Nat → World → Prop} (w : World) (d : DgA w B q p g h kd l k n L) (hn : n ≤ 1000) (M : RnkTell w F caps l L I) (h0 : I 0 w) :
    Calls Try.prog 14 #[.pointer (some ⟨q, 0, none⟩), .func (.func F) #[] caps] w fun e w' => e = .returned (.tuple #[]) ∧ I L.length w' := by
  have u := d.po.uni
  have CF := Lib.hid (dgConf_any w d.box)
  have ND := Lib.hid (fun v (hb : Below w.heap.size w v) => dgNodes_any v (d.below hb).box (d.below hb).po hn)
  have LN := Lib.hid (show L.length ≤ 1000 by have := d.po.len; omega)
  have NB := Lib.hid (nbds_roll d.v.roll)
  have FD : ∀ w, (Instr.field 23 (.agg #[.int .i64 l, .int .i64 k, .int .i64 kd]) 0).run Try.prog w = .ok (.int .i64 l) w := fun _ => by kernel_rfl
  have eg := M.eg
  have KE := Lib.hid M.keep
  have CL := Lib.hid M.call
  have H0 := Lib.hid h0
  clear d M h0
  go_enter Try.func14, Try.ntmps14
  go_wp2_with fail
  refine CF.out.mono ?_
  rintro e w1 ⟨rfl, hb1⟩
  have B1 := Lib.hid hb1
  have S1 := Lib.hid hb1.size
  clear hb1 CF
  go_wp2_with fail
  refine (ND.out _ B1.out).mono ?_
  rintro e w2 ⟨A1, n1, c1, rfl, ho1, hb2⟩
  have HL := Lib.hid (nodes_cells (ownNd_nodes ho1)).1
  have n1b : n1 ≤ 1000 := by have := HL.out; have := LN.out; omega
  have O1 := Lib.hid (own_low ho1 S1.out)
  have I0 := Lib.hid (KE.out _ _ _ H0.out (B1.out.trans (hb2.mono S1.out)))
  clear ho1 hb2 ND
  go_wp2_with fail
  go_loopw [16] (fun i wr => ∃ j : Nat, j ≤ n1 ∧ i = .int .i64 j ∧ OwnNd 54 wr w.heap.size (.slice A1 n1 c1) L ∧ I j wr) (fun i _ => n1 - (intOf i).toNat)
  case atStart => exact ⟨0, by omega, rfl, O1.out, I0.out⟩
  case round =>
    obtain ⟨j, hj, rfl, ho, hI⟩ := hrel
    have OO := Lib.hid ho
    have II := Lib.hid hI
    clear ho hI
    by_cases hlt : j < n1
    · have hjl : j < L.length := by have := HL.out; omega
      rcases ownNd_form OO.out with ⟨_, z⟩ | ⟨g2, cap, hv, _, hgw, _, _, hin⟩
      · rw [z] at hjl; simp at hjl
      · injection hv with hv1 hv2 hv3
        subst hv1
        obtain ⟨e0, e1⟩ := hin.2 j hjl
        simp only [Nat.zero_add] at e0 e1
        have nb := nbds_at NB.out hjl
        have CM := Lib.hid (CL.out j hjl (wr.alloc (.cells #[.int .i64 (L.getD j nz).1, .int .i64 (L.getD j nz).2] 54)) (KE.out j _ _ II.out (below_one _ _)))
        have OA := Lib.hid (World.ownsRow.alloc OO.out (.cells #[.int .i64 (L.getD j nz).1, .int .i64 (L.getD j nz).2] 54))
        generalize (L.getD j nz).1 = id at *
        generalize (L.getD j nz).2 = ct at *
        have k0' : (0 : Int) ≤ (j : Int) := Int.natCast_nonneg _
        have k1' : (j : Int) < (n1 : Int) := by omega
        have EN := Lib.hid (fun w => ends_any l id w (by omega) (by omega) nb.1.1 nb.1.2)
        clear hv2 hv3 hin
        go_wp2_with (first | (go_at_call 27; refine (EN.out _).mono ?_; rintro e w3 ⟨rfl, rfl⟩) | (go_at_fn F; refine CM.out.mono ?_; rintro e w4 ⟨rfl, hI4, hk4⟩))
        go_roundw
        case rel => exact ⟨j + 1, by omega, by go_num, hk4.2 _ _ OA.out, hI4⟩
        case measure => simp [intOf]; omega
    · obtain rfl : j = n1 := by omega
      have hd : j = L.length := HL.out
      have II2 : Hid (I L.length wr) := by show I _ _; rw [← hd]; exact II.out
      clear hd
      go_wp2_with fail
      go_end0
      exact ⟨rfl, II2.out⟩
theorem rnkEach_nil (f : Value) (w : World) : Calls Try.prog 14 #[.pointer none, f] w fun e w' => e = .returned (.tuple #[]) ∧ Below w.heap.size w w' := by
  have FD : ∀ w, (Instr.field 23 (.agg #[.int .i64 0, .int .i64 0, .int .i64 0]) 0).run Try.prog w = .ok (.int .i64 0) w := fun _ => by kernel_rfl
  go_enter Try.func14, Try.ntmps14
  go_wp2_with fail
  refine (dgConf_nil w).mono ?_
  rintro e w1 ⟨rfl, hb1⟩
  have B1 := Lib.hid hb1
  clear hb1
  go_wp2_with fail
  refine (dgNodes_nil _).mono ?_
  rintro e w2 ⟨rfl, hb2⟩
  have B2 := Lib.hid (B1.out.trans (hb2.mono B1.out.size))
  clear hb2
  go_wp2_with fail
  refine wp_loop_rounds 1 ?_
  rw [rounds_succ]
  go_wp2_with fail
  go_end0
  exact ⟨rfl, B2.out⟩
theorem rnkLow1_any (f t c x s : Int) (Nx Ns : Nat) (w : World) (cx : w.cell? ⟨Nx, 0, none⟩ = some (.int .i64 x)) (cs : w.cell? ⟨Ns, 0, none⟩ = some (.int .i64 s)) (fs : w.frozen? ⟨Ns, 0, none⟩ = false) (hz : Ns < w.heap.size)
    (S0 : -9223372036854775808 ≤ s + c) (S1 : s + c ≤ 9223372036854775807) :
    Calls Try.prog 15 #[.int .i64 f, .int .i64 t, .int .i64 c, .pointer (some ⟨Nx, 0, none⟩), .pointer (some ⟨Ns, 0, none⟩)] w fun e w' => e = .returned (.tuple #[]) ∧ w' = if t ≤ x then w.setCell ⟨Ns, 0, none⟩ (.int .i64 (s + c)) else w := by
  have hw : IntKind.i64.wrap (s + c) = s + c := wrap_lit rfl S0 S1
  by_cases h : t ≤ x
  · rw [if_pos h]
    go_enter Try.func15, Try.ntmps15
    go_wp2_with fail
    go_end0
    exact ⟨rfl, rfl⟩
  · rw [if_neg h]
    go_enter Try.func15, Try.ntmps15
    go_wp2_with fail
    go_end0
    exact ⟨rfl, rfl⟩
theorem rnkLow_any {B q p g h : Nat} {kd l k : Int} {n : Nat} {L : List Nd} (x : Int) (w : World) (d : DgA w B q p g h kd l k n L) (hn : n ≤ 1000) (X0 : -9223372036854775808 ≤ x) (X1 : x ≤ 9223372036854775807) :
    Calls Try.prog 5 #[.pointer (some ⟨q, 0, none⟩), .int .i64 x] w fun e w' => e = .returned (.int .i64 (lowR l L x)) ∧ Below w.heap.size w w' := by
  have N0 := Lib.hid (RnkBx.new 3 w x 0)
  have hz : ((w.alloc (.cells #[.int .i64 x] 3)).alloc (.cells #[.int .i64 0] 3)).heap.size = w.heap.size + 2 := by simp
  have EA := Lib.hid (rnkEach_any (F := 15) (caps := #[.pointer (some ⟨w.heap.size, 0, none⟩), .pointer (some ⟨w.heap.size + 1, 0, none⟩)]) (I := fun j v => RnkBx 3 w v w.heap.size (w.heap.size + 1) x (wtF (lowP l x) (L.take j))) _ (d.below N0.out.hb) hn
    ⟨enters_of Try.func15 (by kernel_rfl) rfl, fun _ _ _ h b => h.below b, fun j hj v b => by
      obtain ⟨cs, fs, hs⟩ := b.sum
      have st := wtF_take (lowP l x) (L := L) (k := j) hj
      have b1 := wtF_parts (P := lowP l x) d.v.roll j
      have b2 := wtF_parts (P := lowP l x) d.v.roll (j + 1)
      have b3 := rnk_sum (P := lowP l x) d.v.roll hj
      refine (rnkLow1_any _ (hiN l (L.getD j nz).1) (L.getD j nz).2 x (wtF (lowP l x) (L.take j)) w.heap.size (w.heap.size + 1) v b.cx cs fs hs (by omega) (by omega)).mono ?_
      · rintro e v' ⟨rfl, rfl⟩
        refine ⟨rfl, ?_, ?_⟩
        · show RnkBx _ _ _ _ _ _ _
          rw [st]
          unfold lowP
          by_cases q : hiN l (L.getD j nz).1 ≤ x
          · rw [if_pos q, if_pos (decide_eq_true q)]; exact b.set (by omega) _
          · rw [if_neg q, if_neg (fun z => q (of_decide_eq_true z)), Int.add_zero]; exact b
        · split
          · exact EachKp.kp (Kp.setCell v ⟨w.heap.size + 1, 0, none⟩ _) fun i e => by rw [e, hz]; show w.heap.size + 1 < _; omega
          · exact ⟨Nat.le_refl _, fun _ _ o => o⟩⟩ N0.out)
  rw [low_is]
  rw [List.take_length] at EA
  clear d
  go_enter Try.func5, Try.ntmps5
  go_wp2_with (go_at_call 14; refine EA.out.mono ?_; rintro e w3 ⟨rfl, hB⟩; obtain ⟨cs, _, _⟩ := hB.sum)
  have HB := Lib.hid hB.hb
  clear hB
  go_ret
  exact ⟨rfl, HB.out⟩
theorem rnkLow_nil (x : Int) (w : World) : Calls Try.prog 5 #[.pointer none, .int .i64 x] w fun e w' => e = .returned (.int .i64 0) ∧ Below w.heap.size w w' := by
  have N0 := Lib.hid (RnkBx.new 3 w x 0)
  go_enter Try.func5, Try.ntmps5
  go_wp2_with (go_at_call 14; refine (rnkEach_nil _ _).mono ?_; rintro e w3 ⟨rfl, hB⟩; obtain ⟨cs, _, _⟩ := (N0.out.below hB).sum)
  have B3 := Lib.hid (N0.out.below hB)
  clear hB
  go_ret
  exact ⟨rfl, B3.out.hb⟩
theorem rnkHigh1_any (f t c x s : Int) (Nx Ns : Nat) (w : World) (cx : w.cell? ⟨Nx, 0, none⟩ = some (.int .i64 x)) (cs : w.cell? ⟨Ns, 0, none⟩ = some (.int .i64 s)) (fs : w.frozen? ⟨Ns, 0, none⟩ = false) (hz : Ns < w.heap.size)
    (S0 : -9223372036854775808 ≤ s + c) (S1 : s + c ≤ 9223372036854775807) :
    Calls Try.prog 16 #[.int .i64 f, .int .i64 t, .int .i64 c, .pointer (some ⟨Nx, 0, none⟩), .pointer (some ⟨Ns, 0, none⟩)] w fun e w' => e = .returned (.tuple #[]) ∧ w' = if f ≤ x then w.setCell ⟨Ns, 0, none⟩ (.int .i64 (s + c)) else w := by
  have hw : IntKind.i64.wrap (s + c) = s + c := wrap_lit rfl S0 S1
  by_cases h : f ≤ x
  · rw [if_pos h]
    go_enter Try.func16, Try.ntmps16
    go_wp2_with fail
    go_end0
    exact ⟨rfl, rfl⟩
  · rw [if_neg h]
    go_enter Try.func16, Try.ntmps16
    go_wp2_with fail
    go_end0
    exact ⟨rfl, rfl⟩
theorem rnkHigh_any {B q p g h : Nat} {kd l k : Int} {n : Nat} {L : List Nd} (x : Int) (w : World) (d : DgA w B q p g h kd l k n L) (hn : n ≤ 1000) (X0 : -9223372036854775808 ≤ x) (X1 : x ≤ 9223372036854775807) :
    Calls Try.prog 6 #[.pointer (some ⟨q, 0, none⟩), .int .i64 x] w fun e w' => e = .returned (.int .i64 (highR l L x)) ∧ Below w.heap.size w w' := by
  have N0 := Lib.hid (RnkBx.new 3 w x 0)
  have hz : ((w.alloc (.cells #[.int .i64 x] 3)).alloc (.cells #[.int .i64 0] 3)).heap.size = w.heap.size + 2 := by simp
  have EA := Lib.hid (rnkEach_any (F := 16) (caps := #[.pointer (some ⟨w.heap.size, 0, none⟩), .pointer (some ⟨w.heap.size + 1, 0, none⟩)]) (I := fun j v => RnkBx 3 w v w.heap.size (w.heap.size + 1) x (wtF (highP l x) (L.take j))) _ (d.below N0.out.hb) hn
    ⟨enters_of Try.func16 (by kernel_rfl) rfl, fun _ _ _ h b => h.below b, fun j hj v b => by
      obtain ⟨cs, fs, hs⟩ := b.sum
      have st := wtF_take (highP l x) (L := L) (k := j) hj
      have b1 := wtF_parts (P := highP l x) d.v.roll j
      have b2 := wtF_parts (P := highP l x) d.v.roll (j + 1)
      have b3 := rnk_sum (P := highP l x) d.v.roll hj
      refine (rnkHigh1_any (loN l (L.getD j nz).1) _ (L.getD j nz).2 x (wtF (highP l x) (L.take j)) w.heap.size (w.heap.size + 1) v b.cx cs fs hs (by omega) (by omega)).mono ?_
      · rintro e v' ⟨rfl, rfl⟩
        refine ⟨rfl, ?_, ?_⟩
        · show RnkBx _ _ _ _ _ _ _
          rw [st]
          unfold highP
          by_cases q : loN l (L.getD j nz).1 ≤ x
          · rw [if_pos q, if_pos (decide_eq_true q)]; exact b.set (by omega) _
          · rw [if_neg q, if_neg (fun z => q (of_decide_eq_true z)), Int.add_zero]; exact b
        · split
          · exact EachKp.kp (Kp.setCell v ⟨w.heap.size + 1, 0, none⟩ _) fun i e => by rw [e, hz]; show w.heap.size + 1 < _; omega
          · exact ⟨Nat.le_refl _, fun _ _ o => o⟩⟩ N0.out)
  rw [high_is]
  rw [List.take_length] at EA
  clear d
  go_enter Try.func6, Try.ntmps6
  go_wp2_with (go_at_call 14; refine EA.out.mono ?_; rintro e w3 ⟨rfl, hB⟩; obtain ⟨cs, _, _⟩ := hB.sum)
  have HB := Lib.hid hB.hb
  clear hB
  go_ret
  exact ⟨rfl, HB.out⟩
theorem rnkHigh_nil (x : Int) (w : World) : Calls Try.prog 6 #[.pointer none, .int .i64 x] w fun e w' => e = .returned (.int .i64 0) ∧ Below w.heap.size w w' := by
  have N0 := Lib.hid (RnkBx.new 3 w x 0)
  go_enter Try.func6, Try.ntmps6
  go_wp2_with (go_at_call 14; refine (rnkEach_nil _ _).mono ?_; rintro e w3 ⟨rfl, hB⟩; obtain ⟨cs, _, _⟩ := (N0.out.below hB).sum)
  have B3 := Lib.hid (N0.out.below hB)
  clear hB
  go_ret
  exact ⟨rfl, B3.out.hb⟩
set_option maxHeartbeats 1600000 in
theorem rnkSlack_any {B q p g h : Nat} {kd l k : Int} {n : Nat} {L : List Nd} (w : World) (d : DgA w B q p g h kd l k n L) (hn : n ≤ 1000) : Calls Try.prog 7 #[.pointer (some ⟨q, 0, none⟩)] w fun e w' => e = .returned (.int .i64 (slackN l k L)) ∧ Below w.heap.size w w' := by
  have u := d.po.uni
  have CF := Lib.hid (fun v (hb : Below w.heap.size w v) => dgConf_any v (d.below hb).box)
  have CP := Lib.hid (fun v (hb : Below w.heap.size w v) => dgCap_any v (d.below hb).box (d.below hb).po hn d.isk)
  have sb := slack_bd d.v
  have FD : ∀ w, (Instr.field 23 (.agg #[.int .i64 l, .int .i64 k, .int .i64 kd]) 0).run Try.prog w = .ok (.int .i64 l) w := fun _ => by kernel_rfl
  have MU := Lib.hid (mul_yes (a := l) (b := sumC L / k) ⟨by omega, sb.1, by have := sb.2.2; unfold slackN at this; omega⟩)
  have ME := Lib.hid (fun v => mul_any l (sumC L / k) v (by omega) (by omega) (by omega) (by omega))
  have HS : Hid (l * (sumC L / k) = slackN l k L) := rfl
  generalize slackN l k L = S at *
  generalize sumC L / k = cap at *
  rw [MU.out.1, MU.out.2, HS.out] at ME
  clear d sb
  go_enter Try.func7, Try.ntmps7
  go_wp2_with fail
  go_wp2_with (first
      | (go_at_call 18; refine (CF.out _ (Below.refl _ _)).mono ?_; rintro e v1 ⟨rfl, hb1⟩)
      | (go_at_call 19; refine (CP.out _ hb1).mono ?_; rintro e v2 ⟨rfl, hb2⟩)
      | (go_at_call 17; refine (ME.out _).mono ?_; rintro e v3 ⟨rfl, hb3⟩))
  go_ret
  exact ⟨rfl, (hb1.trans (hb2.mono hb1.size)).trans (hb3.mono (Nat.le_trans hb1.size hb2.size))⟩
theorem rnkSlack_nil (w : World) : Calls Try.prog 7 #[.pointer none] w fun e w' => e = .returned (.int .i64 0) ∧ Below w.heap.size w w' := by
  have FD : ∀ w, (Instr.field 23 (.agg #[.int .i64 0, .int .i64 0, .int .i64 0]) 0).run Try.prog w = .ok (.int .i64 0) w := fun _ => by kernel_rfl
  have MU := Lib.hid (mul_yes (a := 0) (b := 0) (by omega))
  have ME := Lib.hid (fun v => mul_any 0 0 v (by omega) (by omega) (by omega) (by omega))
  rw [MU.out.1, MU.out.2] at ME
  go_enter Try.func7, Try.ntmps7
  go_wp2_with (first
      | (go_at_call 18; refine (dgConf_nil _).mono ?_; rintro e v1 ⟨rfl, hb1⟩)
      | (go_at_call 19; refine (dgCap_nil _).mono ?_; rintro e v2 ⟨rfl, hb2⟩)
      | (go_at_call 17; refine (ME.out _).mono ?_; rintro e v3 ⟨rfl, hb3⟩))
  go_ret
  exact ⟨rfl, (hb1.trans (hb2.mono hb1.size)).trans (hb3.mono (Nat.le_trans hb1.size hb2.size))⟩

end Go.Proofs.Ytfmgcabgbnfjlaa
