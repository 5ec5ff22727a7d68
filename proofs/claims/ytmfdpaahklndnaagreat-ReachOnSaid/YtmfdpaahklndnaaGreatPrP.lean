/- Texts laid together: PrNum, PrNum2, PrNum3, PrMem, Pr, Pr2, Pr3, Pr4, Pr5. -/
import Derived.Test.YtmfdpaahklndnaaGreatFoQ
import Derived.Deep.LoopGhost
import Derived.Test.YtmfdpaahklndnaaGreatPoQ
namespace Go.Proofs.YtmfdpaahklndnaaGreat
set_option linter.unusedVariables false
def wtF (P : Int → Bool) : List Nd → Int
  | [] => 0
  | n :: L => (if P n.1 = true then n.2 else 0) + wtF P L
theorem wtF_all (L : List Nd) : wtF (fun _ => true) L = sumC L := by
  induction L with
  | nil => rfl
  | cons n L ih => simp only [wtF, sumC, ih, if_true]
end Go.Proofs.YtmfdpaahklndnaaGreat
namespace Go.Proofs.YtmfdpaahklndnaaGreat
set_option linter.unusedVariables false
def fstX (l cap : Int) (L : List Nd) : Int := fstN l L cap (parH L)
def hasX (l cap : Int) (L : List Nd) : Bool := fstB l L cap (parH L)
def preA (l cap : Int) (L : List Nd) : Nat → List Nd
  | 0 => L
  | j + 1 => foldW l (preA l cap L j) (fstX l cap (preA l cap L j))
def preS (l cap : Int) (L : List Nd) : Nat → List Int
  | 0 => []
  | j + 1 => preS l cap L j ++ [fstX l cap (preA l cap L j)]
def Live (l cap : Int) (L : List Nd) (j : Nat) : Prop := ∀ i, i < j → hasX l cap (preA l cap L i) = true
def LightC (l cap : Int) (L : List Nd) : Prop := ∀ n ∈ L, KidC l n.1 → n.2 ≤ cap
end Go.Proofs.YtmfdpaahklndnaaGreat
namespace Go.Proofs.YtmfdpaahklndnaaGreat
set_option linter.unusedVariables false
/-- all that is ready waits in the agenda, in the order of folding -/
structure AgI (l cap : Int) (M : List Nd) (W : List Int) : Prop where
  all : ∀ y, readyB l M y cap = true → y ∈ W
  srt : SrtH W
  bds : ∀ y ∈ W, 1 ≤ y ∧ y ≤ 9223372036854775807
end Go.Proofs.YtmfdpaahklndnaaGreat
namespace Go.Proofs.YtmfdpaahklndnaaGreat
set_option linter.unusedVariables false
set_option maxRecDepth 100000
open Go.RowKit
/-- the blocks of a pool -/
def poF (p g h : Nat) : Nat → Prop := fun k => k = p ∨ k = g ∨ k = h
theorem Chg.kp {g h : Nat} {w w' : World} (c : Chg g h w w') : Kp (fun k => k = g ∨ k = h) w w' := ⟨c.os, c.tape, c.output, c.size, fun k hk hn => c.block k hk (fun e => hn (.inl e)) fun e => hn (.inr e)⟩
theorem PoA.kp {w w' : World} {B p g h : Nat} {kd l : Int} {n : Nat} {L : List Nd} {F : Nat → Prop} (d : PoA w B p g h kd l n L) (k : Kp F w w') (f : ∀ i, F i → ¬ poF p g h i) : PoA w' B p g h kd l n L := by
  have fp : ¬ F p := fun q => f p q (.inl rfl)
  have fg : ¬ F g := fun q => f g q (.inr (.inl rfl))
  have fh : ¬ F h := fun q => f h q (.inr (.inr rfl))
  have key : ∀ {q : Nat} {k2 m : Nat}, ¬ F q → ∀ i, (Value.slice (some ⟨q, 0, none⟩) k2 m).ownBlock = some i → ¬ F i := fun hq i e => by
    simp only [Value.ownBlock, Option.some.injEq] at e; subst e; exact hq
  refine ⟨d.roll, d.len, d.st.imp (fun ⟨a, b, c, e⟩ => ⟨a, b, own_kp c k (key fp), ⟨own_kp e.top k (key fg), own_kp e.row k (key fh), e.ne⟩⟩) (fun ⟨a, c, b, S, e, t, z⟩ => ⟨a, own_kp c k (key fp), b, S, ⟨own_kp e.top k (key fg), own_kp e.row k (key fh), e.ne⟩, t, z⟩)⟩
/-- a call that is told of each fold: what it keeps (TL: in which blocks, what it was told) -/
structure Teller (F q : Nat) (TL : World → (Nat → Prop) → List Int → Prop) : Prop where
  eg : ∀ args w, (callFunc F args).run Tryz.prog w = .ok (.enter F args) w
  kp : ∀ {w w' : World} {T G : Nat → Prop} {P : List Int}, TL w T P → Kp G w w' → (∀ k, G k → ¬ T k) → TL w' T P
  lt : ∀ {w : World} {T : Nat → Prop} {P : List Int}, TL w T P → ∀ k, T k → k < w.heap.size
  call : ∀ {w : World} {T : Nat → Prop} {P : List Int} (x : Int), TL w T P → P.length ≤ 20000 → 1 ≤ x → x ≤ 9223372036854775807 → Calls Tryz.prog F #[.int .i64 x, .pointer (some ⟨q, 0, none⟩)] w fun e w' => e = .returned (.tuple #[]) ∧ ∃ T', TL w' T' (P ++ [x]) ∧ Kp T w w' ∧ ∀ k, T' k → T k ∨ w.heap.size ≤ k
/-- a pool, an agenda, and what was told, in memory, apart from one another -/
structure Trio (TL : World → (Nat → Prop) → List Int → Prop) (w : World) (B p g h : Nat) (kd l : Int) (n : Nat) (M : List Nd) (Ba b m na : Nat) (v : Value) (Q W : List Int) (T : Nat → Prop) (P : List Int) : Prop where
  po : PoA w B p g h kd l n M
  ag : Agd w Ba b m na v Q W
  tl : TL w T P
  pa : ∀ k, agF b m v k → ¬ poF p g h k
  pt : ∀ k, T k → ¬ poF p g h k
  at' : ∀ k, agF b m v k → ¬ T k
section
variable {F q : Nat} {TL : World → (Nat → Prop) → List Int → Prop} {w w' : World} {B p g h : Nat} {kd l : Int} {n : Nat} {M : List Nd} {Ba b m na : Nat} {v : Value} {Q W : List Int} {T : Nat → Prop} {P : List Int}
theorem Trio.below (t : Trio TL w B p g h kd l n M Ba b m na v Q W T P) (tt : Teller F q TL) (hb : Below w.heap.size w w') : Trio TL w' B p g h kd l n M Ba b m na v Q W T P :=
  ⟨t.po.below hb, t.ag.below hb, tt.kp t.tl (Kp.of (F := fun _ => False) hb) (fun _ f => f.elim), t.pa, t.pt, t.at'⟩
end
end Go.Proofs.YtmfdpaahklndnaaGreat
namespace Go.Proofs.YtmfdpaahklndnaaGreat
set_option linter.unusedVariables false
set_option maxRecDepth 100000
open Go.RowKit
/-- is there such a k? -/
def kIs (k : Int) : Bool := decide (1 ≤ k ∧ k ≤ 1048576)
theorem prFits_any (k : Int) (w : World) : Calls Tryz.prog 138 #[.int .i64 k] w fun e w' => e = .returned (.bool (kIs k)) ∧ w = w' := by
  unfold kIs
  by_cases h1 : 1 ≤ k
  · have c1 : decide (1 ≤ k) = true := decide_eq_true h1
    by_cases h2 : k ≤ 1048576
    · have c2 : decide (k ≤ 1048576) = true := decide_eq_true h2
      have H := Lib.hid (decide_eq_true (p := 1 ≤ k ∧ k ≤ 1048576) ⟨h1, h2⟩)
      clear h1 h2
      go_enter Tryz.func138, Tryz.ntmps138
      go_wp2_with fail
      go_ret
      exact ⟨by rw [H.out]; rfl, rfl⟩
    · have c2 : decide (k ≤ 1048576) = false := decide_eq_false h2
      have H := Lib.hid (decide_eq_false (p := 1 ≤ k ∧ k ≤ 1048576) fun q => h2 q.2)
      clear h1 h2
      go_enter Tryz.func138, Tryz.ntmps138
      go_wp2_with fail
      go_ret
      exact ⟨by rw [H.out]; rfl, rfl⟩
  · have c1 : decide (1 ≤ k) = false := decide_eq_false h1
    have H := Lib.hid (decide_eq_false (p := 1 ≤ k ∧ k ≤ 1048576) fun q => h1 q.1)
    clear h1
    go_enter Tryz.func138, Tryz.ntmps138
    go_wp2_with fail
    go_ret
    exact ⟨by rw [H.out]; rfl, rfl⟩
theorem prCheck_any (p : Nat) (k : Int) (w : World) : Calls Tryz.prog 96 #[.pointer (some ⟨p, 0, none⟩), .int .i64 k] w fun e w' => e = .returned (.int .i64 (if kIs k = true then 0 else 2)) ∧ w = w' := by
  have FT := Lib.hid (fun w => prFits_any k w)
  cases h : kIs k
  · rw [h] at FT
    clear h
    go_enter Tryz.func96, Tryz.ntmps96
    go_wp2_with (go_at_call 138; refine (FT.out _).mono ?_; rintro e w1 ⟨rfl, rfl⟩)
    go_ret
    exact ⟨rfl, rfl⟩
  · rw [h] at FT
    clear h
    go_enter Tryz.func96, Tryz.ntmps96
    go_wp2_with (go_at_call 138; refine (FT.out _).mono ?_; rintro e w1 ⟨rfl, rfl⟩)
    go_ret
    exact ⟨rfl, rfl⟩
/-- the cap of a store -/
def capW (L : List Nd) (k : Int) : Int := sumC L / k
theorem cap_quo {l : Int} {L : List Nd} (h : RollC l L) {k : Int} (hk : kIs k = true) : quoN (sumC L) k = capW L k := by
  have q := of_decide_eq_true hk
  have nn := good_nonneg (roll_good h)
  have s0 : 0 ≤ sumC L := Int.le_trans (sum_le nn 0).1 (sum_le nn 0).2
  exact (quo_yes (a := sumC L) (b := k) ⟨by omega, by omega⟩).1
theorem cap_bd {l : Int} {L : List Nd} (h : RollC l L) {k : Int} (hk : kIs k = true) : 0 ≤ capW L k ∧ capW L k ≤ sumC L ∧ sumC L ≤ 72057594037927935 := by
  have q := of_decide_eq_true hk
  have nn := good_nonneg (roll_good h)
  have s0 : 0 ≤ sumC L := Int.le_trans (sum_le nn 0).1 (sum_le nn 0).2
  exact ⟨Int.ediv_nonneg s0 (by omega), Int.ediv_le_self _ s0, h.2.2.2.2⟩
theorem tot_bel {B p g h : Nat} {kd l : Int} {n : Nat} {L : List Nd} {w : World} (d : PoA w B p g h kd l n L) (hn : n ≤ 1000) (w1 : World) (q : Below w.heap.size w w1) :
    Calls Tryz.prog 45 #[.pointer (some ⟨p, 0, none⟩)] w1 fun e w' => e = .returned (.int .i64 (sumC L)) ∧ Below w.heap.size w w' :=
  (poTotal_any w1 (d.below q) hn).mono fun e w' ⟨h1, m, h2⟩ => ⟨h1, by rw [h2]; exact drewN_below q m⟩
end Go.Proofs.YtmfdpaahklndnaaGreat
namespace Go.Proofs.YtmfdpaahklndnaaGreat
set_option linter.unusedVariables false
set_option maxRecDepth 100000
open Go.RowKit
end Go.Proofs.YtmfdpaahklndnaaGreat
namespace Go.Proofs.YtmfdpaahklndnaaGreat
set_option linter.unusedVariables false
set_option maxRecDepth 100000
open Go.RowKit
/-- between two rounds -/
structure AllI (TL : World → (Nat → Prop) → List Int → Prop) (w wr : World) (B p g h : Nat) (kd l : Int) (n : Nat) (L : List Nd) (cap : Int) (T : Nat → Prop) (b m j : Nat) (v : Value) (Q W U : List Int) (T' : Nat → Prop) (h' : Nat) (M : List Nd) : Prop where
  trio : Trio TL wr B p g h' kd l n M w.heap.size b m (n + 3 * j) v Q U T' (preS l cap L j)
  pre : M = preA l cap L j
  live : Live l cap L j
  ag : AgI l cap M W
  kp : Kp (fun i => T i ∨ i = g ∨ i = h) w wr
  new : h' = h ∨ w.heap.size ≤ h'
  told : ∀ i, T' i → T i ∨ w.heap.size ≤ i
section
variable {F q : Nat} {TL : World → (Nat → Prop) → List Int → Prop} {w wr w' : World} {B p g h : Nat} {kd l : Int} {n : Nat} {L : List Nd} {cap : Int} {T : Nat → Prop} {b m j : Nat} {v : Value} {Q W U : List Int} {T' : Nat → Prop} {h' : Nat} {M : List Nd}
theorem AllI.below (i : AllI TL w wr B p g h kd l n L cap T b m j v Q W U T' h' M) (tt : Teller F q TL) (hb : Below wr.heap.size wr w') : AllI TL w w' B p g h kd l n L cap T b m j v Q W U T' h' M :=
  ⟨i.trio.below tt hb, i.pre, i.live, i.ag, i.kp.trans (Kp.of (F := fun _ => False) hb) (fun _ _ f => f.elim), i.new, i.told⟩
end
end Go.Proofs.YtmfdpaahklndnaaGreat
namespace Go.Proofs.YtmfdpaahklndnaaGreat
set_option linter.unusedVariables false
set_option maxRecDepth 100000
open Go.RowKit
end Go.Proofs.YtmfdpaahklndnaaGreat
namespace Go.Proofs.YtmfdpaahklndnaaGreat
set_option linter.unusedVariables false
set_option maxRecDepth 100000
open Go.RowKit Go.Shelf
attribute [local go_sem] Oper.semAt_some
instance (l cap : Int) (L : List Nd) : Decidable (LightC l cap L) := by unfold LightC; exact inferInstance
/-- is it light? -/
def lightB (l : Int) (L : List Nd) (k : Int) : Bool := kIs k && decide (LightC l (capW L k) L)
/-- blocks other than one box -/
def FrR (q : Nat) (W : World) (k : Nat) : Prop := (∃ o : Obj, W.heap[k]? = some o ∧ o.isCells = true) ∧ k ≠ q
theorem frR (q : Nat) : Frm (FrR q) := by
  refine ⟨fun h => h.1, fun {W W' row k} hg hr h => ?_⟩
  obtain ⟨⟨o, ho, hc⟩, hk⟩ := h
  have e1 : W'.heap[k]? = W.heap[k]? := hg.block k (Array.getElem?_eq_some_iff.1 ho).1 (fun e => by
    obtain ⟨ob, h1, h2⟩ := hr k e.symm
    rw [ho] at h1; injection h1 with h1; rw [← h1, hc] at h2; cases h2)
  exact ⟨⟨o, e1.trans ho, hc⟩, hk⟩
theorem kpF_below {Fr : World → Nat → Prop} (F : Frm Fr) {W W' : World} (hb : Below W.heap.size W W') : KpF Fr W W' := ⟨hb.size, fun k hk hf => ⟨hb.block k hk, F.below hb hf⟩⟩
/-- what a loop was handed is light -/
def LtW (l cap : Int) (pre : List Nd) : Prop := ∀ x ∈ pre, KidC l (wrap64 x.1) → wrap64 x.2 ≤ cap
theorem ltW_snoc {l cap : Int} {pre : List Nd} (h : LtW l cap pre) {x : Nd} (hx : KidC l (wrap64 x.1) → wrap64 x.2 ≤ cap) : LtW l cap (pre ++ [x]) := fun y hy => by
  rcases List.mem_append.1 hy with q | q
  · exact h y q
  · rw [List.mem_singleton.1 q]; exact hx
theorem ltW_all {l cap : Int} {L : List Nd} (hB : NBds L) : LtW l cap L ↔ LightC l cap L := by
  have key : ∀ n ∈ L, wrap64 n.1 = n.1 ∧ wrap64 n.2 = n.2 := fun n hn => by
    have b := hB n hn
    exact ⟨wrap_in b.1.1 b.1.2, wrap_in b.2.1 b.2.2⟩
  constructor
  · intro h n hn hk
    have q := h n hn
    rw [(key n hn).1, (key n hn).2] at q
    exact q hk
  · intro h n hn hk
    rw [(key n hn).1] at hk
    rw [(key n hn).2]
    exact h n hn hk
/-- the two boxes that a call of Light begins with: the pool, and what it answers -/
structure LgI (w W : World) (x : Value) (b : Bool) : Prop where
  px : W.ownsRow w.heap.size 94 1 (.slice (some ⟨w.heap.size, 0, none⟩) 1 1) 1 [x]
  rx : W.ownsRow w.heap.size 4 1 (.slice (some ⟨w.heap.size + 1, 0, none⟩) 1 1) 1 [.bool b]
  b : Below w.heap.size w W
theorem lgI_new (w : World) (x : Value) : LgI w ((w.alloc (.cells #[x] 94)).alloc (.cells #[.bool false] 4)) x false := by
  have ez : (w.alloc (.cells #[x] 94)).heap.size = w.heap.size + 1 := by simp
  refine ⟨(box1 w _ _).alloc _, ?_, ((Below.refl _ _).alloc (Nat.le_refl _) _).alloc (by simp) _⟩
  have q := box1 (w.alloc (.cells #[x] 94)) 4 (.bool false)
  rw [ez] at q
  exact own_low q (by omega)
theorem LgI.below {w W W' : World} {x : Value} {b : Bool} (h : LgI w W x b) (hb : Below W.heap.size W W') : LgI w W' x b := ⟨own_below h.px hb, own_below h.rx hb, h.b.trans (hb.mono h.b.size)⟩
theorem LgI.grown {w W W' : World} {x : Value} {b : Bool} {row : Option Nat} (h : LgI w W x b) (hB : Below w.heap.size w W → Below w.heap.size w W') (hg : W.grownBy W' row) (hr : ∀ r, row = some r → ∃ o : Obj, W.heap[r]? = some o ∧ o.isCells = false) : LgI w W' x b := ⟨row_grown h.px hg hr, row_grown h.rx hg hr, hB h.b⟩
theorem LgI.cells {w W : World} {x : Value} {b : Bool} (h : LgI w W x b) : W.cell? ⟨w.heap.size, 0, none⟩ = some x ∧ W.cell? ⟨w.heap.size + 1, 0, none⟩ = some (.bool b) ∧ W.frozen? ⟨w.heap.size + 1, 0, none⟩ = false := ⟨h.px.cellAt 0 (by omega), h.rx.cellAt 0 (by omega), h.rx.frozenAt 0⟩
set_option maxHeartbeats 1600000 in
theorem prLight_no_in (p : Nat) (k : Int) (w : World) (hk : kIs k = false) : CallsIn Fence.wide 5 Tryz.prog 57 #[.pointer (some ⟨p, 0, none⟩), .int .i64 k] w fun e w' => e = .returned (.bool false) ∧ Below w.heap.size w w' := by
  have I0 := Lib.hid (lgI_new w (.pointer (some ⟨p, 0, none⟩)))
  have CK := Lib.hid (fun w => prCheck_any p k w)
  rw [hk] at CK
  clear hk
  refine callsIn_of_wp_marks Tryz.func57 rfl trivial ?_ rfl
  simp only [Tryz.ntmps57, List.size_toArray, List.length_cons, List.length_nil, Nat.reduceAdd, Nat.reduceSub, Array.replicate_succ, Array.replicate_zero, List.push_toArray, List.append_toArray, List.nil_append, List.cons_append]
  gi_wp2
  refine ⟨trivial, (callsIn_wide.2 (CK.out _)).mono ?_⟩
  generalize (w.alloc (.cells #[.pointer (some ⟨p, 0, none⟩)] 94)).alloc (.cells #[.bool false] 4) = W0 at *
  rintro e w1 ⟨rfl, rfl⟩
  obtain ⟨c0, c1, f1⟩ := I0.out.cells
  have BB := Lib.hid I0.out.b
  gi_wp2
  have hc5 := World.cell?_setCell_same' W0 ⟨w.heap.size + 1, 0, none⟩ (.bool false) (by rw [c1]; rfl)
  exact ⟨.bool false, by simp [results, Tryz.f57, go_sem, hc5], rfl, BB.out.setCell (p := ⟨w.heap.size + 1, 0, none⟩) (Nat.le_succ _) _⟩
set_option maxHeartbeats 3200000 in
theorem prLight_in {B p g h : Nat} {kd l : Int} {n : Nat} {L : List Nd} (k : Int) (w : World) (d : PoA w B p g h kd l n L) (hn : n ≤ 500) (hk : kIs k = true) :
    CallsIn Fence.wide 5 Tryz.prog 57 #[.pointer (some ⟨p, 0, none⟩), .int .i64 k] w fun e w' => e = .returned (.bool (decide (LightC l (capW L k) L))) ∧ Below w.heap.size w w' := by
  have I0 := Lib.hid (lgI_new w (.pointer (some ⟨p, 0, none⟩)))
  have CK := Lib.hid (fun w => prCheck_any p k w)
  rw [hk] at CK
  have kb := of_decide_eq_true hk
  have u := d.uni
  have cb := cap_bd d.roll hk
  have CP := Lib.hid (fun w => foCap_any (sumC L) k w (by omega) (by omega) (by omega) (by omega))
  rw [cap_quo d.roll hk] at CP
  have NB := Lib.hid (nbds_roll d.roll)
  have D := Lib.hid d
  have LH := Lib.hid (ltW_all (l := l) (cap := capW L k) NB.out)
  clear d hk
  generalize capW L k = cap at *
  refine callsIn_of_wp_marks Tryz.func57 rfl trivial ?_ rfl
  simp only [Tryz.ntmps57, List.size_toArray, List.length_cons, List.length_nil, Nat.reduceAdd, Nat.reduceSub, Array.replicate_succ, Array.replicate_zero, List.push_toArray, List.append_toArray, List.nil_append, List.cons_append]
  gi_wp2
  refine ⟨trivial, (callsIn_wide.2 (CK.out _)).mono ?_⟩
  generalize (w.alloc (.cells #[.pointer (some ⟨p, 0, none⟩)] 94)).alloc (.cells #[.bool false] 4) = W0 at *
  rintro e w1 ⟨rfl, rfl⟩
  obtain ⟨c0, c1, f1⟩ := I0.out.cells
  have D0 := Lib.hid (D.out.below I0.out.b)
  gi_wp2
  refine ⟨trivial, (callsIn_wide.2 (tot_bel D0.out (by omega) _ (Below.refl _ _))).mono ?_⟩
  rintro e w2 ⟨rfl, hb2⟩
  have I2 := Lib.hid (I0.out.below hb2)
  clear c0 c1 f1 hb2 I0 D0
  obtain ⟨c0, c1, f1⟩ := I2.out.cells
  have hx0 : w.heap.size < w2.heap.size := (I2.out.px.lt _ rfl).2
  have hx1 : w.heap.size + 1 < w2.heap.size := (I2.out.rx.lt _ rfl).2
  gi_wp2
  refine ⟨trivial, (callsIn_wide.2 (CP.out _)).mono ?_⟩
  rintro e w3 ⟨rfl, rfl⟩
  gi_wp2
  refine ⟨trivial, (callsIn_wide.2 (poEach_any _ _)).mono ?_⟩
  rintro e w3 ⟨rfl, rfl⟩
  have hza : (w2.alloc (.cells #[.int .i64 cap] 3)).heap.size = w2.heap.size + 1 := by simp
  have hba : Below w2.heap.size w2 ((w2.alloc (.cells #[.int .i64 cap] 3)).alloc (.cells #[.pointer (some ⟨p, 0, none⟩)] 94)) := ((Below.refl _ _).alloc (Nat.le_refl _) _).alloc (by simp) _
  have NR : Hid (((w2.alloc (.cells #[.int .i64 cap] 3)).alloc (.cells #[.pointer (some ⟨p, 0, none⟩)] 94)).ownsRow w.heap.size 3 1 (.slice (some ⟨w2.heap.size, 0, none⟩) 1 1) 1 [.int .i64 cap]) := own_low ((box1 w2 3 (.int .i64 cap)).alloc (.cells #[.pointer (some ⟨p, 0, none⟩)] 94)) (by omega)
  have hc1 : ((w2.alloc (.cells #[.int .i64 cap] 3)).alloc (.cells #[.pointer (some ⟨p, 0, none⟩)] 94)).cell? ⟨w2.heap.size + 1, 0, none⟩ = some (.pointer (some ⟨p, 0, none⟩)) := by
    have q := (box1 (w2.alloc (.cells #[.int .i64 cap] 3)) 94 (.pointer (some ⟨p, 0, none⟩))).cellAt 0 (by omega)
    rw [hza] at q
    exact q
  have hz1 : w2.heap.size + 1 < ((w2.alloc (.cells #[.int .i64 cap] 3)).alloc (.cells #[.pointer (some ⟨p, 0, none⟩)] 94)).heap.size := by simp
  have I3 := Lib.hid (I2.out.below hba)
  have P3 := Lib.hid (D.out.below I3.out.b)
  clear hba hza c0 c1 f1 hx0 I2
  gi_wp2
  generalize (w2.alloc (.cells #[.int .i64 cap] 3)).alloc (.cells #[.pointer (some ⟨p, 0, none⟩)] 94) = W1 at *
  have hN : ∀ W W2 k, Below W1.heap.size W1 W → Below W.heap.size W W2 → W.heap.size ≤ k → (∃ o : Obj, W2.heap[k]? = some o ∧ o.isCells = true) → FrR (w.heap.size + 1) W2 k := by
    intro W W2 k h1 h2' h3 h4
    have := h1.size
    exact ⟨h4, by omega⟩
  refine wpIn_rangeFunc_ownF rfl (by decide) (gf := 140) (lb := #[.pointer (some ⟨w2.heap.size + 1, 0, none⟩)]) rfl trivial (enters_of Tryz.func140 (by kernel_rfl) rfl)
    (each_stops 4 (w2.heap.size + 1) p B g h (show n ≤ 1000 by omega) (FrR (w.heap.size + 1)) (frR _) W1 hc1 hz1 P3.out hN) kpF_t (fun W l' o o' _ hl ho _ => kpF_b (frR _) W l' o o' hl ho) (Below.refl _ _) (fun _ => rfl)
    (fun pre W => (((W.ownsRow w.heap.size 94 1 (.slice (some ⟨w.heap.size, 0, none⟩) 1 1) 1 [.pointer (some ⟨p, 0, none⟩)] ∧ W.ownsRow w.heap.size 4 1 (.slice (some ⟨w.heap.size + 1, 0, none⟩) 1 1) 1 [.bool false]) ∧ W.ownsRow w.heap.size 3 1 (.slice (some ⟨w2.heap.size, 0, none⟩) 1 1) 1 [.int .i64 cap] ∧ PoA W B p g h kd l n L) ∧ LtW l cap pre) ∧ Below w.heap.size w W)
    (fun cd pre W => (W.ownsRow w.heap.size 4 1 (.slice (some ⟨w.heap.size + 1, 0, none⟩) 1 1) 1 [.bool false] ∧ cd = .ret ∧ ¬ LtW l cap pre) ∧ Below w.heap.size w W)
    (OwnFrom.and (Own.from (fun s A C row ⟨⟨⟨r1, r2⟩, r3, r4⟩, hp⟩ hg hr => ⟨⟨⟨row_grown r1 hg hr, row_grown r2 hg hr⟩, row_grown r3 hg hr, r4.grown hg hr⟩, hp⟩) _) (ownFrom_below (Nat.le_refl _) I3.out.b.size))
    (fun cd => OwnFrom.and (Own.from (fun s A C row ⟨r1, q1, q2⟩ hg hr => ⟨row_grown r1 hg hr, q1, q2⟩) _) (ownFrom_below (Nat.le_refl _) I3.out.b.size))
    ⟨⟨⟨⟨I3.out.px, I3.out.rx⟩, NR.out, P3.out⟩, fun x hx => by simp at hx⟩, I3.out.b⟩
    ?a1 ?assign ?body ?done ?stop
  case assign =>
    intro l' x W K hK
    gi_wp2
    exact hK
  case body =>
    rintro l' pre x W ⟨⟨⟨⟨r1, r2⟩, r3, r4⟩, hp⟩, hB⟩ hpl
    have bd := wrap_bd x.1
    have bd2 := wrap_bd x.2
    have KD := Lib.hid (fun w => kids_any l (wrap64 x.1) w (by omega) (by omega) bd.1 bd.2)
    have SN := Lib.hid (fun h => ltW_snoc (x := x) hp h)
    have NO : Hid (KidC l (wrap64 x.1) → cap < wrap64 x.2 → ¬ LtW l cap (pre ++ [x])) := fun h1 h2 h3 => by have := h3 x (by simp) h1; omega
    have n0 : W.cell? ⟨w.heap.size, 0, none⟩ = some (.pointer (some ⟨p, 0, none⟩)) := r1.cellAt 0 (by omega)
    have n1 : W.cell? ⟨w.heap.size + 1, 0, none⟩ = some (.bool false) := r2.cellAt 0 (by omega)
    have n2 := r2.frozenAt 0
    have n3 : W.cell? ⟨w2.heap.size, 0, none⟩ = some (.int .i64 cap) := r3.cellAt 0 (by omega)
    have R1 := Lib.hid r1
    have R2 := Lib.hid r2
    have R3 := Lib.hid r3
    have R4 := Lib.hid r4
    have BB := Lib.hid hB
    clear r1 r2 r3 r4 hB hp
    generalize wrap64 x.1 = id at *
    generalize wrap64 x.2 = ct at *
    have hx1' : w.heap.size + 1 < W.heap.size := (R2.out.lt _ rfl).2
    by_cases hk : KidC l id
    · obtain ⟨k1, k2, k3⟩ := kid_yes hk
      rw [k1, k2, k3] at KD
      clear k1 k2 k3
      by_cases hc : cap < ct
      · have c1 : decide (ct > cap) = true := decide_eq_true hc
        have NX := Lib.hid (NO.out hk hc)
        clear hk hc
        gi_wp2
        refine ⟨trivial, (CallsIn.inRound l' (callsIn_wide.2 (l_bel R4.out (by omega) _ (Below.refl _ _)))).mono ?_⟩
        rintro e w4 ⟨rfl, hb4⟩
        have R24 := own_below R2.out hb4
        have m1 : w4.cell? ⟨w.heap.size + 1, 0, none⟩ = some (.bool false) := R24.cellAt 0 (by omega)
        have m2 := R24.frozenAt 0
        have m3 : w4.cell? ⟨w2.heap.size, 0, none⟩ = some (.int .i64 cap) := (own_below R3.out hb4).cellAt 0 (by omega)
        have KO := Lib.hid (keepsOthers_below hb4)
        have B4 := Lib.hid (BB.out.trans (hb4.mono BB.out.size))
        have RR := Lib.hid R24
        clear hb4 n0 n1 n2 n3 R24
        gi_wp2
        refine ⟨trivial, (CallsIn.inRound l' (callsIn_wide.2 (KD.out _))).mono ?_⟩
        rintro e w5 ⟨rfl, rfl⟩
        gi_wp2
        exact ⟨KO.out.trans (KeepsOthers.setCell _ _ _), ⟨(RR.out.stored 0 (.bool false)).1, rfl, NX.out⟩, B4.out.setCell (p := ⟨w.heap.size + 1, 0, none⟩) (Nat.le_succ _) _⟩
      · have c1 : decide (ct > cap) = false := decide_eq_false hc
        have NX := Lib.hid (SN.out fun _ => by omega)
        clear hk hc
        gi_wp2
        refine ⟨trivial, (CallsIn.inRound l' (callsIn_wide.2 (l_bel R4.out (by omega) _ (Below.refl _ _)))).mono ?_⟩
        rintro e w4 ⟨rfl, hb4⟩
        have m3 : w4.cell? ⟨w2.heap.size, 0, none⟩ = some (.int .i64 cap) := (own_below R3.out hb4).cellAt 0 (by omega)
        have KO := Lib.hid (keepsOthers_below hb4)
        have KF := Lib.hid (kpF_below (frR (w.heap.size + 1)) hb4)
        have B4 := Lib.hid (BB.out.trans (hb4.mono BB.out.size))
        have RR := Lib.hid (And.intro (And.intro (own_below R1.out hb4) (own_below R2.out hb4)) (And.intro (own_below R3.out hb4) (R4.out.below hb4)))
        clear hb4 n0 n1 n2 n3
        gi_wp2
        refine ⟨trivial, (CallsIn.inRound l' (callsIn_wide.2 (KD.out _))).mono ?_⟩
        rintro e w5 ⟨rfl, rfl⟩
        gi_wp2
        exact ⟨KO.out, KF.out, ⟨RR.out, NX.out⟩, B4.out⟩
    · obtain ⟨k1, k2, k3⟩ := kid_no hk
      rw [k1, k2, k3] at KD
      have NX := Lib.hid (SN.out fun h => absurd h hk)
      clear hk k1 k2 k3
      gi_wp2
      refine ⟨trivial, (CallsIn.inRound l' (callsIn_wide.2 (l_bel R4.out (by omega) _ (Below.refl _ _)))).mono ?_⟩
      rintro e w4 ⟨rfl, hb4⟩
      have KO := Lib.hid (keepsOthers_below hb4)
      have KF := Lib.hid (kpF_below (frR (w.heap.size + 1)) hb4)
      have B4 := Lib.hid (BB.out.trans (hb4.mono BB.out.size))
      have RR := Lib.hid (And.intro (And.intro (own_below R1.out hb4) (own_below R2.out hb4)) (And.intro (own_below R3.out hb4) (R4.out.below hb4)))
      clear hb4 n0 n1 n2 n3
      gi_wp2
      refine ⟨trivial, (CallsIn.inRound l' (callsIn_wide.2 (KD.out _))).mono ?_⟩
      rintro e w5 ⟨rfl, rfl⟩
      gi_wp2
      exact ⟨KO.out, KF.out, ⟨RR.out, NX.out⟩, B4.out⟩
  case done =>
    rintro D' ys W hD hys ⟨⟨⟨⟨r1, r2⟩, r3, r4⟩, hp⟩, hB⟩ hK
    rw [hys] at hp
    have c1 : W.cell? ⟨w.heap.size + 1, 0, none⟩ = some (.bool false) := r2.cellAt 0 (by omega)
    have f1 := r2.frozenAt 0
    have HL := Lib.hid (decide_eq_true (LH.out.1 hp))
    have BB := Lib.hid hB
    have HD := Lib.hid hD
    have HKK := Lib.hid hK
    clear r1 r2 r3 r4 hp hB hK hD hys
    gi_wp2
    have hK' := (KeepsOthers.setCell W ⟨w.heap.size + 1, 0, none⟩ (.bool true)).same D' _ HKK.out rfl
    refine ⟨by simp, .inl ⟨_, _, rfl, run_takeDeferred hK', ?_⟩⟩
    have hc5 := cell_kept (World.cell?_setCell_same' W ⟨w.heap.size + 1, 0, none⟩ (.bool true) (by rw [c1]; rfl)) (grownBy_putObj' _ D' (.deferred none)) (fun r e => by cases e; exact ⟨_, hK', rfl⟩)
    refine ⟨.bool true, ?_, by rw [HL.out], (BB.out.setCell (p := ⟨w.heap.size + 1, 0, none⟩) (Nat.le_succ _) _).trans (belowK_b (w := W1) I3.out.b.size _ D' _ _ HD.out hK' rfl rfl)⟩
    simp [results, Tryz.f57, go_sem, hc5]
  case stop =>
    rintro D' cd pre W hD hpre ⟨⟨r2, rfl, hnp⟩, hB⟩ hK
    have c1 : W.cell? ⟨w.heap.size + 1, 0, none⟩ = some (.bool false) := r2.cellAt 0 (by omega)
    have HL := Lib.hid (decide_eq_false fun h => hnp fun x hx => LH.out.2 h x (hpre.subset hx))
    have BB := Lib.hid hB
    have HD := Lib.hid hD
    have HKK := Lib.hid hK
    clear r2 hnp hpre hB hK hD
    gi_wp2
    refine ⟨by simp, .inl ⟨_, _, rfl, run_takeDeferred HKK.out, ?_⟩⟩
    have hc5 := cell_kept c1 (grownBy_putObj' _ D' (.deferred none)) (fun r e => by cases e; exact ⟨_, HKK.out, rfl⟩)
    refine ⟨.bool false, ?_, by rw [HL.out], BB.out.trans (belowK_b (w := W1) I3.out.b.size _ D' _ _ HD.out HKK.out rfl rfl)⟩
    simp [results, Tryz.f57, go_sem, hc5]
theorem prLight_any {B p g h : Nat} {kd l : Int} {n : Nat} {L : List Nd} (k : Int) (w : World) (d : PoA w B p g h kd l n L) (hn : n ≤ 500) :
    Calls Tryz.prog 57 #[.pointer (some ⟨p, 0, none⟩), .int .i64 k] w fun e w' => e = .returned (.bool (lightB l L k)) ∧ Below w.heap.size w w' := by
  unfold lightB
  cases hk : kIs k
  · exact callsIn_wide.1 (prLight_no_in p k w hk)
  · exact callsIn_wide.1 (prLight_in k w d hn hk)
end Go.Proofs.YtmfdpaahklndnaaGreat
