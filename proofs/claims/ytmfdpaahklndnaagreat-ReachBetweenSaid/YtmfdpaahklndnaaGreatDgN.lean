/- Texts laid together: BgNum, BgNum2, PrNum4, DgNum, RaNum, DgNum2, DgMem, DgBox, DgLd. -/
import Derived.Test.YtmfdpaahklndnaaGreatPln
import Derived.Test.YtmfdpaahklndnaaGreatPrP
import Derived.Test.YtmfdpaahklndnaaGreatPoQ
import Derived.Test.YtmfdpaahklndnaaGreatMmy
namespace Go.Proofs.YtmfdpaahklndnaaGreat
set_option linter.unusedVariables false
def ltN (L : List Nd) (x : Int) : Nat := L.countP fun n => decide (n.1 < x)
def leN (L : List Nd) (x : Int) : Nat := L.countP fun n => decide (n.1 ≤ x)
structure BagC (l : Int) (L : List Nd) : Prop where
  uni : 1 ≤ l ∧ l ≤ 48
  good : Good L
  val : ∀ n ∈ L, ValC l n.1
  tot : sumC L ≤ 72057594037927935
/-- what Add tells, and leaves -/
def bagE (l : Int) (L : List Nd) (x c : Int) : Int := if leafB l x = false then 3 else if c < 1 then 4 else if 72057594037927935 < sumC L + c then 5 else 0
def bagS (l : Int) (L : List Nd) (x c : Int) : List Nd := if bagE l L x c = 0 then insW L x c else L
theorem leafB_iff {l x : Int} : leafB l x = true ↔ ValC l x := by
  constructor
  · intro h
    by_cases q : ValC l x
    · exact q
    · rw [(leaf_no q).2] at h; simp at h
  · intro h; exact (leaf_yes h).2
theorem bag_range {l : Int} {L : List Nd} {x c : Int} (h : leafB l x = false) : bagE l L x c = 3 ∧ bagS l L x c = L := by
  have e : bagE l L x c = 3 := if_pos h
  exact ⟨e, by unfold bagS; rw [e]; rfl⟩
theorem bag_zero {l : Int} {L : List Nd} {x c : Int} (h : leafB l x = true) (h1 : c < 1) : bagE l L x c = 4 ∧ bagS l L x c = L := by
  have e : bagE l L x c = 4 := by unfold bagE; rw [if_neg (by simp [h]), if_pos h1]
  exact ⟨e, by unfold bagS; rw [e]; rfl⟩
theorem bag_full {l : Int} {L : List Nd} {x c : Int} (h : leafB l x = true) (h1 : ¬ c < 1) (h2 : 72057594037927935 < sumC L + c) : bagE l L x c = 5 ∧ bagS l L x c = L := by
  have e : bagE l L x c = 5 := by unfold bagE; rw [if_neg (by simp [h]), if_neg h1, if_pos h2]
  exact ⟨e, by unfold bagS; rw [e]; rfl⟩
theorem bag_ok {l : Int} {L : List Nd} {x c : Int} (h : leafB l x = true) (h1 : ¬ c < 1) (h2 : ¬ 72057594037927935 < sumC L + c) : bagE l L x c = 0 ∧ bagS l L x c = insW L x c := by
  have e : bagE l L x c = 0 := by unfold bagE; rw [if_neg (by simp [h]), if_neg h1, if_neg h2]
  exact ⟨e, by unfold bagS; rw [e]; rfl⟩
theorem insW_le (L : List Nd) (x c : Int) : (insW L x c).length ≤ L.length + 1 := by
  induction L with
  | nil => simp [insW]
  | cons n L ih => unfold insW; split; simp; split; simp; simp; omega
theorem BagC.ins {l : Int} {L : List Nd} {x c : Int} (h : BagC l L) (hx : ValC l x) (hc : ¬ c < 1) (ht : ¬ 72057594037927935 < sumC L + c) : BagC l (insW L x c) :=
  ⟨h.uni, insW_good h.good (by omega), fun n hn => by
    rcases insW_mem hn with e | ⟨m, hm, e⟩
    · rw [e]; exact hx
    · rw [← e]; exact h.val m hm, by rw [insW_tot]; omega⟩
theorem bag_cases {l : Int} (L : List Nd) (x c : Int) : (leafB l x = false) ∨ (leafB l x = true ∧ c < 1) ∨ (leafB l x = true ∧ ¬ c < 1 ∧ 72057594037927935 < sumC L + c) ∨ (leafB l x = true ∧ ¬ c < 1 ∧ ¬ 72057594037927935 < sumC L + c) := by
  cases leafB l x
  · exact .inl rfl
  · by_cases h1 : c < 1
    · exact .inr (.inl ⟨rfl, h1⟩)
    · by_cases h2 : 72057594037927935 < sumC L + c
      · exact .inr (.inr (.inl ⟨rfl, h1, h2⟩))
      · exact .inr (.inr (.inr ⟨rfl, h1, h2⟩))
theorem BagC.add {l : Int} {L : List Nd} (h : BagC l L) (x c : Int) : BagC l (bagS l L x c) := by
  rcases bag_cases (l := l) L x c with q | ⟨q, q1⟩ | ⟨q, q1, q2⟩ | ⟨q, q1, q2⟩
  · rw [(bag_range q).2]; exact h
  · rw [(bag_zero q q1).2]; exact h
  · rw [(bag_full q q1 q2).2]; exact h
  · rw [(bag_ok q q1 q2).2]; exact h.ins (leafB_iff.1 q) q1 q2
theorem valC_bd {l x : Int} (h : ValC l x) : 0 ≤ x ∧ x ≤ 281474976710655 := by
  obtain ⟨h1, h2⟩ := h
  have h3 : (2 : Int) ^ l.toNat ≤ 2 ^ 48 := two_le _ _ (by omega)
  have e : (2 : Int) ^ 48 = 281474976710656 := by decide
  omega
theorem BagC.bds {l : Int} {L : List Nd} (h : BagC l L) : ∀ n ∈ L, (0 ≤ n.1 ∧ n.1 ≤ 281474976710655) ∧ (1 ≤ n.2 ∧ n.2 ≤ 72057594037927935) := fun n hn => by
  have a := valC_bd (h.val n hn)
  have b := h.good.pos n hn
  have c := sumC_mem (good_nonneg h.good) hn
  have d := h.tot
  exact ⟨a, b, by omega⟩
theorem good_get {L : List Nd} (h : Good L) {i j : Nat} (hij : i < j) (hj : j < L.length) : (L.getD i nz).1 < (L.getD j nz).1 := by
  have := List.pairwise_iff_getElem.1 h.ids i j (by omega) hj hij
  rw [List.getD_eq_getElem?_getD, List.getD_eq_getElem?_getD, List.getElem?_eq_getElem (by omega), List.getElem?_eq_getElem hj]
  exact this
theorem lt_split : ∀ (L : List Nd) (x : Int), Good L → (∀ n ∈ L.take (ltN L x), n.1 < x) ∧ (∀ n ∈ L.drop (ltN L x), x ≤ n.1) := by
  intro L x
  induction L with
  | nil => intro _; simp
  | cons n L ih =>
    intro h
    have i := ih (nd_tail h)
    have q0 := (List.pairwise_cons.1 h.ids).1
    by_cases q : n.1 < x
    · have e : ltN (n :: L) x = ltN L x + 1 := by unfold ltN; rw [List.countP_cons_of_pos (by simpa using q)]
      rw [e]
      refine ⟨fun m hm => ?_, fun m hm => i.2 m (by simpa using hm)⟩
      rw [List.take_succ_cons] at hm
      rcases List.mem_cons.1 hm with rfl | hm
      · exact q
      · exact i.1 m hm
    · have e : ltN (n :: L) x = 0 := by
        unfold ltN
        rw [List.countP_eq_zero]
        intro m hm
        rcases List.mem_cons.1 hm with rfl | hm
        · simpa using q
        · have := q0 m hm; simp; omega
      rw [e]
      refine ⟨fun m hm => by simp at hm, fun m hm => ?_⟩
      rw [List.drop_zero] at hm
      rcases List.mem_cons.1 hm with rfl | hm
      · omega
      · have := q0 m hm; omega
theorem le_le (L : List Nd) (x : Int) : leN L x ≤ L.length := List.countP_le_length
theorem le_lt (L : List Nd) (x : Int) : leN L x = ltN L (x + 1) := by
  unfold leN ltN
  refine List.countP_congr fun n _ => ?_
  simp; omega
theorem mem_take_get {L : List Nd} {k m : Nat} (h : k < m) (hk : k < L.length) : L.getD k nz ∈ L.take m := by
  have e : (L.take m).getD k nz = L.getD k nz := by
    rw [List.getD_eq_getElem?_getD, List.getD_eq_getElem?_getD, List.getElem?_take_of_lt h]
  rw [← e]
  exact nd_mem (by rw [List.length_take]; omega)
theorem mem_drop_get {L : List Nd} {k m : Nat} (h : m ≤ k) (hk : k < L.length) : L.getD k nz ∈ L.drop m := by
  have e : (L.drop m).getD (k - m) nz = L.getD k nz := by
    rw [List.getD_eq_getElem?_getD, List.getD_eq_getElem?_getD, List.getElem?_drop, show m + (k - m) = k by omega]
  rw [← e]
  exact nd_mem (by rw [List.length_drop]; omega)
/-- which places are below x -/
theorem lt_at {L : List Nd} (h : Good L) (x : Int) {k : Nat} (hk : k < L.length) : decide ((L.getD k nz).1 ≥ x) = decide (ltN L x ≤ k) := by
  have s := lt_split L x h
  by_cases q : ltN L x ≤ k
  · have := s.2 _ (mem_drop_get q hk)
    simp only [decide_eq_decide]; omega
  · have := s.1 _ (mem_take_get (by omega) hk)
    simp only [decide_eq_decide]; omega
theorem le_at {L : List Nd} (h : Good L) (x : Int) {k : Nat} (hk : k < L.length) : decide ((L.getD k nz).1 > x) = decide (leN L x ≤ k) := by
  rw [le_lt, ← lt_at h (x + 1) hk]
  simp only [decide_eq_decide]; omega
end Go.Proofs.YtmfdpaahklndnaaGreat
namespace Go.Proofs.YtmfdpaahklndnaaGreat
set_option linter.unusedVariables false
theorem ins_same : ∀ (P : List Nd) (n : Nd) (x c : Int), (∀ m ∈ P, m.1 < x) → n.1 = x → insW (P ++ [n]) x c = P ++ [(n.1, n.2 + c)] := by
  intro P
  induction P with
  | nil => intro n x c _ h; simp [insW, h]
  | cons m P ih =>
    intro n x c h e
    have := h m (by simp)
    rw [List.cons_append, insW, if_neg (by omega), if_neg (by omega), ih n x c (fun q hq => h q (by simp [hq])) e]; rfl
theorem ins_ahead : ∀ (P : List Nd) (n : Nd) (x c : Int), (∀ m ∈ P, m.1 < x) → x < n.1 → insW (P ++ [n]) x c = P ++ [(x, c)] ++ [n] := by
  intro P
  induction P with
  | nil => intro n x c _ h; simp [insW, h]
  | cons m P ih =>
    intro n x c h e
    have := h m (by simp)
    rw [List.cons_append, insW, if_neg (by omega), if_neg (by omega), ih n x c (fun q hq => h q (by simp [hq])) e]; rfl
theorem ins_done : ∀ (P : List Nd) (n : Nd) (x c : Int), (∃ m ∈ P, x ≤ m.1) → insW (P ++ [n]) x c = insW P x c ++ [n] := by
  intro P
  induction P with
  | nil => intro n x c ⟨m, h, _⟩; simp at h
  | cons m P ih =>
    intro n x c ⟨q, hq, e⟩
    rw [List.cons_append, insW, insW]
    by_cases h1 : x < m.1
    · rw [if_pos h1, if_pos h1]; rfl
    · rw [if_neg h1, if_neg h1]
      by_cases h2 : m.1 = x
      · rw [if_pos h2, if_pos h2]; rfl
      · rw [if_neg h2, if_neg h2, ih n x c]; rfl
        rcases List.mem_cons.1 hq with rfl | hq
        · omega
        · exact ⟨q, hq, e⟩
/-- what the walk over the list has put out -/
def PutI (L : List Nd) (x c : Int) (k : Nat) (d : Bool) (R : List Nd) : Prop := (d = false ∧ R = L.take k ∧ ∀ n ∈ L.take k, n.1 < x) ∨ (d = true ∧ R = insW (L.take k) x c ∧ ∃ n ∈ L.take k, x ≤ n.1)
theorem PutI.len {L R : List Nd} {x c : Int} {k : Nat} {d : Bool} (h : PutI L x c k d R) : R.length ≤ k + 1 := by
  rcases h with ⟨_, rfl, _⟩ | ⟨_, rfl, _⟩
  · rw [List.length_take]; omega
  · have := insW_le (L.take k) x c; rw [List.length_take] at this; omega
/-- a value that is the one -/
theorem PutI.same {L R : List Nd} {x c : Int} {k : Nat} {d : Bool} (g : Good L) (hk : k < L.length) (h : PutI L x c k d R) (e : (L.getD k nz).1 = x) : PutI L x c (k + 1) true (R ++ [((L.getD k nz).1, (L.getD k nz).2 + c)]) := by
  rcases h with ⟨_, rfl, h⟩ | ⟨_, _, n, hn, hx⟩
  · exact .inr ⟨rfl, by rw [nd_take hk, ins_same _ _ _ _ h e], L.getD k nz, by rw [nd_take hk]; exact List.mem_append_right _ (List.mem_singleton.2 rfl), by omega⟩
  · exfalso
    obtain ⟨j, hj, e2⟩ := List.mem_iff_getElem.1 hn
    rw [List.length_take] at hj
    have a := good_get g (i := j) (j := k) (by omega) hk
    have b : L.getD j nz = n := by
      rw [← e2, List.getElem_take, List.getD_eq_getElem?_getD, List.getElem?_eq_getElem (by omega)]; rfl
    rw [b] at a
    omega
theorem PutI.ahead {L R : List Nd} {x c : Int} {k : Nat} (hk : k < L.length) (h : PutI L x c k false R) (e : x < (L.getD k nz).1) : PutI L x c (k + 1) true (R ++ [(x, c)] ++ [L.getD k nz]) := by
  rcases h with ⟨_, rfl, h⟩ | ⟨q, _⟩
  · exact .inr ⟨rfl, by rw [nd_take hk, ins_ahead _ _ _ _ h e], L.getD k nz, by rw [nd_take hk]; exact List.mem_append_right _ (List.mem_singleton.2 rfl), by omega⟩
  · cases q
theorem PutI.done {L R : List Nd} {x c : Int} {k : Nat} (hk : k < L.length) (h : PutI L x c k true R) : PutI L x c (k + 1) true (R ++ [L.getD k nz]) := by
  rcases h with ⟨q, _⟩ | ⟨_, rfl, n, hn, hx⟩
  · cases q
  · exact .inr ⟨rfl, by rw [nd_take hk, ins_done _ _ _ _ ⟨n, hn, hx⟩], n, by rw [nd_take hk]; simp [hn], hx⟩
theorem PutI.before {L R : List Nd} {x c : Int} {k : Nat} {d : Bool} (g : Good L) (hk : k < L.length) (h : PutI L x c k d R) (e : (L.getD k nz).1 < x) : d = false ∧ PutI L x c (k + 1) false (R ++ [L.getD k nz]) := by
  rcases h with ⟨rfl, rfl, h⟩ | ⟨_, _, n, hn, hx⟩
  · refine ⟨rfl, .inl ⟨rfl, by rw [nd_take hk], fun n hn => ?_⟩⟩
    rw [nd_take hk] at hn
    rcases List.mem_append.1 hn with hn | hn
    · exact h n hn
    · simp at hn; rw [hn]; exact e
  · exfalso
    obtain ⟨j, hj, e2⟩ := List.mem_iff_getElem.1 hn
    rw [List.length_take] at hj
    have a := good_get g (i := j) (j := k) (by omega) hk
    have b : L.getD j nz = n := by
      rw [← e2, List.getElem_take, List.getD_eq_getElem?_getD, List.getElem?_eq_getElem (by omega)]; rfl
    rw [b] at a
    omega
end Go.Proofs.YtmfdpaahklndnaaGreat
namespace Go.Proofs.YtmfdpaahklndnaaGreat
set_option linter.unusedVariables false
theorem wtF_app (P : Int → Bool) (L M : List Nd) : wtF P (L ++ M) = wtF P L + wtF P M := by
  induction L with
  | nil => simp [wtF]
  | cons n L ih => simp only [List.cons_append, wtF, ih]; omega
theorem wtF_take (P : Int → Bool) {L : List Nd} {k : Nat} (hk : k < L.length) : wtF P (L.take (k + 1)) = wtF P (L.take k) + (if P (L.getD k nz).1 = true then (L.getD k nz).2 else 0) := by
  rw [nd_take hk, wtF_app]
  simp only [wtF]
  omega
theorem wtF_bd (P : Int → Bool) {L : List Nd} (h : ∀ n ∈ L, 0 ≤ n.2) : 0 ≤ wtF P L ∧ wtF P L ≤ sumC L := by
  induction L with
  | nil => exact ⟨Int.le_refl _, Int.le_refl _⟩
  | cons n L ih =>
    have a := h n (by simp)
    have b := ih fun m hm => h m (by simp [hm])
    simp only [wtF, sumC]
    split <;> omega
theorem wtF_congr {P Q : Int → Bool} {L : List Nd} (h : ∀ n ∈ L, P n.1 = Q n.1) : wtF P L = wtF Q L := by
  induction L with
  | nil => rfl
  | cons n L ih => simp only [wtF, h n (by simp), ih fun m hm => h m (by simp [hm])]
end Go.Proofs.YtmfdpaahklndnaaGreat
namespace Go.Proofs.YtmfdpaahklndnaaGreat
set_option linter.unusedVariables false
theorem wtF_eq {P Q : Int → Bool} {L : List Nd} (h : ∀ n ∈ L, P n.1 = Q n.1) : wtF P L = wtF Q L := by
  induction L with
  | nil => rfl
  | cons n L ih => simp only [wtF, h n (by simp), ih fun m hm => h m (by simp [hm])]
end Go.Proofs.YtmfdpaahklndnaaGreat
namespace Go.Proofs.YtmfdpaahklndnaaGreat
set_option linter.unusedVariables false
end Go.Proofs.YtmfdpaahklndnaaGreat
namespace Go.Proofs.YtmfdpaahklndnaaGreat
set_option linter.unusedVariables false
structure DgV (l k : Int) (L : List Nd) : Prop where
  k1 : 1 ≤ k
  k2 : k ≤ 1048576
  roll : RollC l L
  len : (L.length : Int) ≤ 8 * k
  light : LightC l (sumC L / k) L
end Go.Proofs.YtmfdpaahklndnaaGreat
namespace Go.Proofs.YtmfdpaahklndnaaGreat
set_option linter.unusedVariables false
set_option maxRecDepth 100000
open Go.RowKit
/-- the blocks of a digest -/
def dgF (q p g h : Nat) : Nat → Prop := fun i => i = q ∨ poF p g h i
/-- the cells of a digest's box -/
def dgCells (l k kd : Int) (p : Nat) : List Value := [.int .i64 l, .int .i64 k, .int .i64 kd, .pointer (some ⟨p, 0, none⟩)]
structure DgA (w : World) (B q p g h : Nat) (kd l k : Int) (n : Nat) (L : List Nd) : Prop where
  top : w.ownsRow B 110 4 (.slice (some ⟨q, 0, none⟩) 1 1) 1 (dgCells l k kd p)
  po : PoA w B p g h kd l n L
  v : DgV l k L
section
variable {w w' : World} {B q p g h : Nat} {kd l k : Int} {n : Nat} {L : List Nd}
theorem DgA.below (d : DgA w B q p g h kd l k n L) (hb : Below w.heap.size w w') : DgA w' B q p g h kd l k n L := ⟨own_below d.top hb, d.po.below hb, d.v⟩
theorem DgA.low {B2 : Nat} (d : DgA w B q p g h kd l k n L) (hB : B2 ≤ B) : DgA w B2 q p g h kd l k n L := ⟨own_low d.top hB, d.po.low hB, d.v⟩
theorem DgA.more {m : Nat} (d : DgA w B q p g h kd l k n L) (hm : n ≤ m) : DgA w B q p g h kd l k m L := ⟨d.top, d.po.more hm, d.v⟩
theorem DgA.lt (d : DgA w B q p g h kd l k n L) : ∀ i, dgF q p g h i → B ≤ i ∧ i < w.heap.size := fun i f => by
  rcases f with rfl | f
  · exact d.top.lt i rfl
  · have a := d.po.lt
    rcases f with f | f | f <;> omega
theorem DgA.kp {F : Nat → Prop} (d : DgA w B q p g h kd l k n L) (c : Kp F w w') (f : ∀ i, F i → ¬ dgF q p g h i) : DgA w' B q p g h kd l k n L :=
  ⟨own_kp d.top c fun i e fi => f i fi (.inl (by simp only [Value.ownBlock, Option.some.injEq] at e; exact e.symm)), d.po.kp c fun i fi z => f i fi (.inr z), d.v⟩
theorem DgA.cells (d : DgA w B q p g h kd l k n L) : w.cell? ⟨q, 0, none⟩ = some (.int .i64 l) ∧ w.cell? ⟨q, 1, none⟩ = some (.int .i64 k) ∧ w.cell? ⟨q, 2, none⟩ = some (.int .i64 kd) ∧ w.cell? ⟨q, 3, none⟩ = some (.pointer (some ⟨p, 0, none⟩)) :=
  ⟨d.top.cellAt 0 (by omega), d.top.cellAt 1 (by omega), d.top.cellAt 2 (by omega), d.top.cellAt 3 (by omega)⟩
theorem DgA.free (d : DgA w B q p g h kd l k n L) (i : Nat) : w.frozen? ⟨q, i, none⟩ = false := d.top.frozenAt i
end
end Go.Proofs.YtmfdpaahklndnaaGreat
namespace Go.Proofs.YtmfdpaahklndnaaGreat
set_option linter.unusedVariables false
set_option maxRecDepth 100000
open Go.RowKit
/-- a box of three cells, stored anew -/
theorem tri_set {TS : TypeId} {w : World} {B q : Nat} {x y z : Value} (r : w.ownsRow B TS 3 (.slice (some ⟨q, 0, none⟩) 1 1) 1 [x, y, z]) (a b c : Value) :
    (((w.setCell ⟨q, 0, none⟩ a).setCell ⟨q, 1, none⟩ b).setCell ⟨q, 2, none⟩ c).ownsRow B TS 3 (.slice (some ⟨q, 0, none⟩) 1 1) 1 [a, b, c] ∧
    (∀ (base : Nat) (e : TypeId) (size n : Nat) (v : Value) (ys : List Value), e ≠ TS → w.ownsRow base e size v n ys → (((w.setCell ⟨q, 0, none⟩ a).setCell ⟨q, 1, none⟩ b).setCell ⟨q, 2, none⟩ c).ownsRow base e size v n ys) ∧
    Below B w (((w.setCell ⟨q, 0, none⟩ a).setCell ⟨q, 1, none⟩ b).setCell ⟨q, 2, none⟩ c) ∧
    (∀ (base : Nat) (e : TypeId) (size n : Nat) (v : Value) (ys : List Value), v.ownBlock ≠ some q → w.ownsRow base e size v n ys → (((w.setCell ⟨q, 0, none⟩ a).setCell ⟨q, 1, none⟩ b).setCell ⟨q, 2, none⟩ c).ownsRow base e size v n ys) := by
  have s0 := World.ownsRow.stored r 0 a
  have s1 := World.ownsRow.stored s0.1 1 b
  have s2 := World.ownsRow.stored s1.1 2 c
  have hB := (r.lt q rfl).1
  refine ⟨s2.1, fun base e size n v ys he o => ?_, (((Below.refl _ _).setCell (p := ⟨q, 0, none⟩) hB a).setCell (p := ⟨q, 1, none⟩) hB b).setCell (p := ⟨q, 2, none⟩) hB c, fun base e size n v ys he o => ?_⟩
  · have o1 := o.kept s0.2 (own_apart o r he)
    have o2 := o1.kept s1.2 (own_apart o1 s0.1 he)
    exact o2.kept s2.2 (own_apart o2 s1.1 he)
  · exact ((o.kept s0.2 (.inr he)).kept s1.2 (.inr he)).kept s2.2 (.inr he)
/-- all that is asked of a box of three cells -/
theorem tri_all {TS : TypeId} {w : World} {B q : Nat} {x y z : Value} (r : w.ownsRow B TS 3 (.slice (some ⟨q, 0, none⟩) 1 1) 1 [x, y, z]) :
    w.cell? ⟨q, 0, none⟩ = some x ∧ w.cell? ⟨q, 1, none⟩ = some y ∧ w.cell? ⟨q, 2, none⟩ = some z ∧ w.frozen? ⟨q, 0, none⟩ = false ∧ w.frozen? ⟨q, 1, none⟩ = false ∧ w.frozen? ⟨q, 2, none⟩ = false ∧ q < w.heap.size :=
  ⟨r.cellAt 0 (by omega), r.cellAt 1 (by omega), r.cellAt 2 (by omega), r.frozenAt 0, r.frozenAt 1, r.frozenAt 2, (r.lt q rfl).2⟩
/-- a result of three cells, read behind its store -/
theorem set_three {TS : TypeId} {w : World} {B q : Nat} {x y z : Value} (r : w.ownsRow B TS 3 (.slice (some ⟨q, 0, none⟩) 1 1) 1 [x, y, z]) (a b c : Value) :
    (((w.setCell ⟨q, 0, none⟩ a).setCell ⟨q, 1, none⟩ b).setCell ⟨q, 2, none⟩ c).cell? ⟨q, 0, none⟩ = some a ∧ (((w.setCell ⟨q, 0, none⟩ a).setCell ⟨q, 1, none⟩ b).setCell ⟨q, 2, none⟩ c).cell? ⟨q, 1, none⟩ = some b ∧ (((w.setCell ⟨q, 0, none⟩ a).setCell ⟨q, 1, none⟩ b).setCell ⟨q, 2, none⟩ c).cell? ⟨q, 2, none⟩ = some c := by
  have t := tri_all (tri_set r a b c).1
  exact ⟨t.1, t.2.1, t.2.2.1⟩
theorem tri_nw (w : World) (TO : TypeId) (a b c : Value) : (w.alloc (.cells #[a, b, c] TO)).ownsRow w.heap.size TO 3 (.slice (some ⟨w.heap.size, 0, none⟩) 1 1) 1 [a, b, c] :=
  World.ownsRow_lit (base := w.heap.size) (e := TO) (size := 3) w #[a, b, c] 1 (Nat.le_refl _) (by unfold maxLen; omega) rfl
theorem quad_new (w : World) (TO : TypeId) (a b c d : Value) : (w.alloc (.cells #[a, b, c, d] TO)).ownsRow w.heap.size TO 4 (.slice (some ⟨w.heap.size, 0, none⟩) 1 1) 1 [a, b, c, d] :=
  World.ownsRow_lit (base := w.heap.size) (e := TO) (size := 4) w #[a, b, c, d] 1 (Nat.le_refl _) (by unfold maxLen; omega) rfl
theorem quad_all {TS : TypeId} {w : World} {B q : Nat} {x y z u : Value} (r : w.ownsRow B TS 4 (.slice (some ⟨q, 0, none⟩) 1 1) 1 [x, y, z, u]) :
    w.cell? ⟨q, 0, none⟩ = some x ∧ w.cell? ⟨q, 1, none⟩ = some y ∧ w.cell? ⟨q, 2, none⟩ = some z ∧ w.cell? ⟨q, 3, none⟩ = some u ∧ w.frozen? ⟨q, 0, none⟩ = false ∧ w.frozen? ⟨q, 1, none⟩ = false ∧ w.frozen? ⟨q, 2, none⟩ = false ∧ w.frozen? ⟨q, 3, none⟩ = false ∧ q < w.heap.size :=
  ⟨r.cellAt 0 (by omega), r.cellAt 1 (by omega), r.cellAt 2 (by omega), r.cellAt 3 (by omega), r.frozenAt 0, r.frozenAt 1, r.frozenAt 2, r.frozenAt 3, (r.lt q rfl).2⟩
end Go.Proofs.YtmfdpaahklndnaaGreat
namespace Go.Proofs.YtmfdpaahklndnaaGreat
set_option linter.unusedVariables false
set_option maxRecDepth 100000
open Go.RowKit
/-- why there is no digest of these nodes: 0 where there is one -/
def dgLdE (kd l k : Int) (L : List Nd) : Int := if kIs k = true ∧ isP kd l = true then (if rollB l L = true then (if (L.length : Int) ≤ 8 * k ∧ lightB l L k = true then 0 else 13) else 10) else 2
theorem dgLdE_conf {kd l k : Int} {L : List Nd} (h : ¬ (kIs k = true ∧ isP kd l = true)) : dgLdE kd l k L = 2 := if_neg h
theorem dgLdE_form {kd l k : Int} {L : List Nd} (h1 : kIs k = true) (h2 : isP kd l = true) (h3 : rollB l L = false) : dgLdE kd l k L = 10 := by
  unfold dgLdE; rw [if_pos ⟨h1, h2⟩, if_neg (by rw [h3]; simp)]
theorem dgLdE_cap {kd l k : Int} {L : List Nd} (h1 : kIs k = true) (h2 : isP kd l = true) (h3 : rollB l L = true) (h4 : ¬ ((L.length : Int) ≤ 8 * k ∧ lightB l L k = true)) : dgLdE kd l k L = 13 := by
  unfold dgLdE; rw [if_pos ⟨h1, h2⟩, if_pos h3, if_neg h4]
theorem dgLdE_ok {kd l k : Int} {L : List Nd} (h1 : kIs k = true) (h2 : isP kd l = true) (h3 : rollB l L = true) (h4 : (L.length : Int) ≤ 8 * k) (h5 : lightB l L k = true) : dgLdE kd l k L = 0 := by
  unfold dgLdE; rw [if_pos ⟨h1, h2⟩, if_pos h3, if_pos ⟨h4, h5⟩]
theorem light_c {l k : Int} {L : List Nd} (h : lightB l L k = true) : LightC l (sumC L / k) L := by
  unfold lightB at h
  rw [Bool.and_eq_true] at h
  exact of_decide_eq_true h.2
end Go.Proofs.YtmfdpaahklndnaaGreat
