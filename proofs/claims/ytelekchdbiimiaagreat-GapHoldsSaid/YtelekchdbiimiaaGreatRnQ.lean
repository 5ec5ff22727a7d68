/- Texts laid together: RnkSum, RkMul, RnkE, RnkP. -/
import Derived.Test.YtelekchdbiimiaaGreatDgQ
import Derived.Test.YtelekchdbiimiaaGreatBlN
import Derived.Test.YtelekchdbiimiaaGreatDgN
import Derived.Test.YtelekchdbiimiaaGreatRkT
import Derived.Deep.RegionWith
namespace Go.Proofs.YtelekchdbiimiaaGreat
set_option linter.unusedVariables false
/-- up to y -/
def rkP (y : Int) : Int → Bool := fun v => decide (v ≤ y)
theorem low_up (l : Int) (L : List Nd) (y : Int) : lowR l L y = wtF (rkP y) (mapN (hiN l) L) := by rw [wt_map]; rfl
theorem high_up (l : Int) (L : List Nd) (y : Int) : highR l L y = wtF (rkP y) (mapN (loN l) L) := by rw [wt_map]; rfl
theorem wtF_perm {P : Int → Bool} {L M : List Nd} (h : L.Perm M) : wtF P L = wtF P M := by
  induction h with
  | nil => rfl
  | cons x _ ih => simp [wtF, ih]
  | swap x y l => simp only [wtF]; omega
  | trans _ _ a b => exact a.trans b
theorem wtF_mem {P : Int → Bool} {L : List Nd} (h : NonNeg L) {m : Nd} (hm : m ∈ L) (hp : P m.1 = true) : m.2 ≤ wtF P L := by
  induction L with
  | nil => simp at hm
  | cons n L ih =>
    have b := wtF_bd P (L := L) fun x hx => h x (List.mem_cons_of_mem _ hx)
    have n0 := h n (by simp)
    rcases List.mem_cons.1 hm with q | q
    · subst q; simp only [wtF, hp, if_true]; omega
    · have := ih (fun x hx => h x (List.mem_cons_of_mem _ hx)) q
      simp only [wtF]; split <;> omega
theorem wtF_full {P : Int → Bool} {L : List Nd} (h : ∀ n ∈ L, P n.1 = true) : wtF P L = sumC L := by
  rw [← wtF_all]
  exact wtF_congr fun n hn => h n hn
theorem wtF_zero {P : Int → Bool} {L : List Nd} (h : ∀ n ∈ L, P n.1 = false) : wtF P L = 0 := by
  rw [← wtF_none L]
  exact wtF_congr fun n hn => h n hn
/-- S tells what T's values weigh, each with those below it -/
structure SumI (T S : List Nd) : Prop where
  rise : S.Pairwise (fun a b => a.1 < b.1)
  mem : ∀ y, (∃ p ∈ S, p.1 = y) ↔ ∃ p ∈ T, p.1 = y
  wt : ∀ p ∈ S, p.2 = wtF (rkP p.1) T
theorem SumI.nil : SumI [] [] := ⟨List.Pairwise.nil, fun y => by simp, fun p h => by simp at h⟩
theorem SumI.perm {T T' S : List Nd} (h : SumI T S) (p : T.Perm T') : SumI T' S :=
  ⟨h.rise, fun y => (h.mem y).trans ⟨fun ⟨q, a, b⟩ => ⟨q, p.mem_iff.1 a, b⟩, fun ⟨q, a, b⟩ => ⟨q, p.mem_iff.2 a, b⟩⟩, fun q hq => (h.wt q hq).trans (wtF_perm p)⟩
theorem SumI.good {T S : List Nd} (h : SumI T S) (p : ∀ n ∈ T, 1 ≤ n.2) : Good S :=
  ⟨h.rise, fun n hn => by
    obtain ⟨m, hm, e⟩ := (h.mem n.1).1 ⟨n, hn, rfl⟩
    have a := wtF_mem (P := rkP n.1) (L := T) (fun x hx => by have := p x hx; omega) hm (decide_eq_true (by omega))
    rw [h.wt n hn]
    have := p m hm
    omega⟩
theorem up_snoc (T : List Nd) (v : Nd) (y : Int) : wtF (rkP y) (T ++ [v]) = wtF (rkP y) T + (if v.1 ≤ y then v.2 else 0) := by
  rw [wtF_app]
  simp only [wtF, rkP]
  by_cases h : v.1 ≤ y <;> simp [h]
/-- the last value once more -/
theorem SumI.same {T A : List Nd} {a v : Nd} (h : SumI T (A ++ [a])) (e : a.1 = v.1) (asc : ∀ p ∈ T, p.1 ≤ v.1) : SumI (T ++ [v]) (A ++ [(v.1, sumC (T ++ [v]))]) := by
  have r := List.pairwise_append.1 h.rise
  refine ⟨List.pairwise_append.2 ⟨r.1, by simp, fun x hx y hy => ?_⟩, fun y => ?_, fun p hp => ?_⟩
  · simp at hy; subst hy
    have := r.2.2 x hx a (by simp)
    show x.1 < v.1
    omega
  · constructor
    · rintro ⟨p, hp, q⟩
      rcases List.mem_append.1 hp with hp | hp
      · obtain ⟨m, hm, f⟩ := (h.mem y).1 ⟨p, by simp [hp], q⟩
        exact ⟨m, by simp [hm], f⟩
      · simp at hp; subst hp; exact ⟨v, by simp, q⟩
    · rintro ⟨p, hp, q⟩
      rcases List.mem_append.1 hp with hp | hp
      · obtain ⟨m, hm, f⟩ := (h.mem y).2 ⟨p, hp, q⟩
        rcases List.mem_append.1 hm with hm | hm
        · exact ⟨m, by simp [hm], f⟩
        · simp at hm; subst hm; exact ⟨(v.1, sumC (T ++ [v])), by simp, by show v.1 = y; omega⟩
      · simp at hp; subst hp; exact ⟨(p.1, sumC (T ++ [p])), by simp, q⟩
  · rcases List.mem_append.1 hp with hp | hp
    · have := r.2.2 p hp a (by simp)
      rw [h.wt p (by simp [hp]), up_snoc, if_neg (by omega)]; omega
    · simp at hp; subst hp
      refine (wtF_full fun n hn => decide_eq_true ?_).symm
      rcases List.mem_append.1 hn with hn | hn
      · exact asc n hn
      · simp at hn; subst hn; exact Int.le_refl _
/-- a greater value -/
theorem SumI.more {T S : List Nd} {v : Nd} (h : SumI T S) (lt : ∀ p ∈ S, p.1 < v.1) : SumI (T ++ [v]) (S ++ [(v.1, sumC (T ++ [v]))]) := by
  refine ⟨List.pairwise_append.2 ⟨h.rise, by simp, fun x hx y hy => ?_⟩, fun y => ?_, fun p hp => ?_⟩
  · simp at hy; subst hy; exact lt x hx
  · constructor
    · rintro ⟨p, hp, q⟩
      rcases List.mem_append.1 hp with hp | hp
      · obtain ⟨m, hm, f⟩ := (h.mem y).1 ⟨p, hp, q⟩
        exact ⟨m, by simp [hm], f⟩
      · simp at hp; subst hp; exact ⟨v, by simp, q⟩
    · rintro ⟨p, hp, q⟩
      rcases List.mem_append.1 hp with hp | hp
      · obtain ⟨m, hm, f⟩ := (h.mem y).2 ⟨p, hp, q⟩
        exact ⟨m, by simp [hm], f⟩
      · simp at hp; subst hp; exact ⟨(p.1, sumC (T ++ [p])), by simp, q⟩
  · rcases List.mem_append.1 hp with hp | hp
    · have := lt p hp
      rw [h.wt p hp, up_snoc, if_neg (by omega)]; omega
    · simp at hp; subst hp
      refine (wtF_full fun n hn => decide_eq_true ?_).symm
      rcases List.mem_append.1 hn with hn | hn
      · obtain ⟨m, hm, f⟩ := (h.mem n.1).2 ⟨n, hn, rfl⟩
        have := lt m hm
        show n.1 ≤ v.1
        omega
      · simp at hn; subst hn; exact Int.le_refl _
theorem SumI.lt {T S : List Nd} {v : Nd} (h : SumI T S) (asc : ∀ p ∈ T, p.1 ≤ v.1) (ne : ∀ k, S.length = k + 1 → (S.getD k nz).1 ≠ v.1) : ∀ p ∈ S, p.1 < v.1 := by
  have le : ∀ p ∈ S, p.1 ≤ v.1 := fun p hp => by
    obtain ⟨m, hm, e⟩ := (h.mem p.1).1 ⟨p, hp, rfl⟩
    have := asc m hm
    omega
  rcases List.eq_nil_or_concat S with e | ⟨A, a, e⟩
  · subst e; intro p hp; simp at hp
  · rw [List.concat_eq_append] at e
    subst e
    have r := List.pairwise_append.1 h.rise
    have na : a.1 ≠ v.1 := by
      have := ne A.length (by simp)
      rw [List.getD_eq_getElem?_getD] at this
      simpa using this
    have la := le a (by simp)
    intro p hp
    rcases List.mem_append.1 hp with hp | hp
    · have := r.2.2 p hp a (by simp); omega
    · simp at hp; subst hp; omega
theorem SumI.put {T S : List Nd} {v : Nd} {k : Nat} (h : SumI T S) (hk : S.length = k + 1) (e : (S.getD k nz).1 = v.1) (asc : ∀ p ∈ T, p.1 ≤ v.1) : SumI (T ++ [v]) (S.set k (v.1, sumC (T ++ [v]))) := by
  rcases List.eq_nil_or_concat S with q | ⟨A, a, q⟩
  · subst q; simp at hk
  · rw [List.concat_eq_append] at q
    subst q
    have hA : A.length = k := by simpa using hk
    have ea : a.1 = v.1 := by
      rw [← hA, List.getD_eq_getElem?_getD] at e
      simpa using e
    rw [← hA, List.set_append_right _ _ (Nat.le_refl _), Nat.sub_self, List.set_cons_zero]
    exact h.same ea asc
/-- what weighs up to x -/
def rkAt (S : List Nd) (x : Int) : Int := if leN S x = 0 then 0 else (S.getD (leN S x - 1) nz).2
theorem SumI.at {T S : List Nd} (h : SumI T S) (p : ∀ n ∈ T, 1 ≤ n.2) (x : Int) : rkAt S x = wtF (rkP x) T := by
  have g := h.good p
  unfold rkAt
  by_cases z : leN S x = 0
  · rw [if_pos z]
    refine (wtF_zero fun n hn => decide_eq_false ?_).symm
    obtain ⟨m, hm, e⟩ := (h.mem n.1).2 ⟨n, hn, rfl⟩
    obtain ⟨j, hj, ej⟩ := List.mem_iff_getElem.1 hm
    have a := le_at g x hj
    rw [z, decide_eq_true (Nat.zero_le j)] at a
    have a := of_decide_eq_true a
    rw [List.getD_eq_getElem?_getD, List.getElem?_eq_getElem hj] at a
    simp at a
    rw [ej] at a
    omega
  · rw [if_neg z]
    have hl := le_le S x
    have hk : leN S x - 1 < S.length := by omega
    have hm := nd_mem hk
    rw [h.wt _ hm]
    have a := le_at g x hk
    rw [decide_eq_false (by omega : ¬ leN S x ≤ leN S x - 1)] at a
    have a := of_decide_eq_false a
    refine wtF_congr fun n hn => ?_
    unfold rkP
    refine decide_eq_decide.2 ⟨fun q => by omega, fun q => ?_⟩
    obtain ⟨m, hm, e⟩ := (h.mem n.1).2 ⟨n, hn, rfl⟩
    obtain ⟨j, hj, ej⟩ := List.mem_iff_getElem.1 hm
    have b := le_at g x hj
    rw [List.getD_eq_getElem?_getD, List.getElem?_eq_getElem hj] at b
    simp only [Option.getD_some, ej] at b
    rw [decide_eq_false (by omega : ¬ m.1 > x)] at b
    have b := of_decide_eq_false b.symm
    rw [List.getD_eq_getElem?_getD, List.getElem?_eq_getElem hk]
    simp only [Option.getD_some]
    rcases Nat.lt_or_ge j (leN S x - 1) with c | c
    · have := List.pairwise_iff_getElem.1 h.rise j (leN S x - 1) hj hk c
      rw [ej] at this
      omega
    · have c : j = leN S x - 1 := by omega
      subst c
      rw [ej]; omega
theorem rise_map : ∀ {S : List Nd}, S.Pairwise (fun a b => a.1 < b.1) → RiseI (S.map fun n => n.1)
  | [], _ => trivial
  | n :: S, h => by
    have q := List.pairwise_cons.1 h
    exact ⟨fun y hy => by obtain ⟨m, hm, e⟩ := List.mem_map.1 hy; have := q.1 m hm; subst e; exact this, rise_map q.2⟩
theorem SumI.steps {l : Int} {L S : List Nd} (h : SumI (mapN (hiN l) L) S) : S.map (fun n => n.1) = stepsN l L := by
  refine rise_uniq (rise_map h.rise) (steps_rise l L) fun y => ?_
  rw [steps_mem, List.mem_map]
  refine (h.mem y).trans ⟨?_, ?_⟩
  · rintro ⟨p, hp, e⟩
    obtain ⟨n, hn, q⟩ := List.mem_map.1 (show p ∈ L.map fun n => (hiN l n.1, n.2) from hp)
    subst q
    exact ⟨n, hn, e⟩
  · rintro ⟨n, hn, e⟩
    exact ⟨(hiN l n.1, n.2), List.mem_map.2 ⟨n, hn, rfl⟩, e⟩
theorem SumI.len {T S : List Nd} (h : SumI T S) : S.length ≤ T.length := by
  have key : ∀ (S T : List Nd), S.Pairwise (fun a b => a.1 < b.1) → (∀ p ∈ S, ∃ q ∈ T, q.1 = p.1) → S.length ≤ T.length := by
    intro S
    induction S with
    | nil => intro T _ _; simp
    | cons p S ih =>
      intro T r m
      obtain ⟨q, hq, e⟩ := m p (by simp)
      have rr := List.pairwise_cons.1 r
      have z := ih (T.erase q) rr.2 fun x hx => by
        obtain ⟨y, hy, f⟩ := m x (by simp [hx])
        have lt := rr.1 x hx
        exact ⟨y, (List.mem_erase_of_ne (fun c => by subst c; omega)).2 hy, f⟩
      rw [List.length_erase_of_mem hq] at z
      have := List.length_pos_of_mem hq
      simp only [List.length_cons]
      omega
  exact key S T h.rise fun p hp => (h.mem p.1).1 ⟨p, hp, rfl⟩
theorem mapN_take (f : Int → Int) (L : List Nd) {k : Nat} (hk : k < L.length) : mapN f (L.take (k + 1)) = mapN f (L.take k) ++ [(f (L.getD k nz).1, (L.getD k nz).2)] := by
  have g : L.getD k nz = L[k] := by simp [List.getD_eq_getElem?_getD, hk]
  unfold mapN
  rw [List.take_succ_eq_append_getElem hk, List.map_append, g]
  rfl
theorem asc_take {T : List Nd} (h : T.Pairwise (fun a b => a.1 ≤ b.1)) {k : Nat} (hk : k < T.length) : ∀ p ∈ T.take k, p.1 ≤ (T.getD k nz).1 := by
  intro p hp
  obtain ⟨j, hj, e⟩ := List.mem_iff_getElem.1 hp
  have hj2 : j < k ∧ j < T.length := by rw [List.length_take] at hj; omega
  have a := List.pairwise_iff_getElem.1 h j k hj2.2 hk hj2.1
  rw [List.getElem_take] at e
  rw [List.getD_eq_getElem?_getD, List.getElem?_eq_getElem hk]
  simp only [Option.getD_some]
  rw [← e]; exact a
end Go.Proofs.YtelekchdbiimiaaGreat
namespace Go.Proofs.YtelekchdbiimiaaGreat
set_option linter.unusedVariables false
open Go.RowKit
theorem mul64_any (x y : Int) (w : World) (x0 : 0 ≤ x) (x1 : x ≤ 18446744073709551615) (y0 : 0 ≤ y) (y1 : y ≤ 18446744073709551615) :
    Calls Tryz.prog 173 #[.int .u64 x, .int .u64 y] w fun e w' => e = .returned (.tuple #[.int .u64 (x * y / 18446744073709551616), .int .u64 (x * y % 18446744073709551616)]) ∧ w = w' := by
  obtain ⟨x, rfl⟩ := Int.eq_ofNat_of_zero_le x0
  obtain ⟨y, rfl⟩ := Int.eq_ofNat_of_zero_le y0
  refine (Tryz.bits_Mul64 x y (by omega) (by omega) w).mono ?_
  rintro e w' ⟨rfl, rfl⟩
  exact ⟨by rw [Int.natCast_ediv, Int.natCast_emod, Int.natCast_mul]; rfl, rfl⟩
set_option maxHeartbeats 400000 in
theorem product_any (a b : Int) (w : World) (a0 : 0 ≤ a) (a1 : a ≤ 9223372036854775807) (b0 : 0 ≤ b) (b1 : b ≤ 9223372036854775807) :
    Calls Tryz.prog 146 #[.int .i64 a, .int .i64 b] w fun e w' => e = .returned (.agg #[.int .u64 (a * b % 18446744073709551616), .int .u64 (a * b / 18446744073709551616)]) ∧ Below w.heap.size w w' := by
  go_enter Tryz.func146, Tryz.ntmps146
  go_wp2_with (go_at_call 173; refine (mul64_any _ _ _ (by omega) (by omega) (by omega) (by omega)).mono ?_; rintro e w' ⟨rfl, rfl⟩)
  exact bodyPost_ret (v := .agg #[.int .u64 (a * b % 18446744073709551616), .int .u64 (a * b / 18446744073709551616)]) (by simp [results, Tryz.results146, go_sem]) rfl ⟨rfl, (Below.refl _ _).alloc (Nat.le_refl _) _⟩
theorem mul_words {a b : Int} (h1 : 0 ≤ a) (h2 : 0 ≤ b) (a1 : a ≤ 9223372036854775807) (b1 : b ≤ 9223372036854775807) :
    0 ≤ a * b ∧ a * b ≤ 85070591730234615847396907784232501249 := by
  have p0 := Int.mul_nonneg h1 h2
  have p1 := Int.mul_le_mul a1 b1 h2 (show (0 : Int) ≤ 9223372036854775807 by decide)
  exact ⟨p0, by omega⟩
end Go.Proofs.YtelekchdbiimiaaGreat
namespace Go.Proofs.YtelekchdbiimiaaGreat
set_option linter.unusedVariables false
set_option maxRecDepth 100000
open Go.RowKit
/-- the nodes' row is kept -/
def EachKp (T : TypeId) (B : Nat) (w w' : World) : Prop := w.heap.size ≤ w'.heap.size ∧ ∀ v M, OwnNd T w B v M → OwnNd T w' B v M
theorem EachKp.kp {T : TypeId} {B : Nat} {F : Nat → Prop} {w w' : World} (h : Kp F w w') (f : ∀ i, F i → i < B) : EachKp T B w w' :=
  ⟨h.size, fun v M o => own_kp o h fun g e q => by have := (World.ownsRow.lt o g e).1; have := f g q; omega⟩
/-- a box with a sum, and one with a number -/
structure RnkBx (T : TypeId) (W w : World) (b c : Nat) (x s : Int) : Prop where
  cx : w.cell? ⟨b, 0, none⟩ = some (.int .i64 x)
  bs : w.ownsRow 0 T 1 (.slice (some ⟨c, 0, none⟩) 1 1) 1 [.int .i64 s]
  ne : b ≠ c
  lb : b < w.heap.size
  hb : Below W.heap.size W w
theorem RnkBx.sum {T : TypeId} {W w : World} {b c : Nat} {x s : Int} (h : RnkBx T W w b c x s) : w.cell? ⟨c, 0, none⟩ = some (.int .i64 s) ∧ w.frozen? ⟨c, 0, none⟩ = false ∧ c < w.heap.size :=
  ⟨h.bs.cellAt 0 (by omega), h.bs.frozenAt 0, (h.bs.lt c rfl).2⟩
theorem RnkBx.below {T : TypeId} {W w w' : World} {b c : Nat} {x s : Int} (h : RnkBx T W w b c x s) (q : Below w.heap.size w w') : RnkBx T W w' b c x s :=
  ⟨(q.cell h.lb).trans h.cx, own_below h.bs q, h.ne, Nat.lt_of_lt_of_le h.lb q.size, h.hb.trans (q.mono h.hb.size)⟩
theorem RnkBx.set {T : TypeId} {W w : World} {b c : Nat} {x s : Int} (h : RnkBx T W w b c x s) (hc : W.heap.size ≤ c) (t : Int) : RnkBx T W (w.setCell ⟨c, 0, none⟩ (.int .i64 t)) b c x t :=
  ⟨((Kp.setCell w ⟨c, 0, none⟩ (.int .i64 t)).cell h.lb (fun e => h.ne e)).trans h.cx, (h.bs.stored 0 (.int .i64 t)).1, h.ne, by have := h.lb; simpa using this, h.hb.setCell (p := ⟨c, 0, none⟩) hc _⟩
theorem RnkBx.new (T : TypeId) (W : World) (x s : Int) : RnkBx T W ((W.alloc (.cells #[.int .i64 x] T)).alloc (.cells #[.int .i64 s] T)) W.heap.size (W.heap.size + 1) x s := by
  have e : (W.alloc (.cells #[.int .i64 x] T)).heap.size = W.heap.size + 1 := by simp
  have b := box1 (W.alloc (.cells #[.int .i64 x] T)) T (.int .i64 s)
  rw [e] at b
  refine ⟨?_, own_low b (Nat.zero_le _), by omega, by simp; omega, ((Below.refl _ _).alloc (Nat.le_refl _) _).alloc (by simp) _⟩
  exact (World.cell?_alloc_lt _ _ _ (by simp)).trans (by simp)
theorem rnk_sum {P : Int → Bool} {l : Int} {L : List Nd} (h : RollC l L) {j : Nat} (hj : j < L.length) : 0 ≤ wtF P (L.take j) + (L.getD j nz).2 ∧ wtF P (L.take j) + (L.getD j nz).2 ≤ 144115188075855870 := by
  have a := wtF_parts (P := P) h j
  have m := nd_mem hj
  have p := good_nonneg (roll_good h)
  have c := sumC_mem p m
  have t : sumC L ≤ 72057594037927935 := h.2.2.2.2
  have z := p _ m
  omega
/-- a closure that each tells of the nodes, one after another -/
structure RnkTell (W : World) (F : Nat) (caps : Array Value) (l : Int) (L : List Nd) (I : Nat → World → Prop) : Prop where
  eg : ∀ args w, (callFunc F args).run Tryz.prog w = .ok (.enter F args) w
  keep : ∀ j w w', I j w → Below w.heap.size w w' → I j w'
  call : ∀ j, j < L.length → ∀ w, I j w → Calls Tryz.prog F (#[.int .i64 (loN l (L.getD j nz).1), .int .i64 (hiN l (L.getD j nz).1), .int .i64 (L.getD j nz).2] ++ caps) w fun e w' => e = .returned (.tuple #[]) ∧ I (j + 1) w' ∧ EachKp 77 W.heap.size w w'
set_option maxHeartbeats 3200000 in
theorem rnkEach_any {B q p g h F : Nat} {caps : Array Value} {kd l k : Int} {n : Nat} {L : List Nd} {I : Nat → World → Prop} (w : World) (d : DgA w B q p g h kd l k n L) (hn : n ≤ 1000) (M : RnkTell w F caps l L I) (h0 : I 0 w) :
    Calls Tryz.prog 60 #[.pointer (some ⟨q, 0, none⟩), .func (.func F) #[] caps] w fun e w' => e = .returned (.tuple #[]) ∧ I L.length w' := by
  have u := d.po.uni
  have CF := Lib.hid (dgConf_any w d.box)
  have ND := Lib.hid (fun v (hb : Below w.heap.size w v) => dgNodes_any v (d.below hb).box (d.below hb).po hn)
  have LN := Lib.hid (show L.length ≤ 1000 by have := d.po.len; omega)
  have NB := Lib.hid (nbds_roll d.v.roll)
  have FD : ∀ w, (Instr.field 23 (.agg #[.int .i64 l, .int .i64 k, .int .i64 kd]) 0).run Tryz.prog w = .ok (.int .i64 l) w := fun _ => by kernel_rfl
  have eg := M.eg
  have KE := Lib.hid M.keep
  have CL := Lib.hid M.call
  have H0 := Lib.hid h0
  clear d M h0
  go_enter Tryz.func60, Tryz.ntmps60
  go_wp2_with fail
  refine CF.out.mono ?_
  rintro e w1 ⟨rfl, hb1⟩
  have B1 := Lib.hid hb1
  have S1 := Lib.hid hb1.size
  clear hb1 CF
  go_wp2_with fail
  refine (ND.out _ B1.out).mono ?_
  rintro e w2 ⟨A1, n1, c1, rfl, ho1, hb2⟩
  have HL := Lib.hid (nodes_cells (ownNd_nodes ho1)).1
  have n1b : n1 ≤ 1000 := by have := HL.out; have := LN.out; omega
  have O1 := Lib.hid (own_low ho1 S1.out)
  have I0 := Lib.hid (KE.out _ _ _ H0.out (B1.out.trans (hb2.mono S1.out)))
  clear ho1 hb2 ND
  go_wp2_with fail
  go_loopw [16] (fun i wr => ∃ j : Nat, j ≤ n1 ∧ i = .int .i64 j ∧ OwnNd 77 wr w.heap.size (.slice A1 n1 c1) L ∧ I j wr) (fun i _ => n1 - (intOf i).toNat)
  case atStart => exact ⟨0, by omega, rfl, O1.out, I0.out⟩
  case round =>
    obtain ⟨j, hj, rfl, ho, hI⟩ := hrel
    have OO := Lib.hid ho
    have II := Lib.hid hI
    clear ho hI
    by_cases hlt : j < n1
    · have hjl : j < L.length := by have := HL.out; omega
      rcases ownNd_form OO.out with ⟨_, z⟩ | ⟨g2, cap, hv, _, hgw, _, _, hin⟩
      · rw [z] at hjl; simp at hjl
      · injection hv with hv1 hv2 hv3
        subst hv1
        obtain ⟨e0, e1⟩ := hin.2 j hjl
        simp only [Nat.zero_add] at e0 e1
        have nb := nbds_at NB.out hjl
        have CM := Lib.hid (CL.out j hjl (wr.alloc (.cells #[.int .i64 (L.getD j nz).1, .int .i64 (L.getD j nz).2] 77)) (KE.out j _ _ II.out (below_one _ _)))
        have OA := Lib.hid (World.ownsRow.alloc OO.out (.cells #[.int .i64 (L.getD j nz).1, .int .i64 (L.getD j nz).2] 77))
        generalize (L.getD j nz).1 = id at *
        generalize (L.getD j nz).2 = ct at *
        have k0' : (0 : Int) ≤ (j : Int) := Int.natCast_nonneg _
        have k1' : (j : Int) < (n1 : Int) := by omega
        have EN := Lib.hid (fun w => ends_any l id w (by omega) (by omega) nb.1.1 nb.1.2)
        clear hv2 hv3 hin
        go_wp2_with (first | (go_at_call 106; refine (EN.out _).mono ?_; rintro e w3 ⟨rfl, rfl⟩) | (go_at_fn F; refine CM.out.mono ?_; rintro e w4 ⟨rfl, hI4, hk4⟩))
        go_roundw
        case rel => exact ⟨j + 1, by omega, by go_num, hk4.2 _ _ OA.out, hI4⟩
        case measure => simp [intOf]; omega
    · obtain rfl : j = n1 := by omega
      have hd : j = L.length := HL.out
      have II2 : Hid (I L.length wr) := by show I _ _; rw [← hd]; exact II.out
      clear hd
      go_wp2_with fail
      go_end0
      exact ⟨rfl, II2.out⟩
theorem rnkLow1_any (f t c x s : Int) (Nx Ns : Nat) (w : World) (cx : w.cell? ⟨Nx, 0, none⟩ = some (.int .i64 x)) (cs : w.cell? ⟨Ns, 0, none⟩ = some (.int .i64 s)) (fs : w.frozen? ⟨Ns, 0, none⟩ = false) (hz : Ns < w.heap.size)
    (S0 : -9223372036854775808 ≤ s + c) (S1 : s + c ≤ 9223372036854775807) :
    Calls Tryz.prog 100 #[.int .i64 f, .int .i64 t, .int .i64 c, .pointer (some ⟨Nx, 0, none⟩), .pointer (some ⟨Ns, 0, none⟩)] w fun e w' => e = .returned (.tuple #[]) ∧ w' = if t ≤ x then w.setCell ⟨Ns, 0, none⟩ (.int .i64 (s + c)) else w := by
  have hw : IntKind.i64.wrap (s + c) = s + c := wrap_lit rfl S0 S1
  by_cases h : t ≤ x
  · rw [if_pos h]
    go_enter Tryz.func100, Tryz.ntmps100
    go_wp2_with fail
    go_end0
    exact ⟨rfl, rfl⟩
  · rw [if_neg h]
    go_enter Tryz.func100, Tryz.ntmps100
    go_wp2_with fail
    go_end0
    exact ⟨rfl, rfl⟩
theorem rnkLow_any {B q p g h : Nat} {kd l k : Int} {n : Nat} {L : List Nd} (x : Int) (w : World) (d : DgA w B q p g h kd l k n L) (hn : n ≤ 1000) (X0 : -9223372036854775808 ≤ x) (X1 : x ≤ 9223372036854775807) :
    Calls Tryz.prog 56 #[.pointer (some ⟨q, 0, none⟩), .int .i64 x] w fun e w' => e = .returned (.int .i64 (lowR l L x)) ∧ Below w.heap.size w w' := by
  have N0 := Lib.hid (RnkBx.new 3 w x 0)
  have hz : ((w.alloc (.cells #[.int .i64 x] 3)).alloc (.cells #[.int .i64 0] 3)).heap.size = w.heap.size + 2 := by simp
  have EA := Lib.hid (rnkEach_any (F := 100) (caps := #[.pointer (some ⟨w.heap.size, 0, none⟩), .pointer (some ⟨w.heap.size + 1, 0, none⟩)]) (I := fun j v => RnkBx 3 w v w.heap.size (w.heap.size + 1) x (wtF (lowP l x) (L.take j))) _ (d.below N0.out.hb) hn
    ⟨enters_of Tryz.func100 (by kernel_rfl) rfl, fun _ _ _ h b => h.below b, fun j hj v b => by
      obtain ⟨cs, fs, hs⟩ := b.sum
      have st := wtF_take (lowP l x) (L := L) (k := j) hj
      have b1 := wtF_parts (P := lowP l x) d.v.roll j
      have b2 := wtF_parts (P := lowP l x) d.v.roll (j + 1)
      have b3 := rnk_sum (P := lowP l x) d.v.roll hj
      refine (rnkLow1_any _ (hiN l (L.getD j nz).1) (L.getD j nz).2 x (wtF (lowP l x) (L.take j)) w.heap.size (w.heap.size + 1) v b.cx cs fs hs (by omega) (by omega)).mono ?_
      · rintro e v' ⟨rfl, rfl⟩
        refine ⟨rfl, ?_, ?_⟩
        · show RnkBx _ _ _ _ _ _ _
          rw [st]
          unfold lowP
          by_cases q : hiN l (L.getD j nz).1 ≤ x
          · rw [if_pos q, if_pos (decide_eq_true q)]; exact b.set (by omega) _
          · rw [if_neg q, if_neg (fun z => q (of_decide_eq_true z)), Int.add_zero]; exact b
        · split
          · exact EachKp.kp (Kp.setCell v ⟨w.heap.size + 1, 0, none⟩ _) fun i e => by rw [e, hz]; show w.heap.size + 1 < _; omega
          · exact ⟨Nat.le_refl _, fun _ _ o => o⟩⟩ N0.out)
  rw [low_is]
  rw [List.take_length] at EA
  clear d
  go_enter Tryz.func56, Tryz.ntmps56
  go_wp2_with (go_at_call 60; refine EA.out.mono ?_; rintro e w3 ⟨rfl, hB⟩; obtain ⟨cs, _, _⟩ := hB.sum)
  have HB := Lib.hid hB.hb
  clear hB
  go_ret
  exact ⟨rfl, HB.out⟩
theorem rnkHigh1_any (f t c x s : Int) (Nx Ns : Nat) (w : World) (cx : w.cell? ⟨Nx, 0, none⟩ = some (.int .i64 x)) (cs : w.cell? ⟨Ns, 0, none⟩ = some (.int .i64 s)) (fs : w.frozen? ⟨Ns, 0, none⟩ = false) (hz : Ns < w.heap.size)
    (S0 : -9223372036854775808 ≤ s + c) (S1 : s + c ≤ 9223372036854775807) :
    Calls Tryz.prog 101 #[.int .i64 f, .int .i64 t, .int .i64 c, .pointer (some ⟨Nx, 0, none⟩), .pointer (some ⟨Ns, 0, none⟩)] w fun e w' => e = .returned (.tuple #[]) ∧ w' = if f ≤ x then w.setCell ⟨Ns, 0, none⟩ (.int .i64 (s + c)) else w := by
  have hw : IntKind.i64.wrap (s + c) = s + c := wrap_lit rfl S0 S1
  by_cases h : f ≤ x
  · rw [if_pos h]
    go_enter Tryz.func101, Tryz.ntmps101
    go_wp2_with fail
    go_end0
    exact ⟨rfl, rfl⟩
  · rw [if_neg h]
    go_enter Tryz.func101, Tryz.ntmps101
    go_wp2_with fail
    go_end0
    exact ⟨rfl, rfl⟩
theorem rnkHigh_any {B q p g h : Nat} {kd l k : Int} {n : Nat} {L : List Nd} (x : Int) (w : World) (d : DgA w B q p g h kd l k n L) (hn : n ≤ 1000) (X0 : -9223372036854775808 ≤ x) (X1 : x ≤ 9223372036854775807) :
    Calls Tryz.prog 57 #[.pointer (some ⟨q, 0, none⟩), .int .i64 x] w fun e w' => e = .returned (.int .i64 (highR l L x)) ∧ Below w.heap.size w w' := by
  have N0 := Lib.hid (RnkBx.new 3 w x 0)
  have hz : ((w.alloc (.cells #[.int .i64 x] 3)).alloc (.cells #[.int .i64 0] 3)).heap.size = w.heap.size + 2 := by simp
  have EA := Lib.hid (rnkEach_any (F := 101) (caps := #[.pointer (some ⟨w.heap.size, 0, none⟩), .pointer (some ⟨w.heap.size + 1, 0, none⟩)]) (I := fun j v => RnkBx 3 w v w.heap.size (w.heap.size + 1) x (wtF (highP l x) (L.take j))) _ (d.below N0.out.hb) hn
    ⟨enters_of Tryz.func101 (by kernel_rfl) rfl, fun _ _ _ h b => h.below b, fun j hj v b => by
      obtain ⟨cs, fs, hs⟩ := b.sum
      have st := wtF_take (highP l x) (L := L) (k := j) hj
      have b1 := wtF_parts (P := highP l x) d.v.roll j
      have b2 := wtF_parts (P := highP l x) d.v.roll (j + 1)
      have b3 := rnk_sum (P := highP l x) d.v.roll hj
      refine (rnkHigh1_any (loN l (L.getD j nz).1) _ (L.getD j nz).2 x (wtF (highP l x) (L.take j)) w.heap.size (w.heap.size + 1) v b.cx cs fs hs (by omega) (by omega)).mono ?_
      · rintro e v' ⟨rfl, rfl⟩
        refine ⟨rfl, ?_, ?_⟩
        · show RnkBx _ _ _ _ _ _ _
          rw [st]
          unfold highP
          by_cases q : loN l (L.getD j nz).1 ≤ x
          · rw [if_pos q, if_pos (decide_eq_true q)]; exact b.set (by omega) _
          · rw [if_neg q, if_neg (fun z => q (of_decide_eq_true z)), Int.add_zero]; exact b
        · split
          · exact EachKp.kp (Kp.setCell v ⟨w.heap.size + 1, 0, none⟩ _) fun i e => by rw [e, hz]; show w.heap.size + 1 < _; omega
          · exact ⟨Nat.le_refl _, fun _ _ o => o⟩⟩ N0.out)
  rw [high_is]
  rw [List.take_length] at EA
  clear d
  go_enter Tryz.func57, Tryz.ntmps57
  go_wp2_with (go_at_call 60; refine EA.out.mono ?_; rintro e w3 ⟨rfl, hB⟩; obtain ⟨cs, _, _⟩ := hB.sum)
  have HB := Lib.hid hB.hb
  clear hB
  go_ret
  exact ⟨rfl, HB.out⟩
end Go.Proofs.YtelekchdbiimiaaGreat
namespace Go.Proofs.YtelekchdbiimiaaGreat
set_option linter.unusedVariables false
open Go.RowKit
end Go.Proofs.YtelekchdbiimiaaGreat
