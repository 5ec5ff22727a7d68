/- Texts laid together: RnkSum, RkMul, RnkE, RnkP. -/
import Derived.Test.YtmfdpaahklndnaaGreatDgQ
import Derived.Test.YtmfdpaahklndnaaGreatDgN
import Derived.Test.YtmfdpaahklndnaaGreatRkT
import Derived.Deep.RegionWith
namespace Go.Proofs.YtmfdpaahklndnaaGreat
set_option linter.unusedVariables false
/-- up to y -/
def rkP (y : Int) : Int → Bool := fun v => decide (v ≤ y)
theorem wtF_perm {P : Int → Bool} {L M : List Nd} (h : L.Perm M) : wtF P L = wtF P M := by
  induction h with
  | nil => rfl
  | cons x _ ih => simp [wtF, ih]
  | swap x y l => simp only [wtF]; omega
  | trans _ _ a b => exact a.trans b
theorem wtF_mem {P : Int → Bool} {L : List Nd} (h : NonNeg L) {m : Nd} (hm : m ∈ L) (hp : P m.1 = true) : m.2 ≤ wtF P L := by
  induction L with
  | nil => simp at hm
  | cons n L ih =>
    have b := wtF_bd P (L := L) fun x hx => h x (List.mem_cons_of_mem _ hx)
    have n0 := h n (by simp)
    rcases List.mem_cons.1 hm with q | q
    · subst q; simp only [wtF, hp, if_true]; omega
    · have := ih (fun x hx => h x (List.mem_cons_of_mem _ hx)) q
      simp only [wtF]; split <;> omega
theorem wtF_full {P : Int → Bool} {L : List Nd} (h : ∀ n ∈ L, P n.1 = true) : wtF P L = sumC L := by
  rw [← wtF_all]
  exact wtF_congr fun n hn => h n hn
theorem wtF_zero {P : Int → Bool} {L : List Nd} (h : ∀ n ∈ L, P n.1 = false) : wtF P L = 0 := by
  rw [← wtF_none L]
  exact wtF_congr fun n hn => h n hn
/-- S tells what T's values weigh, each with those below it -/
structure SumI (T S : List Nd) : Prop where
  rise : S.Pairwise (fun a b => a.1 < b.1)
  mem : ∀ y, (∃ p ∈ S, p.1 = y) ↔ ∃ p ∈ T, p.1 = y
  wt : ∀ p ∈ S, p.2 = wtF (rkP p.1) T
theorem SumI.nil : SumI [] [] := ⟨List.Pairwise.nil, fun y => by simp, fun p h => by simp at h⟩
theorem SumI.perm {T T' S : List Nd} (h : SumI T S) (p : T.Perm T') : SumI T' S :=
  ⟨h.rise, fun y => (h.mem y).trans ⟨fun ⟨q, a, b⟩ => ⟨q, p.mem_iff.1 a, b⟩, fun ⟨q, a, b⟩ => ⟨q, p.mem_iff.2 a, b⟩⟩, fun q hq => (h.wt q hq).trans (wtF_perm p)⟩
theorem SumI.good {T S : List Nd} (h : SumI T S) (p : ∀ n ∈ T, 1 ≤ n.2) : Good S :=
  ⟨h.rise, fun n hn => by
    obtain ⟨m, hm, e⟩ := (h.mem n.1).1 ⟨n, hn, rfl⟩
    have a := wtF_mem (P := rkP n.1) (L := T) (fun x hx => by have := p x hx; omega) hm (decide_eq_true (by omega))
    rw [h.wt n hn]
    have := p m hm
    omega⟩
theorem up_snoc (T : List Nd) (v : Nd) (y : Int) : wtF (rkP y) (T ++ [v]) = wtF (rkP y) T + (if v.1 ≤ y then v.2 else 0) := by
  rw [wtF_app]
  simp only [wtF, rkP]
  by_cases h : v.1 ≤ y <;> simp [h]
/-- the last value once more -/
theorem SumI.same {T A : List Nd} {a v : Nd} (h : SumI T (A ++ [a])) (e : a.1 = v.1) (asc : ∀ p ∈ T, p.1 ≤ v.1) : SumI (T ++ [v]) (A ++ [(v.1, sumC (T ++ [v]))]) := by
  have r := List.pairwise_append.1 h.rise
  refine ⟨List.pairwise_append.2 ⟨r.1, by simp, fun x hx y hy => ?_⟩, fun y => ?_, fun p hp => ?_⟩
  · simp at hy; subst hy
    have := r.2.2 x hx a (by simp)
    show x.1 < v.1
    omega
  · constructor
    · rintro ⟨p, hp, q⟩
      rcases List.mem_append.1 hp with hp | hp
      · obtain ⟨m, hm, f⟩ := (h.mem y).1 ⟨p, by simp [hp], q⟩
        exact ⟨m, by simp [hm], f⟩
      · simp at hp; subst hp; exact ⟨v, by simp, q⟩
    · rintro ⟨p, hp, q⟩
      rcases List.mem_append.1 hp with hp | hp
      · obtain ⟨m, hm, f⟩ := (h.mem y).2 ⟨p, hp, q⟩
        rcases List.mem_append.1 hm with hm | hm
        · exact ⟨m, by simp [hm], f⟩
        · simp at hm; subst hm; exact ⟨(v.1, sumC (T ++ [v])), by simp, by show v.1 = y; omega⟩
      · simp at hp; subst hp; exact ⟨(p.1, sumC (T ++ [p])), by simp, q⟩
  · rcases List.mem_append.1 hp with hp | hp
    · have := r.2.2 p hp a (by simp)
      rw [h.wt p (by simp [hp]), up_snoc, if_neg (by omega)]; omega
    · simp at hp; subst hp
      refine (wtF_full fun n hn => decide_eq_true ?_).symm
      rcases List.mem_append.1 hn with hn | hn
      · exact asc n hn
      · simp at hn; subst hn; exact Int.le_refl _
/-- a greater value -/
theorem SumI.more {T S : List Nd} {v : Nd} (h : SumI T S) (lt : ∀ p ∈ S, p.1 < v.1) : SumI (T ++ [v]) (S ++ [(v.1, sumC (T ++ [v]))]) := by
  refine ⟨List.pairwise_append.2 ⟨h.rise, by simp, fun x hx y hy => ?_⟩, fun y => ?_, fun p hp => ?_⟩
  · simp at hy; subst hy; exact lt x hx
  · constructor
    · rintro ⟨p, hp, q⟩
      rcases List.mem_append.1 hp with hp | hp
      · obtain ⟨m, hm, f⟩ := (h.mem y).1 ⟨p, hp, q⟩
        exact ⟨m, by simp [hm], f⟩
      · simp at hp; subst hp; exact ⟨v, by simp, q⟩
    · rintro ⟨p, hp, q⟩
      rcases List.mem_append.1 hp with hp | hp
      · obtain ⟨m, hm, f⟩ := (h.mem y).2 ⟨p, hp, q⟩
        exact ⟨m, by simp [hm], f⟩
      · simp at hp; subst hp; exact ⟨(p.1, sumC (T ++ [p])), by simp, q⟩
  · rcases List.mem_append.1 hp with hp | hp
    · have := lt p hp
      rw [h.wt p hp, up_snoc, if_neg (by omega)]; omega
    · simp at hp; subst hp
      refine (wtF_full fun n hn => decide_eq_true ?_).symm
      rcases List.mem_append.1 hn with hn | hn
      · obtain ⟨m, hm, f⟩ := (h.mem n.1).2 ⟨n, hn, rfl⟩
        have := lt m hm
        show n.1 ≤ v.1
        omega
      · simp at hn; subst hn; exact Int.le_refl _
theorem SumI.lt {T S : List Nd} {v : Nd} (h : SumI T S) (asc : ∀ p ∈ T, p.1 ≤ v.1) (ne : ∀ k, S.length = k + 1 → (S.getD k nz).1 ≠ v.1) : ∀ p ∈ S, p.1 < v.1 := by
  have le : ∀ p ∈ S, p.1 ≤ v.1 := fun p hp => by
    obtain ⟨m, hm, e⟩ := (h.mem p.1).1 ⟨p, hp, rfl⟩
    have := asc m hm
    omega
  rcases List.eq_nil_or_concat S with e | ⟨A, a, e⟩
  · subst e; intro p hp; simp at hp
  · rw [List.concat_eq_append] at e
    subst e
    have r := List.pairwise_append.1 h.rise
    have na : a.1 ≠ v.1 := by
      have := ne A.length (by simp)
      rw [List.getD_eq_getElem?_getD] at this
      simpa using this
    have la := le a (by simp)
    intro p hp
    rcases List.mem_append.1 hp with hp | hp
    · have := r.2.2 p hp a (by simp); omega
    · simp at hp; subst hp; omega
/-- what weighs up to x -/
def rkAt (S : List Nd) (x : Int) : Int := if leN S x = 0 then 0 else (S.getD (leN S x - 1) nz).2
theorem SumI.at {T S : List Nd} (h : SumI T S) (p : ∀ n ∈ T, 1 ≤ n.2) (x : Int) : rkAt S x = wtF (rkP x) T := by
  have g := h.good p
  unfold rkAt
  by_cases z : leN S x = 0
  · rw [if_pos z]
    refine (wtF_zero fun n hn => decide_eq_false ?_).symm
    obtain ⟨m, hm, e⟩ := (h.mem n.1).2 ⟨n, hn, rfl⟩
    obtain ⟨j, hj, ej⟩ := List.mem_iff_getElem.1 hm
    have a := le_at g x hj
    rw [z, decide_eq_true (Nat.zero_le j)] at a
    have a := of_decide_eq_true a
    rw [List.getD_eq_getElem?_getD, List.getElem?_eq_getElem hj] at a
    simp at a
    rw [ej] at a
    omega
  · rw [if_neg z]
    have hl := le_le S x
    have hk : leN S x - 1 < S.length := by omega
    have hm := nd_mem hk
    rw [h.wt _ hm]
    have a := le_at g x hk
    rw [decide_eq_false (by omega : ¬ leN S x ≤ leN S x - 1)] at a
    have a := of_decide_eq_false a
    refine wtF_congr fun n hn => ?_
    unfold rkP
    refine decide_eq_decide.2 ⟨fun q => by omega, fun q => ?_⟩
    obtain ⟨m, hm, e⟩ := (h.mem n.1).2 ⟨n, hn, rfl⟩
    obtain ⟨j, hj, ej⟩ := List.mem_iff_getElem.1 hm
    have b := le_at g x hj
    rw [List.getD_eq_getElem?_getD, List.getElem?_eq_getElem hj] at b
    simp only [Option.getD_some, ej] at b
    rw [decide_eq_false (by omega : ¬ m.1 > x)] at b
    have b := of_decide_eq_false b.symm
    rw [List.getD_eq_getElem?_getD, List.getElem?_eq_getElem hk]
    simp only [Option.getD_some]
    rcases Nat.lt_or_ge j (leN S x - 1) with c | c
    · have := List.pairwise_iff_getElem.1 h.rise j (leN S x - 1) hj hk c
      rw [ej] at this
      omega
    · have c : j = leN S x - 1 := by omega
      subst c
      rw [ej]; omega
theorem SumI.len {T S : List Nd} (h : SumI T S) : S.length ≤ T.length := by
  have key : ∀ (S T : List Nd), S.Pairwise (fun a b => a.1 < b.1) → (∀ p ∈ S, ∃ q ∈ T, q.1 = p.1) → S.length ≤ T.length := by
    intro S
    induction S with
    | nil => intro T _ _; simp
    | cons p S ih =>
      intro T r m
      obtain ⟨q, hq, e⟩ := m p (by simp)
      have rr := List.pairwise_cons.1 r
      have z := ih (T.erase q) rr.2 fun x hx => by
        obtain ⟨y, hy, f⟩ := m x (by simp [hx])
        have lt := rr.1 x hx
        exact ⟨y, (List.mem_erase_of_ne (fun c => by subst c; omega)).2 hy, f⟩
      rw [List.length_erase_of_mem hq] at z
      have := List.length_pos_of_mem hq
      simp only [List.length_cons]
      omega
  exact key S T h.rise fun p hp => (h.mem p.1).1 ⟨p, hp, rfl⟩
end Go.Proofs.YtmfdpaahklndnaaGreat
namespace Go.Proofs.YtmfdpaahklndnaaGreat
set_option linter.unusedVariables false
open Go.RowKit
theorem mul64_any (x y : Int) (w : World) (x0 : 0 ≤ x) (x1 : x ≤ 18446744073709551615) (y0 : 0 ≤ y) (y1 : y ≤ 18446744073709551615) :
    Calls Tryz.prog 129 #[.int .u64 x, .int .u64 y] w fun e w' => e = .returned (.tuple #[.int .u64 (x * y / 18446744073709551616), .int .u64 (x * y % 18446744073709551616)]) ∧ w = w' := by
  obtain ⟨x, rfl⟩ := Int.eq_ofNat_of_zero_le x0
  obtain ⟨y, rfl⟩ := Int.eq_ofNat_of_zero_le y0
  refine (Tryz.bits_Mul64 x y (by omega) (by omega) w).mono ?_
  rintro e w' ⟨rfl, rfl⟩
  exact ⟨by rw [Int.natCast_ediv, Int.natCast_emod, Int.natCast_mul]; rfl, rfl⟩
set_option maxHeartbeats 400000 in
theorem product_any (a b : Int) (w : World) (a0 : 0 ≤ a) (a1 : a ≤ 9223372036854775807) (b0 : 0 ≤ b) (b1 : b ≤ 9223372036854775807) :
    Calls Tryz.prog 90 #[.int .i64 a, .int .i64 b] w fun e w' => e = .returned (.agg #[.int .u64 (a * b % 18446744073709551616), .int .u64 (a * b / 18446744073709551616)]) ∧ Below w.heap.size w w' := by
  go_enter Tryz.func90, Tryz.ntmps90
  go_wp2_with (go_at_call 129; refine (mul64_any _ _ _ (by omega) (by omega) (by omega) (by omega)).mono ?_; rintro e w' ⟨rfl, rfl⟩)
  exact bodyPost_ret (v := .agg #[.int .u64 (a * b % 18446744073709551616), .int .u64 (a * b / 18446744073709551616)]) (by simp [results, Tryz.results90, go_sem]) rfl ⟨rfl, (Below.refl _ _).alloc (Nat.le_refl _) _⟩
theorem mul_words {a b : Int} (h1 : 0 ≤ a) (h2 : 0 ≤ b) (a1 : a ≤ 9223372036854775807) (b1 : b ≤ 9223372036854775807) :
    0 ≤ a * b ∧ a * b ≤ 85070591730234615847396907784232501249 := by
  have p0 := Int.mul_nonneg h1 h2
  have p1 := Int.mul_le_mul a1 b1 h2 (show (0 : Int) ≤ 9223372036854775807 by decide)
  exact ⟨p0, by omega⟩
end Go.Proofs.YtmfdpaahklndnaaGreat
namespace Go.Proofs.YtmfdpaahklndnaaGreat
set_option linter.unusedVariables false
set_option maxRecDepth 100000
open Go.RowKit
/-- the nodes' row is kept -/
def EachKp (T : TypeId) (B : Nat) (w w' : World) : Prop := w.heap.size ≤ w'.heap.size ∧ ∀ v M, OwnNd T w B v M → OwnNd T w' B v M
theorem EachKp.kp {T : TypeId} {B : Nat} {F : Nat → Prop} {w w' : World} (h : Kp F w w') (f : ∀ i, F i → i < B) : EachKp T B w w' :=
  ⟨h.size, fun v M o => own_kp o h fun g e q => by have := (World.ownsRow.lt o g e).1; have := f g q; omega⟩
/-- a box with a sum, and one with a number -/
structure RnkBx (T : TypeId) (W w : World) (b c : Nat) (x s : Int) : Prop where
  cx : w.cell? ⟨b, 0, none⟩ = some (.int .i64 x)
  bs : w.ownsRow 0 T 1 (.slice (some ⟨c, 0, none⟩) 1 1) 1 [.int .i64 s]
  ne : b ≠ c
  lb : b < w.heap.size
  hb : Below W.heap.size W w
theorem RnkBx.below {T : TypeId} {W w w' : World} {b c : Nat} {x s : Int} (h : RnkBx T W w b c x s) (q : Below w.heap.size w w') : RnkBx T W w' b c x s :=
  ⟨(q.cell h.lb).trans h.cx, own_below h.bs q, h.ne, Nat.lt_of_lt_of_le h.lb q.size, h.hb.trans (q.mono h.hb.size)⟩
theorem RnkBx.set {T : TypeId} {W w : World} {b c : Nat} {x s : Int} (h : RnkBx T W w b c x s) (hc : W.heap.size ≤ c) (t : Int) : RnkBx T W (w.setCell ⟨c, 0, none⟩ (.int .i64 t)) b c x t :=
  ⟨((Kp.setCell w ⟨c, 0, none⟩ (.int .i64 t)).cell h.lb (fun e => h.ne e)).trans h.cx, (h.bs.stored 0 (.int .i64 t)).1, h.ne, by have := h.lb; simpa using this, h.hb.setCell (p := ⟨c, 0, none⟩) hc _⟩
theorem RnkBx.new (T : TypeId) (W : World) (x s : Int) : RnkBx T W ((W.alloc (.cells #[.int .i64 x] T)).alloc (.cells #[.int .i64 s] T)) W.heap.size (W.heap.size + 1) x s := by
  have e : (W.alloc (.cells #[.int .i64 x] T)).heap.size = W.heap.size + 1 := by simp
  have b := box1 (W.alloc (.cells #[.int .i64 x] T)) T (.int .i64 s)
  rw [e] at b
  refine ⟨?_, own_low b (Nat.zero_le _), by omega, by simp; omega, ((Below.refl _ _).alloc (Nat.le_refl _) _).alloc (by simp) _⟩
  exact (World.cell?_alloc_lt _ _ _ (by simp)).trans (by simp)
end Go.Proofs.YtmfdpaahklndnaaGreat
namespace Go.Proofs.YtmfdpaahklndnaaGreat
set_option linter.unusedVariables false
open Go.RowKit
end Go.Proofs.YtmfdpaahklndnaaGreat
