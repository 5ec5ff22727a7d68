/- Texts laid together: BlStd, RnkMrg, RnkM. -/
import Derived.Test.YtfmgcabgbnfjlaaGreatBlN
import Derived.Test.YtfmgcabgbnfjlaaGreatDgN
import Derived.Test.YtfmgcabgbnfjlaaGreatBgNum
import Derived.Test.YtfmgcabgbnfjlaaGreatBl2
import Derived.Test.YtfmgcabgbnfjlaaGreatMmy
import Derived.Laws.OwnMore
/- Plain facts of layer blend: what two digests are merged to stands for what both accepted. No program is spoken of here. -/
namespace Go.Proofs.YtfmgcabgbnfjlaaGreat
set_option linter.unusedVariables false

theorem bmgL_app {l k ka kb : Int} {L M : List Nd} (a : DgV l ka L) (b : DgV l kb M) (h1 : 1 ≤ k) (h2 : k ≤ ka) (h3 : k ≤ kb) (h : ¬ 72057594037927935 < sumC L + sumC M) (P : Int → Bool) : wtF P (bmgL l k L M) = wtF P (pressW l k L) + wtF P (pressW l k M) := by
  have x := dgV_lower a h1 h2
  have y := dgV_lower b h1 h3
  have z := dgV_merge x.1 y.1 x.2.1 y.2.1 (by rw [x.2.2.2, y.2.2.2]; omega)
  rw [bmgL_eq, wt_same (roll_good z.1.roll) (X := pressW l k L ++ pressW l k M) (fun n hn => by
    rcases List.mem_append.1 hn with q | q
    · exact good_nonneg (roll_good x.1.roll) n q
    · exact good_nonneg (roll_good y.1.roll) n q) (fun i => by rw [bmg_sum, sumAt_app]), wtF_app]
theorem bl_stand {l ka kb id : Int} {L M T U : List Nd} (a : DgV l ka L) (b : DgV l kb M) (s : DgS l L T) (t : DgS l M U) (hr : RightC l id) (h1 : id ≤ 9223372036854775807) (h : ¬ 72057594037927935 < sumC L + sumC M) :
    wtF (aboveB id) (bmgL l (bmgK ka kb) L M) ≤ betN T (loN l id) (hiN l id) + betN U (loN l id) (hiN l id) ∧
    betN T (loN l id) (hiN l id) + betN U (loN l id) (hiN l id) ≤ wtF (aboveB id) (bmgL l (bmgK ka kb) L M) + wtF (overB id) (bmgL l (bmgK ka kb) L M) := by
  obtain ⟨k1, k2, k3⟩ := bmgK_le ka kb
  have k0 := k3 a.k1 b.k1
  have x := dgV_lower a k0 k1
  have y := dgV_lower b k0 k2
  have p := std_held (std_pre s.std a.roll (pressed_fun (bmgK ka kb) a.roll).live) x.1.roll s.bag hr h1
  have q := std_held (std_pre t.std b.roll (pressed_fun (bmgK ka kb) b.roll).live) y.1.roll t.bag hr h1
  rw [bmgL_app a b k0 k1 k2 h, bmgL_app a b k0 k1 k2 h]
  have e1 : preA l (sumC L / bmgK ka kb) L (pressN l (bmgK ka kb) L) = pressW l (bmgK ka kb) L := rfl
  have e2 : preA l (sumC M / bmgK ka kb) M (pressN l (bmgK ka kb) M) = pressW l (bmgK ka kb) M := rfl
  rw [e1] at p
  rw [e2] at q
  omega
theorem bmgK_comm (ka kb : Int) : bmgK kb ka = bmgK ka kb := by unfold bmgK; split <;> split <;> omega
theorem bmgL_comm {l ka kb : Int} {L M : List Nd} (a : DgV l ka L) (b : DgV l kb M) : bmgL l (bmgK kb ka) M L = bmgL l (bmgK ka kb) L M := by
  obtain ⟨k1, k2, k3⟩ := bmgK_le ka kb
  have k0 := k3 a.k1 b.k1
  rw [bmgK_comm, bmgL_eq, bmgL_eq]
  exact bmg_comm (dgV_lower b k0 k2).1.roll (dgV_lower a k0 k1).1.roll
theorem light_v {l k : Int} {L : List Nd} (v : DgV l k L) : lightB l L k = true := by
  have hk : kIs k = true := decide_eq_true ⟨v.k1, v.k2⟩
  unfold lightB
  have z : LightC l (capW L k) L := v.light
  simp [hk, z]
end Go.Proofs.YtfmgcabgbnfjlaaGreat

/- Plain facts of layer rank: what two digests are merged to stands for both bags poured together. No program is spoken of here. -/
namespace Go.Proofs.YtfmgcabgbnfjlaaGreat
set_option linter.unusedVariables false

theorem dgS_bmg {l ka kb : Int} {L M T U : List Nd} (a : DgV l ka L) (b : DgV l kb M) (s : DgS l L T) (t : DgS l M U) (h : ¬ 72057594037927935 < sumC L + sumC M) : DgS l (bmgL l (bmgK ka kb) L M) (poursN T U) := by
  obtain ⟨k1, k2, k3⟩ := bmgK_le ka kb
  have k0 := k3 a.k1 b.k1
  have x := dg_lower (dgC_of a s) k0 k1 (pressed_fun (bmgK ka kb) a.roll)
  have y := dg_lower (dgC_of b t) k0 k2 (pressed_fun (bmgK ka kb) b.roll)
  have mv := dgV_bmg a b h
  have g1 := roll_good x.1.roll
  have g2 := roll_good y.1.roll
  have z := dg_merge x.1 y.1 x.2.1 y.2.1 (F := bmgL l (bmgK ka kb) L M) (V := poursN T U) mv.1.roll (fun i => by rw [bmgL_eq, bmg_sum, sumAt_app]) (by rw [bmgL_eq]; exact bmg_len _ _ g1 g2.pos) (s.bag.pours t.bag (by rw [← s.std.tot, ← t.std.tot]; exact h)) (fun i => by rw [pours_sum, sumAt_app])
  exact dgS_of z.1

/-! ### a list of which two that stand side by side are one -/
def mgP {α : Type} (P : List α) (i : Nat) (x : α) : List α := (P.set i x).take (i + 1) ++ (P.set i x).drop (i + 2)
theorem mgP_eq {α : Type} {P : List α} {i : Nat} (h : i + 1 < P.length) (x : α) : mgP P i x = P.take i ++ x :: P.drop (i + 2) := by
  have e : P.set i x = P.take i ++ x :: P.drop (i + 1) := by rw [List.set_eq_take_append_cons_drop, if_pos (by omega)]
  have n : (P.take i).length = i := by rw [List.length_take]; omega
  have h1 : (P.take i ++ x :: P.drop (i + 1)).take (i + 1) = P.take i ++ [x] := by
    rw [List.take_append, n, List.take_of_length_le (by omega), show i + 1 - i = 1 by omega]; rfl
  have h2 : (P.take i ++ x :: P.drop (i + 1)).drop (i + 2) = P.drop (i + 2) := by
    rw [List.drop_append, n, List.drop_of_length_le (by omega), show i + 2 - i = 2 by omega, List.nil_append, List.drop_succ_cons, List.drop_drop]
  unfold mgP
  rw [e, h1, h2, List.append_assoc]
  rfl
theorem mgP_len {α : Type} {P : List α} {i : Nat} (h : i + 1 < P.length) (x : α) : (mgP P i x).length = P.length - 1 := by
  rw [mgP_eq h, List.length_append, List.length_cons, List.length_take, List.length_drop]; omega
theorem mgP_mem {α : Type} {P : List α} {i : Nat} (h : i + 1 < P.length) {x y : α} (hy : y ∈ mgP P i x) : y = x ∨ y ∈ P := by
  rw [mgP_eq h] at hy
  rcases List.mem_append.1 hy with q | q
  · exact .inr (List.mem_of_mem_take q)
  · rcases List.mem_cons.1 q with q | q
    · exact .inl q
    · exact .inr (List.mem_of_mem_drop q)
def smL {α : Type} (f : α → Nat) : List α → Nat
  | [] => 0
  | x :: P => f x + smL f P
theorem smL_app {α : Type} (f : α → Nat) : ∀ P Q : List α, smL f (P ++ Q) = smL f P + smL f Q
  | [], Q => by simp [smL]
  | x :: P, Q => by simp only [List.cons_append, smL, smL_app f P Q]; omega
theorem smL_split {α : Type} (f : α → Nat) {P : List α} {i : Nat} (h : i + 1 < P.length) : smL f P = smL f (P.take i) + (f P[i] + f P[i + 1]) + smL f (P.drop (i + 2)) := by
  have e : P = P.take i ++ P[i] :: P[i + 1] :: P.drop (i + 2) := by
    rw [← List.drop_eq_getElem_cons h, ← List.drop_eq_getElem_cons (show i < P.length by omega), List.take_append_drop]
  have s := congrArg (smL f) e
  rw [smL_app] at s
  simp only [smL] at s
  omega
theorem smL_mg {α : Type} (f : α → Nat) {P : List α} {i : Nat} (h : i + 1 < P.length) (x : α) (hx : f x ≤ f P[i] + f P[i + 1]) : smL f (mgP P i x) ≤ smL f P := by
  rw [mgP_eq h, smL_app, smL_split f h]
  simp only [smL]
  omega
theorem smL_two {α : Type} (f : α → Nat) {P : List α} {i : Nat} (h : i + 1 < P.length) : f P[i] + f P[i + 1] ≤ smL f P := by rw [smL_split f h]; omega
theorem smL_one {α : Type} (f : α → Nat) {P : List α} {x : α} (h : x ∈ P) : f x ≤ smL f P := by
  induction P with
  | nil => simp at h
  | cons y P ih =>
    rcases List.mem_cons.1 h with q | q
    · subst q; simp only [smL]; omega
    · have := ih q; simp only [smL]; omega

end Go.Proofs.YtfmgcabgbnfjlaaGreat

/- What the statement RankMerged of layer rank gathers: digests, and bags of the document's, in two rows that turn. -/
namespace Go.Proofs.YtfmgcabgbnfjlaaGreat
set_option linter.unusedVariables false
set_option maxRecDepth 100000
open Go.RowKit

/-- a digest, and the bag of what it accepted -/
structure PrX where
  q : Nat
  p : Nat
  g : Nat
  h : Nat
  kd : Int
  l : Int
  k : Int
  n : Nat
  L : List Nd
  A : Option Addr
  m : Nat
  c : Nat
  T : List Nd
def rowG (P : List PrX) : List Value := P.map fun d => .pointer (some ⟨d.q, 0, none⟩)
def rowB (P : List PrX) : List Value := P.flatMap fun d => [.int .i64 d.l, .slice d.A d.m d.c]
theorem rowG_len (P : List PrX) : (rowG P).length = P.length := by simp [rowG]
theorem rowB_len (P : List PrX) : (rowB P).length = P.length * 2 := by
  induction P with
  | nil => rfl
  | cons d P ih => simp only [rowB, List.flatMap_cons, List.length_append, List.length_cons, List.length_nil] at ih ⊢; omega
theorem rowB_cons (d : PrX) (P : List PrX) : rowB (d :: P) = .int .i64 d.l :: .slice d.A d.m d.c :: rowB P := by simp [rowB]
theorem rowG_app (P Q : List PrX) : rowG (P ++ Q) = rowG P ++ rowG Q := by simp [rowG]
theorem rowB_app (P Q : List PrX) : rowB (P ++ Q) = rowB P ++ rowB Q := by simp [rowB]
theorem rowG_at {P : List PrX} {i : Nat} (h : i < P.length) : (rowG P)[i]? = some (.pointer (some ⟨P[i].q, 0, none⟩)) := by simp [rowG, h]
theorem rowB_at : ∀ (P : List PrX) (i : Nat) (h : i < P.length), (rowB P)[i * 2]? = some (.int .i64 P[i].l) ∧ (rowB P)[i * 2 + 1]? = some (.slice P[i].A P[i].m P[i].c)
  | [], i, h => by simp at h
  | d :: P, 0, h => by simp [rowB]
  | d :: P, i + 1, h => by
    have z := rowB_at P i (by simpa using h)
    rw [rowB_cons, show (i + 1) * 2 = i * 2 + 1 + 1 by omega, show i * 2 + 1 + 1 + 1 = i * 2 + 1 + 1 + 1 by rfl]
    simpa using z
theorem rowG_set (P : List PrX) (i : Nat) (x : PrX) : rowG (P.set i x) = (rowG P).set i (.pointer (some ⟨x.q, 0, none⟩)) := by simp [rowG, List.map_set]
theorem rowB_set : ∀ (P : List PrX) (i : Nat) (x : PrX), rowB (P.set i x) = ((rowB P).set (i * 2) (.int .i64 x.l)).set (i * 2 + 1) (.slice x.A x.m x.c)
  | [], i, x => by simp [rowB]
  | d :: P, 0, x => by simp [rowB]
  | d :: P, i + 1, x => by
    rw [List.set_cons_succ, rowB_cons, rowB_cons, rowB_set P i x, show (i + 1) * 2 = i * 2 + 1 + 1 by omega]
    simp
theorem rowB_take : ∀ (P : List PrX) (i : Nat), rowB (P.take i) = (rowB P).take (i * 2)
  | [], i => by simp [rowB]
  | d :: P, 0 => by simp [rowB]
  | d :: P, i + 1 => by rw [List.take_succ_cons, rowB_cons, rowB_cons, rowB_take P i, show (i + 1) * 2 = i * 2 + 1 + 1 by omega]; simp
theorem rowB_drop : ∀ (P : List PrX) (i : Nat), rowB (P.drop i) = (rowB P).drop (i * 2)
  | [], i => by simp [rowB]
  | d :: P, 0 => by simp [rowB]
  | d :: P, i + 1 => by rw [List.drop_succ_cons, rowB_drop P i, rowB_cons, show (i + 1) * 2 = i * 2 + 1 + 1 by omega]; simp
theorem rowG_take (P : List PrX) (i : Nat) : rowG (P.take i) = (rowG P).take i := by simp [rowG, List.map_take]
theorem rowG_drop (P : List PrX) (i : Nat) : rowG (P.drop i) = (rowG P).drop i := by simp [rowG, List.map_drop]
theorem rowG_one (P : List PrX) : ∀ u ∈ rowG P, u.oneCell' = true := fun u hu => by
  obtain ⟨d, _, rfl⟩ := List.mem_map.1 hu; rfl
theorem rowB_one (P : List PrX) : ∀ u ∈ rowB P, u.oneCell' = true := fun u hu => by
  obtain ⟨d, _, h⟩ := List.mem_flatMap.1 hu
  simp at h
  rcases h with rfl | rfl <;> rfl
/-- the elements of a row, as they are appended -/
theorem news_take {T : TypeId} {w : World} {B s n c g : Nat} {xs : List Value} (r : w.ownsRow B T s (.slice (some ⟨g, 0, none⟩) n c) n xs) (m : Nat) (hm : m ≤ n * s) : ∀ j u, (xs.take m)[j]? = some u → w.cell? ((⟨g, 0, none⟩ : Addr).add j) = some u := fun j u hj => by
  have hjm : j < m := by
    have := (List.getElem?_eq_some_iff.1 hj).1
    rw [List.length_take] at this; omega
  rw [List.getElem?_take_of_lt hjm] at hj
  have z := r.cellAt j (by omega)
  rw [hj] at z
  rw [← z]
  unfold Addr.add
  split
  · rename_i h; rw [h]
  · rw [Nat.zero_add]
theorem news_drop {T : TypeId} {w : World} {B s n c g : Nat} {xs : List Value} (r : w.ownsRow B T s (.slice (some ⟨g, 0, none⟩) n c) n xs) (hl : xs.length = n * s) (m : Nat) (hc : n ≤ c) (hs : 0 < s) : ∀ j u, (xs.drop (m * s))[j]? = some u → w.cell? ((advA ⟨g, 0, none⟩ c m s).add j) = some u := fun j u hj => by
  rw [List.getElem?_drop] at hj
  have hlt := (List.getElem?_eq_some_iff.1 hj).1
  have hmn : m < n := by
    rcases Nat.lt_or_ge m n with q | q
    · exact q
    · have := Nat.mul_le_mul_right s q; omega
  have z := r.cellAt (m * s + j) (by omega)
  rw [hj] at z
  rw [← z]
  unfold advA
  rw [if_neg (by omega)]
  unfold Addr.add
  by_cases h0 : m * s = 0
  · rw [if_pos h0]
    by_cases h1 : j = 0
    · rw [if_pos h1, h0, h1]
    · rw [if_neg h1, h0, Nat.zero_add]
  · rw [if_neg h0]
    by_cases h1 : j = 0
    · rw [if_pos h1, h1]; simp
    · rw [if_neg h1]; simp
theorem row_form {w : World} {B s n : Nat} {T : TypeId} {v : Value} {xs : List Value} (r : w.ownsRow B T s v n xs) : ∃ A c, v = .slice A n c := by
  rcases r.2 with ⟨e, h0⟩ | ⟨g, c, cur, e, _⟩
  · exact ⟨none, 0, by rw [e, h0]⟩
  · exact ⟨_, c, e⟩
theorem row_some {w : World} {B s n : Nat} {T : TypeId} {v : Value} {xs : List Value} (r : w.ownsRow B T s v n xs) (hn : 0 < n) : ∃ g c, v = .slice (some ⟨g, 0, none⟩) n c ∧ n ≤ c ∧ B ≤ g ∧ g < w.heap.size := by
  rcases r.2 with ⟨e, h0⟩ | ⟨g, c, cur, e, hB, hg, hc, _⟩
  · omega
  · exact ⟨g, c, e, hc, hB, by subst e; exact (r.lt g rfl).2⟩
theorem ne_apart {w : World} {b1 b2 s1 s2 n1 n2 m c q : Nat} {e1 e2 : TypeId} {v1 : Value} {xs ys : List Value} (h1 : w.ownsRow b1 e1 s1 v1 n1 xs) (h2 : w.ownsRow b2 e2 s2 (.slice (some ⟨q, 0, none⟩) m c) n2 ys) (he : e1 ≠ e2) (i : Nat) (hi : v1.ownBlock = some i) : i ≠ q := by
  rcases own_apart h1 h2 he with z | z
  · rw [z] at hi; simp at hi
  · rintro rfl
    exact z (by rw [hi]; rfl)
theorem rnkNodes_uniq {w : World} {v : Value} {L M : List Nd} (h : NodesAt w v L) (g : NodesAt w v M) : L = M := by
  obtain ⟨A, c, rfl, _, _, _, a⟩ := h
  obtain ⟨B, d, e, _, _, _, b⟩ := g
  injection e with e1 e2 e3
  subst e1
  refine List.ext_getElem e2 fun i h1 h2 => ?_
  obtain ⟨p, o, q1, hin⟩ := a (by omega)
  obtain ⟨p', o', q2, hin2⟩ := b (by omega)
  rw [q1] at q2
  injection q2 with q2
  injection q2 with q3 q4
  subst q3 q4
  have x := hin.2 i h1
  have y := hin2.2 i h2
  rw [x.1, x.2] at y
  have e1 : (L.getD i nz) = L[i] := by rw [List.getD_eq_getElem?_getD, List.getElem?_eq_getElem h1]; rfl
  have e4 : (M.getD i nz) = M[i] := by rw [List.getD_eq_getElem?_getD, List.getElem?_eq_getElem h2]; rfl
  rw [e1, e4] at y
  obtain ⟨y1, y2⟩ := y
  injection y1 with y1
  injection y2 with y2
  injection y1 with _ y1
  injection y2 with _ y2
  exact Prod.ext_iff.2 ⟨y1, y2⟩
/-- an append to a row of the call's own, at a step of a region that draws -/
theorem step_append_own {P : Program} {ops : Array Oper} {o : Oper} {a : Act} {w : World} {K : Act → World → Prop} {Q : Exit → Act → World → Prop} {E : Prop} (hgd : o.guard = none) (s x : Operand) (t : TypeId)
    (ho : o.op = .call { callee := .builtin .append, args := #[s, x], argTypes := #[t, t] })
    (base : Nat) (e : TypeId) (i : TypeInfo) (z : Value) (size bytes : Nat) (ht : P.underlying t = some (.slice e)) (hi : P.info? e = some i) (hz : i.zero = some z)
    (hsize : i.size = size) (hby : i.bytes = bytes) (hzs : z.cells.size = size) (hsz : 0 < size)
    (v : Value) (n : Nat) (xs : List Value) (hs : a.eval s = v) (hown : w.ownsRow base e size v n xs)
    (ad : Addr) (m c : Nat) (news : List Value) (hx : a.eval x = .slice (some ad) m c) (hl : news.length = m * size) (hnews : ∀ j u, news[j]? = some u → w.cell? (ad.add j) = some u) (h1 : ∀ u ∈ news, u.oneCell' = true)
    (h63 : n + m ≤ maxLen) (hbytes : (n + m) * bytes ≤ 140737488355328) (hbase : base ≤ w.heap.size)
    (h : ∀ v' w', w'.ownsRow base e size v' (n + m) (xs ++ news) → w.grownBy w' v.ownBlock → K (a.put o.dst v') w') :
    if Region.wanted o (yielded ops a.tmps) = true then Oper.wp P o a w K Q else E := by
  have hw : Region.wanted o (yielded ops a.tmps) = true := by simp [Region.wanted, hgd]
  rw [if_pos hw]
  obtain ⟨v', w', hr, h2, h3, _, _⟩ := run_append_own_at (P := P) w base t o.type e i z size bytes ht hi hz hsize hby hzs hsz v n xs hown ad m c news hl hnews h1 h63 hbytes hbase
  unfold Oper.wp execOp
  simp only [ho, resolve, invoke, builtin, Sem.run_bind, Sem.run_pure, Result.andThen_ok, List.map_toArray, List.map_cons, List.map_nil, hs, hx, hr]
  exact h v' w' h2 h3
/-- what has been gathered: digests, bags -/
structure MgM (w wr : World) (a b : Value) (Pa Pb : List PrX) : Prop where
  ra : wr.ownsRow w.heap.size 38 1 a Pa.length (rowG Pa)
  rb : wr.ownsRow w.heap.size 56 2 b Pb.length (rowB Pb)
  dg : ∀ d ∈ Pa, DgA wr 0 d.q d.p d.g d.h d.kd d.l d.k d.n d.L
  nd : ∀ d ∈ Pb, OwnNd 105 wr 0 (.slice d.A d.m d.c) d.T
  bel : Below w.heap.size w wr
theorem DgA.row_no {w : World} {B q p g h : Nat} {kd l k : Int} {n : Nat} {L : List Nd} {e : TypeId} {base size m : Nat} {v : Value} {zs : List Value} (d : DgA w B q p g h kd l k n L) (o : w.ownsRow base e size v m zs)
    (e1 : e ≠ 114) (e2 : e ≠ 144) (e3 : e ≠ 148) (e4 : e ≠ 3) (e5 : e ≠ 146) (e6 : e ≠ 84) : ∀ i, v.ownBlock = some i → ¬ dgF q p g h i := by
  intro i hi f
  rcases f with f | f | f | f
  · exact ne_apart o d.top e1 i hi f
  · rcases d.po.st with ⟨_, _, z, _⟩ | ⟨_, z, _⟩
    · exact ne_apart o z e2 i hi f
    · exact ne_apart o z e2 i hi f
  · rcases d.po.st with ⟨_, _, _, z⟩ | ⟨_, _, b, S, z, _⟩
    · exact ne_apart o (Ds.top z) e3 i hi f
    · exact ne_apart o (Ps.top z) e5 i hi f
  · rcases d.po.st with ⟨_, _, _, z⟩ | ⟨_, _, b, S, z, _⟩
    · exact ne_apart o (Ds.row z) e4 i hi f
    · exact ne_apart o (Ps.row z) e6 i hi f
section
variable {w wr w' : World} {a b : Value} {Pa Pb : List PrX}
theorem MgM.below (h : MgM w wr a b Pa Pb) (hb : Below wr.heap.size wr w') : MgM w w' a b Pa Pb :=
  ⟨own_below h.ra hb, own_below h.rb hb, fun d hd => (h.dg d hd).below hb, fun d hd => own_below (h.nd d hd) hb, h.bel.trans (hb.mono h.bel.size)⟩
theorem mg_start (w : World) : MgM w w (.slice none 0 0) (.slice none 0 0) [] [] :=
  ⟨⟨rfl, .inl ⟨rfl, rfl⟩⟩, ⟨rfl, .inl ⟨rfl, rfl⟩⟩, fun d h => by simp at h, fun d h => by simp at h, Below.refl _ _⟩
/-- row a has turned -/
theorem MgM.turnA (h : MgM w wr a b Pa Pb) {a' : Value} {Pa' : List PrX} (hg : wr.grownBy w' a.ownBlock) (ho : w'.ownsRow w.heap.size 38 1 a' Pa'.length (rowG Pa'))
    (hd : ∀ d ∈ Pa', DgA wr 0 d.q d.p d.g d.h d.kd d.l d.k d.n d.L) : MgM w w' a' b Pa' Pb :=
  ⟨ho, h.rb.kept hg (own_apart h.rb h.ra (by decide)), fun d hd' => (hd d hd').kp (Kp.grown hg) fun i f q => (hd d hd').row_no h.ra (by decide) (by decide) (by decide) (by decide) (by decide) (by decide) i f.symm q,
   fun d hd' => World.ownsRow.kept (h.nd d hd') hg (own_apart (h.nd d hd') h.ra (by decide)), h.bel.grown hg h.bel.size fun g hq => (World.ownsRow.lt h.ra g hq).1⟩
/-- row b has turned -/
theorem MgM.turnB (h : MgM w wr a b Pa Pb) {b' : Value} {Pb' : List PrX} (hg : wr.grownBy w' b.ownBlock) (ho : w'.ownsRow w.heap.size 56 2 b' Pb'.length (rowB Pb'))
    (hd : ∀ d ∈ Pb', OwnNd 105 wr 0 (.slice d.A d.m d.c) d.T) : MgM w w' a b' Pa Pb' :=
  ⟨h.ra.kept hg (own_apart h.ra h.rb (by decide)), ho, fun d hd' => (h.dg d hd').kp (Kp.grown hg) fun i f q => (h.dg d hd').row_no h.rb (by decide) (by decide) (by decide) (by decide) (by decide) (by decide) i f.symm q,
   fun d hd' => World.ownsRow.kept (hd d hd') hg (own_apart (hd d hd') h.rb (by decide)), h.bel.grown hg h.bel.size fun g hq => (World.ownsRow.lt h.rb g hq).1⟩
end
/-- what is so of each, and how much there is of all -/
structure FineP (N : Nat) (P : List PrX) : Prop where
  s : ∀ d ∈ P, DgS d.l d.L d.T
  n : smL PrX.n P ≤ N
  t : smL (fun d => d.T.length) P ≤ N
/-- two that stand side by side -/
theorem mg_two {w wr : World} {a b : Value} {P : List PrX} {N i : Nat} (h : MgM w wr a b P P) (f : FineP N P) (hi : i + 1 < P.length) : ∃ d1 d2 : PrX,
    (DgA wr 0 d1.q d1.p d1.g d1.h d1.kd d1.l d1.k d1.n d1.L ∧ DgA wr 0 d2.q d2.p d2.g d2.h d2.kd d2.l d2.k d2.n d2.L) ∧
    (OwnNd 105 wr 0 (.slice d1.A d1.m d1.c) d1.T ∧ OwnNd 105 wr 0 (.slice d2.A d2.m d2.c) d2.T) ∧
    (DgS d1.l d1.L d1.T ∧ DgS d2.l d2.L d2.T) ∧ (d1.n + d2.n ≤ N ∧ d1.T.length + d2.T.length ≤ N) ∧
    ((rowG P)[i]? = some (.pointer (some ⟨d1.q, 0, none⟩)) ∧ (rowG P)[i + 1]? = some (.pointer (some ⟨d2.q, 0, none⟩))) ∧
    ((rowB P)[i * 2]? = some (.int .i64 d1.l) ∧ (rowB P)[i * 2 + 1]? = some (.slice d1.A d1.m d1.c) ∧ (rowB P)[(i + 1) * 2]? = some (.int .i64 d2.l) ∧ (rowB P)[(i + 1) * 2 + 1]? = some (.slice d2.A d2.m d2.c)) ∧
    ((∀ x : PrX, x.n ≤ d1.n + d2.n → smL PrX.n (mgP P i x) ≤ smL PrX.n P) ∧ (∀ x : PrX, x.T.length ≤ d1.T.length + d2.T.length → smL (fun d => d.T.length) (mgP P i x) ≤ smL (fun d => d.T.length) P)) := by
  have h0 : i < P.length := by omega
  have m1 := List.getElem_mem h0
  have m2 := List.getElem_mem hi
  exact ⟨P[i], P[i + 1], ⟨h.dg _ m1, h.dg _ m2⟩, ⟨h.nd _ m1, h.nd _ m2⟩, ⟨f.s _ m1, f.s _ m2⟩, ⟨Nat.le_trans (smL_two PrX.n hi) f.n, Nat.le_trans (smL_two (fun d => d.T.length) hi) f.t⟩,
    ⟨rowG_at h0, rowG_at hi⟩, ⟨(rowB_at P i h0).1, (rowB_at P i h0).2, (rowB_at P (i + 1) hi).1, (rowB_at P (i + 1) hi).2⟩, fun x hx => smL_mg PrX.n hi x hx, fun x hx => smL_mg (fun d => d.T.length) hi x hx⟩
/-- one of them is stored anew, in both rows -/
theorem MgM.put {w wr : World} {ga gb ca cb N i : Nat} {P : List PrX} (h : MgM w wr (.slice (some ⟨ga, 0, none⟩) N ca) (.slice (some ⟨gb, 0, none⟩) N cb) P P) (hN : N = P.length) (x : PrX)
    (D : DgA wr 0 x.q x.p x.g x.h x.kd x.l x.k x.n x.L) (O : OwnNd 105 wr 0 (.slice x.A x.m x.c) x.T) :
    MgM w ((((wr.setCell ⟨ga, i, none⟩ (.pointer (some ⟨x.q, 0, none⟩))).setCell ⟨gb, i * 2, none⟩ (.int .i64 x.l)).setCell ⟨gb, i * 2 + 1, none⟩ (.slice x.A x.m x.c)).drew) (.slice (some ⟨ga, 0, none⟩) N ca) (.slice (some ⟨gb, 0, none⟩) N cb) (P.set i x) (P.set i x) := by
  have ra := h.ra
  rw [← hN] at ra
  have s1 := World.ownsRow.stored ra i (.pointer (some ⟨x.q, 0, none⟩))
  have m1 := h.turnA (a' := .slice (some ⟨ga, 0, none⟩) N ca) (Pa' := P.set i x) s1.2 (by rw [List.length_set, ← hN, rowG_set]; exact s1.1) (fun d hd => by
    rcases List.mem_or_eq_of_mem_set hd with z | z
    · exact h.dg d z
    · rw [z]; exact D)
  have o1 : OwnNd 105 (wr.setCell ⟨ga, i, none⟩ (.pointer (some ⟨x.q, 0, none⟩))) 0 (.slice x.A x.m x.c) x.T := World.ownsRow.kept O s1.2 (own_apart O ra (by decide))
  have rb := m1.rb
  rw [← hN] at rb
  have t1 := World.ownsRow.stored rb (i * 2) (.int .i64 x.l)
  have t2 := World.ownsRow.stored t1.1 (i * 2 + 1) (.slice x.A x.m x.c)
  have g : World.grownBy (wr.setCell ⟨ga, i, none⟩ (.pointer (some ⟨x.q, 0, none⟩))) (((wr.setCell ⟨ga, i, none⟩ (.pointer (some ⟨x.q, 0, none⟩))).setCell ⟨gb, i * 2, none⟩ (.int .i64 x.l)).setCell ⟨gb, i * 2 + 1, none⟩ (.slice x.A x.m x.c)) (Value.slice (some ⟨gb, 0, none⟩) N cb).ownBlock :=
    ⟨t2.2.os.trans t1.2.os, t2.2.tape.trans t1.2.tape, t2.2.output.trans t1.2.output, Nat.le_trans t1.2.size t2.2.size, fun k hk hne => (t2.2.block k (Nat.lt_of_lt_of_le hk t1.2.size) hne).trans (t1.2.block k hk hne)⟩
  have m2 := m1.turnB (b' := .slice (some ⟨gb, 0, none⟩) N cb) (Pb' := P.set i x) g (by rw [List.length_set, ← hN, rowB_set]; exact t2.1) (fun d hd => by
    rcases List.mem_or_eq_of_mem_set hd with z | z
    · exact m1.nd d z
    · rw [z]; exact o1)
  exact m2.below (below_drew _)
/-- what is left of both rows, in new ones -/
theorem MgM.cutA {w wr w' : World} {a b a' : Value} {P P' : List PrX} {i : Nat} {x : PrX} (h : MgM w wr a b (P.set i x) P') (hb : Below wr.heap.size wr w') (hi : i + 1 < P.length) (ho : w'.ownsRow w.heap.size 38 1 a' (P.length - 1) (rowG (mgP P i x))) : MgM w w' a' b (mgP P i x) P' := by
  have k := h.below hb
  refine ⟨by rw [mgP_len hi]; exact ho, k.rb, fun d hd => k.dg d ?_, k.nd, k.bel⟩
  unfold mgP at hd
  rcases List.mem_append.1 hd with q | q
  · exact List.mem_of_mem_take q
  · exact List.mem_of_mem_drop q
theorem MgM.cutB {w wr w' : World} {a b b' : Value} {P P' : List PrX} {i : Nat} {x : PrX} (h : MgM w wr a b P' (P.set i x)) (hb : Below wr.heap.size wr w') (hi : i + 1 < P.length) (ho : w'.ownsRow w.heap.size 56 2 b' (P.length - 1) (rowB (mgP P i x))) : MgM w w' a b' P' (mgP P i x) := by
  have k := h.below hb
  refine ⟨k.ra, by rw [mgP_len hi]; exact ho, k.dg, fun d hd => k.nd d ?_, k.bel⟩
  unfold mgP at hd
  rcases List.mem_append.1 hd with q | q
  · exact List.mem_of_mem_take q
  · exact List.mem_of_mem_drop q
theorem FineP.mg {N i : Nat} {P : List PrX} {x : PrX} (f : FineP N P) (hi : i + 1 < P.length) (s : DgS x.l x.L x.T) (a : smL PrX.n (mgP P i x) ≤ smL PrX.n P) (b : smL (fun d => d.T.length) (mgP P i x) ≤ smL (fun d => d.T.length) P) : FineP N (mgP P i x) :=
  ⟨fun d hd => by
    rcases mgP_mem hi hd with z | z
    · rw [z]; exact s
    · exact f.s d z, Nat.le_trans a f.n, Nat.le_trans b f.t⟩

end Go.Proofs.YtfmgcabgbnfjlaaGreat
