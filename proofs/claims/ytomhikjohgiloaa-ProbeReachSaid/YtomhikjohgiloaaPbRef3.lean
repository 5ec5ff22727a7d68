/- The document's answers of package dewpondref08: Nodes, put. -/
import Derived.Test.YtomhikjohgiloaaPbRef2
import Derived.Test.YtomhikjohgiloaaDsRef
import Derived.BigRegion
namespace Go.Proofs.Ytomhikjohgiloaa
set_option linter.unusedVariables false
set_option maxRecDepth 100000
open Go.RowKit

/-- a block of three cells -/
structure TBx (w : World) (q : Nat) (x y z : Value) : Prop where
  c0 : w.cell? ⟨q, 0, none⟩ = some x
  c1 : w.cell? ⟨q, 1, none⟩ = some y
  c2 : w.cell? ⟨q, 2, none⟩ = some z
  f0 : w.frozen? ⟨q, 0, none⟩ = false
  f1 : w.frozen? ⟨q, 1, none⟩ = false
  f2 : w.frozen? ⟨q, 2, none⟩ = false
  lt : q < w.heap.size
theorem TBx.to {w w' : World} {q B : Nat} {x y z : Value} (h : TBx w q x y z) (hb : Below B w w') (hB : q < B) : TBx w' q x y z :=
  ⟨(hb.cell (p := ⟨q, 0, none⟩) hB).trans h.c0, (hb.cell (p := ⟨q, 1, none⟩) hB).trans h.c1, (hb.cell (p := ⟨q, 2, none⟩) hB).trans h.c2,
   (hb.frozen (p := ⟨q, 0, none⟩) hB).trans h.f0, (hb.frozen (p := ⟨q, 1, none⟩) hB).trans h.f1, (hb.frozen (p := ⟨q, 2, none⟩) hB).trans h.f2, Nat.lt_of_lt_of_le h.lt hb.size⟩
theorem tbx_new (w : World) (t : TypeId) (x y z : Value) : TBx (w.alloc (.cells #[x, y, z] t)) w.heap.size x y z := ⟨by simp, by simp, by simp, by simp, by simp, by simp, by simp⟩
theorem TBx.alloc {w : World} {q : Nat} {x y z : Value} (h : TBx w q x y z) (o : Obj) : TBx (w.alloc o) q x y z := h.to ((Below.refl w.heap.size w).alloc (Nat.le_refl _) o) h.lt
theorem TBx.far {w : World} {q r k : Nat} {x y z : Value} (h : TBx w q x y z) (hr : r ≠ q) (v : Value) : TBx (w.setCell ⟨r, k, none⟩ v) q x y z := by
  have n : ∀ j, (⟨q, j, none⟩ : Addr) ≠ ⟨r, k, none⟩ := fun j e => by injection e with e; exact hr e.symm
  refine ⟨by rw [World.cell?_setCell_other _ _ _ _ (n 0).symm]; exact h.c0, by rw [World.cell?_setCell_other _ _ _ _ (n 1).symm]; exact h.c1, by rw [World.cell?_setCell_other _ _ _ _ (n 2).symm]; exact h.c2, ?_, ?_, ?_, ?_⟩
  · simp [h.f0]
  · simp [h.f1]
  · simp [h.f2]
  · simpa using h.lt
theorem TBx.set2 {w : World} {q : Nat} {x y z : Value} (h : TBx w q x y z) (v : Value) : TBx (w.setCell ⟨q, 2, none⟩ v) q x y v := by
  have n : ∀ j, j ≠ 2 → (⟨q, j, none⟩ : Addr) ≠ ⟨q, 2, none⟩ := fun j hj e => by injection e with _ e; exact hj e
  refine ⟨by rw [World.cell?_setCell_other _ _ _ _ (n 0 (by decide)).symm]; exact h.c0, by rw [World.cell?_setCell_other _ _ _ _ (n 1 (by decide)).symm]; exact h.c1, World.cell?_setCell_same (u := z) _ _ _ h.c2, ?_, ?_, ?_, ?_⟩
  · simp [h.f0]
  · simp [h.f1]
  · simp [h.f2]
  · simpa using h.lt
theorem TBx.set1 {w : World} {q : Nat} {x y z : Value} (h : TBx w q x y z) (v : Value) : TBx (w.setCell ⟨q, 1, none⟩ v) q x v z := by
  have n : ∀ j, j ≠ 1 → (⟨q, j, none⟩ : Addr) ≠ ⟨q, 1, none⟩ := fun j hj e => by injection e with _ e; exact hj e
  refine ⟨by rw [World.cell?_setCell_other _ _ _ _ (n 0 (by decide)).symm]; exact h.c0, World.cell?_setCell_same (u := y) _ _ _ h.c1, by rw [World.cell?_setCell_other _ _ _ _ (n 2 (by decide)).symm]; exact h.c2, ?_, ?_, ?_, ?_⟩
  · simp [h.f0]
  · simp [h.f1]
  · simp [h.f2]
  · simpa using h.lt
theorem TBx.set0 {w : World} {q : Nat} {x y z : Value} (h : TBx w q x y z) (v : Value) : TBx (w.setCell ⟨q, 0, none⟩ v) q v y z := by
  have n : ∀ j, j ≠ 0 → (⟨q, j, none⟩ : Addr) ≠ ⟨q, 0, none⟩ := fun j hj e => by injection e with _ e; exact hj e
  refine ⟨World.cell?_setCell_same (u := x) _ _ _ h.c0, by rw [World.cell?_setCell_other _ _ _ _ (n 1 (by decide)).symm]; exact h.c1, by rw [World.cell?_setCell_other _ _ _ _ (n 2 (by decide)).symm]; exact h.c2, ?_, ?_, ?_, ?_⟩
  · simp [h.f0]
  · simp [h.f1]
  · simp [h.f2]
  · simpa using h.lt
/-- all three stored anew, one behind the other -/
theorem TBx.all {w : World} {q : Nat} {x y z : Value} (h : TBx w q x y z) (a b c : Value) : TBx (((w.setCell ⟨q, 0, none⟩ a).setCell ⟨q, 1, none⟩ b).setCell ⟨q, 2, none⟩ c) q a b c := ((h.set0 a).set1 b).set2 c
theorem TBx.steps {w : World} {q : Nat} {x y z : Value} (h : TBx w q x y z) : (∀ a, (w.setCell ⟨q, 0, none⟩ a).cell? ⟨q, 0, none⟩ = some a) ∧ (∀ a b, ((w.setCell ⟨q, 0, none⟩ a).setCell ⟨q, 1, none⟩ b).cell? ⟨q, 1, none⟩ = some b) ∧ (∀ a b c, (((w.setCell ⟨q, 0, none⟩ a).setCell ⟨q, 1, none⟩ b).setCell ⟨q, 2, none⟩ c).cell? ⟨q, 2, none⟩ = some c) :=
  ⟨fun a => (h.set0 a).c0, fun a b => ((h.set0 a).set1 b).c1, fun a b c => (h.all a b c).c2⟩
/-- a store elsewhere keeps a row -/
theorem own_set {w : World} {base : Nat} {e : TypeId} {size n : Nat} {v : Value} {xs : List Value} (o : w.ownsRow base e size v n xs) {q : Nat} (h : v.ownBlock ≠ some q) (j : Nat) (u : Value) : (w.setCell ⟨q, j, none⟩ u).ownsRow base e size v n xs :=
  o.kept (row := some q) ⟨rfl, rfl, rfl, by simp, fun k hk hne => by
    have hk2 : ¬ q = k := fun e => hne (by rw [e])
    simp [World.setCell, Array.getElem?_modify, hk2]⟩ (.inr h)
theorem own_set3 {w : World} {base : Nat} {e : TypeId} {size n : Nat} {v : Value} {xs : List Value} (o : w.ownsRow base e size v n xs) {q : Nat} (h : v.ownBlock ≠ some q) (a b c : Value) : (((w.setCell ⟨q, 0, none⟩ a).setCell ⟨q, 1, none⟩ b).setCell ⟨q, 2, none⟩ c).ownsRow base e size v n xs := own_set (own_set (own_set o h 0 a) h 1 b) h 2 c
theorem below_set3 {w w1 : World} {B q : Nat} (h : Below B w w1) (hq : B ≤ q) (a b c : Value) : Below B w (((w1.setCell ⟨q, 0, none⟩ a).setCell ⟨q, 1, none⟩ b).setCell ⟨q, 2, none⟩ c) :=
  ((h.setCell (p := ⟨q, 0, none⟩) hq a).setCell (p := ⟨q, 1, none⟩) hq b).setCell (p := ⟨q, 2, none⟩) hq c
set_option maxHeartbeats 1600000 in
theorem rtNodes_any {b g c : Nat} {l : Int} {S L : List Nd} (w : World) (d : SlAt w g (2 ^ b) S) (T : Tb l b S L) (hb : b ≤ 40) (hl : L.length ≤ 1000000) :
    Calls Try.prog 86 #[.agg #[.int .i64 l, .int .i64 (b : Int), .slice (some ⟨g, 0, none⟩) (2 ^ b) c]] w fun e w' => ∃ A m k, e = .returned (.slice A m k) ∧ OwnNd 42 w' w.heap.size (.slice A m k) L ∧ Below w.heap.size w w' := by
  have HB0 := Lib.hid (below_one w (.cells #[.int .i64 l, .int .i64 (b : Int), .slice (some ⟨g, 0, none⟩) (2 ^ b) c] 33))
  have SD := Lib.hid (d.below HB0.out)
  have S2 := Lib.hid (rtSlots2_any (c := c) _ SD.out T hb)
  have NB : Hid (NBds (ndsT S)) := nds_bds T
  have FB := Lib.hid T.foldB
  have FO := Lib.hid (fun F (q : FoldOf (ndsT S) F) => nds_fold T q)
  have hcn := Lib.hid T.cnt
  obtain ⟨N, hN⟩ : ∃ N, N = 2 ^ b := ⟨_, rfl⟩
  rw [← hN] at S2 HB0 ⊢
  clear d T SD hN
  go_enter Try.func86, Try.ntmps86
  go_wp2_with fail
  refine S2.out.mono ?_
  rintro e w1 ⟨v, rfl, ho, hb1⟩
  obtain ⟨A, m, k, rfl⟩ := ownNd_slice ho
  have hm : m ≤ 1000000 := by have := (nodes_cells (ownNd_nodes ho)).1; have := hcn.out; omega
  have OW := Lib.hid ho
  have B1 := Lib.hid hb1
  clear ho hb1
  go_wp2_with fail
  refine ((rFold_own _ _ _ _ _ (ownNd_nodes OW.out) NB.out hm).mono (fun _ _ q => foldO_is_yes FB.out q)).mono ?_
  rintro e w2 ⟨F, A5, c5, rfl, hF, hown5, hb2⟩
  obtain rfl := FO.out F hF
  clear hF
  obtain ⟨m5, hm5⟩ : ∃ m, m = F.length := ⟨_, rfl⟩
  rw [← hm5] at hown5 ⊢
  clear hm5
  go_wp2_with fail
  go_ret
  have z1 := B1.out.size
  have z0 := HB0.out.size
  simp at z1
  exact ⟨_, _, _, rfl, own_low hown5 (by omega), (HB0.out.trans (B1.out.mono (by simp))).trans (hb2.mono (by omega))⟩
/-- what a call leaves that hands a table out -/
def RtPost (l : Int) (b : Nat) (S : List Nd) (w : World) (e : Ending) (w' : World) : Prop :=
  ∃ g c : Nat, e = .returned (.agg #[.int .i64 l, .int .i64 (b : Int), .slice (some ⟨g, 0, none⟩) (2 ^ b) c]) ∧ OwnNd 42 w' w.heap.size (.slice (some ⟨g, 0, none⟩) (2 ^ b) c) S ∧ Below w.heap.size w w'
theorem sl_own {w : World} {B g c b : Nat} {S : List Nd} (h : OwnNd 42 w B (.slice (some ⟨g, 0, none⟩) (2 ^ b) c) S) : SlAt w g (2 ^ b) S := by
  have hn := (nodes_cells (ownNd_nodes h)).1
  obtain ⟨g2, c2, e, hg, _, _, q⟩ := rt_form (v := .slice (some ⟨g, 0, none⟩) (2 ^ b) c) ⟨own_low h (Nat.zero_le _), hn.symm⟩
  injection e with e _ _
  injection e with e
  injection e with e
  subst e
  exact ⟨hg, q⟩
theorem put_boxes (w : World) (t1 t2 t3 : TypeId) (x y z u v a b c : Value) (w1 : World) (hb : Below (((w.alloc (.cells #[x, y, z] t1)).alloc (.cells #[u, v] t2)).alloc (.cells #[a, b, c] t3)).heap.size (((w.alloc (.cells #[x, y, z] t1)).alloc (.cells #[u, v] t2)).alloc (.cells #[a, b, c] t3)) w1) :
    TBx w1 w.heap.size x y z ∧ w1.cell? ⟨w.heap.size + 1, 0, none⟩ = some u ∧ w1.cell? ⟨w.heap.size + 1, 1, none⟩ = some v ∧ TBx w1 (w.heap.size + 1 + 1) a b c := by
  have e1 : (w.alloc (.cells #[x, y, z] t1)).heap.size = w.heap.size + 1 := by simp
  have e2 : ((w.alloc (.cells #[x, y, z] t1)).alloc (.cells #[u, v] t2)).heap.size = w.heap.size + 1 + 1 := by simp
  have e3 : (((w.alloc (.cells #[x, y, z] t1)).alloc (.cells #[u, v] t2)).alloc (.cells #[a, b, c] t3)).heap.size = w.heap.size + 1 + 1 + 1 := by simp
  have q3 := tbx_new ((w.alloc (.cells #[x, y, z] t1)).alloc (.cells #[u, v] t2)) t3 a b c
  have v0 : ((w.alloc (.cells #[x, y, z] t1)).alloc (.cells #[u, v] t2)).cell? ⟨(w.alloc (.cells #[x, y, z] t1)).heap.size, 0, none⟩ = some u := by simp
  have v1 : ((w.alloc (.cells #[x, y, z] t1)).alloc (.cells #[u, v] t2)).cell? ⟨(w.alloc (.cells #[x, y, z] t1)).heap.size, 1, none⟩ = some v := by simp
  rw [e1] at v0 v1
  have hb4 := (Below.refl ((w.alloc (.cells #[x, y, z] t1)).alloc (.cells #[u, v] t2)).heap.size ((w.alloc (.cells #[x, y, z] t1)).alloc (.cells #[u, v] t2))).alloc (Nat.le_refl _) (.cells #[a, b, c] t3)
  rw [e2] at hb4
  have u0 := (hb4.cell (p := ⟨w.heap.size + 1, 0, none⟩) (by show w.heap.size + 1 < _; omega)).trans v0
  have u1 := (hb4.cell (p := ⟨w.heap.size + 1, 1, none⟩) (by show w.heap.size + 1 < _; omega)).trans v1
  rw [e2] at q3
  rw [e3] at hb
  exact ⟨(((tbx_new w t1 x y z).alloc _).alloc _).to hb (by omega), (hb.cell (p := ⟨w.heap.size + 1, 0, none⟩) (by show w.heap.size + 1 < _; omega)).trans u0, (hb.cell (p := ⟨w.heap.size + 1, 1, none⟩) (by show w.heap.size + 1 < _; omega)).trans u1, q3.to hb (by omega)⟩
set_option maxHeartbeats 3200000 in
theorem rtPut_any {b g c : Nat} {l : Int} {S : List Nd} (x1 x2 : Int) (w : World) (d : OwnNd 42 w 0 (.slice (some ⟨g, 0, none⟩) (2 ^ b) c) S) (t : Tab b S) (hb : b ≤ 40) (h1 : 1 ≤ x1) (A1 : x1 ≤ 9223372036854775807) (E : Ends S x1 (2 ^ b) (homeN b x1) (kOf b S x1)) (hx : 0 ≤ (tAt S (posOf b S x1)).2 + x2 ∧ (tAt S (posOf b S x1)).2 + x2 ≤ 9223372036854775807) :
    Calls Try.prog 88 #[.agg #[.int .i64 l, .int .i64 (b : Int), .slice (some ⟨g, 0, none⟩) (2 ^ b) c], .agg #[.int .i64 x1, .int .i64 x2]] w (RtPost l b (S.set (posOf b S x1) (x1, (tAt S (posOf b S x1)).2 + x2)) w) := by
  obtain ⟨i0, hi, hz0, hz1, hz2⟩ := info_parts node_info
  have hpN := pow_40 hb
  obtain ⟨p, k, hp, hk, hps, lk⟩ := rfind_has t hb h1 A1 E
  rw [hp.out] at hx ⊢
  have HL := Lib.hid t.len
  have hbl : Hid (∀ (o1 o2 o3 : Obj), Below w.heap.size w (((w.alloc o1).alloc o2).alloc o3)) := fun o1 o2 o3 => (((Below.refl _ _).alloc (Nat.le_refl _) _).alloc (by simp) _).alloc (by simp; omega) _
  have SD := Lib.hid ((sl_own d).below (hbl.out (.cells #[.int .i64 l, .int .i64 (b : Int), .slice (some ⟨g, 0, none⟩) (2 ^ b) c] 33) (.cells #[.int .i64 x1, .int .i64 x2] 42) (.cells #[.int .i64 0, .int .i64 0, .slice none 0 0] 33)))
  have LK := Lib.hid (lk _ l g c SD.out)
  have RW := Lib.hid (nodes_cells (ownNd_nodes d))
  obtain ⟨N, hN⟩ : ∃ N, N = 2 ^ b := ⟨_, rfl⟩
  have HN := Lib.hid hN
  rw [← hN] at hps LK hpN HL ⊢
  clear t E lk hp hk SD hN
  go_enter Try.func88, Try.ntmps88
  go_wp2_with fail
  have B0 := Lib.hid (hbl.out (.cells #[.int .i64 l, .int .i64 (b : Int), .slice (some ⟨g, 0, none⟩) N c] 33) (.cells #[.int .i64 x1, .int .i64 x2] 42) (.cells #[.int .i64 0, .int .i64 0, .slice none 0 0] 33))
  have F0 := Lib.hid (put_boxes w 33 42 33 (.int .i64 l) (.int .i64 (b : Int)) (.slice (some ⟨g, 0, none⟩) N c) (.int .i64 x1) (.int .i64 x2) (.int .i64 0) (.int .i64 0) (.slice none 0 0))
  refine LK.out.mono ?_
  rintro e w1 ⟨rfl, hb1⟩
  obtain ⟨T1, X0, X1, T3⟩ := F0.out w1 hb1
  have z1 := hb1.size
  simp at z1
  have BW1 : Hid (Below w.heap.size w w1) := B0.out.trans (hb1.mono (by simp; omega))
  obtain ⟨c0, c1, c2, d0, d1, d2, _⟩ := T1
  have TT1 : Hid (TBx w1 w.heap.size (.int .i64 l) (.int .i64 (b : Int)) (.slice (some ⟨g, 0, none⟩) N c)) := ⟨c0, c1, c2, d0, d1, d2, by assumption⟩
  have TT3 := Lib.hid T3
  have own0 := ownNd_nil 42 w1 (w.heap.size + 3)
  have NL := Lib.hid (show (nods S).length = N * 2 by rw [nods_len, HL.out])
  have hNc : N ≤ c := by have := RW.out.2.1; rw [HL.out] at this; exact this
  have hcm := RW.out.2.2.1
  clear T3 hb1 d0 d1 d2
  go_wp2_with (at_builtin; refine wpList_append_own _ rfl (.tmp 15) (.tmp 17) 31 rfl (w.heap.size + 3) 42 i0 (.agg #[.int .i64 0, .int .i64 0]) 2 16 Try.underlying31 hi hz0 hz1 hz2 rfl (by decide) _ 0 [] rfl own0 ⟨g, 0, none⟩ N c (nods S) rfl NL.out (RW.out.2.2.2.news BW1.out) (nods_one S) (by unfold maxLen; omega) (by omega) (by omega) ?_)
  intro v2 w2 hown2 hgrow2 _
  have hb2 : Below (w.heap.size + 3) w1 w2 := (Below.refl _ _).grown hgrow2 (by omega) (fun g hg => by simp [Value.ownBlock] at hg)
  have OW2 : Hid (OwnNd 42 w2 (w.heap.size + 3) v2 S) := by
    show World.ownsRow _ _ _ _ _ _ _
    rw [HL.out]
    simpa using hown2
  have OWR : w2.ownsRow (w.heap.size + 3) 42 2 v2 N (nods S) := by simpa using hown2
  have T1 := TT1.out.to hb2 (by omega)
  have T3 := TT3.out.to hb2 (by omega)
  have Y0 := (hb2.cell (p := ⟨w.heap.size + 1, 0, none⟩) (by show w.heap.size + 1 < _; omega)).trans X0
  have Y1 := (hb2.cell (p := ⟨w.heap.size + 1, 1, none⟩) (by show w.heap.size + 1 < _; omega)).trans X1
  have BW2 : Hid (Below w.heap.size w w2) := BW1.out.trans (hb2.mono (by omega))
  rcases ownNd_form OW2.out with ⟨_, e⟩ | ⟨g2, cap, rfl, hbg, hgl, _, _, hin⟩
  · exfalso; rw [e] at HL; have := HL.out; simp at this; omega
  have hSN := HL.out
  rw [hSN] at OWR ⊢
  obtain ⟨s0, s1⟩ := hin.2 p (by omega)
  rw [Nat.zero_add] at s0 s1
  have fr := OWR.frozenAt
  have f0 := fr (p * 2)
  have f1 := fr (p * 2 + 1)
  have n1 : ¬ g2 = w.heap.size := by omega
  have n2 : ¬ w.heap.size = g2 := by omega
  have n3 : ¬ g2 = w.heap.size + 1 := by omega
  have n4 : ¬ w.heap.size + 1 = g2 := by omega
  have P1 := World.ownsRow.stored OWR (p * 2) (.int .i64 x1)
  have P2 := World.ownsRow.stored P1.1 (p * 2 + 1) (.int .i64 ((tAt S p).2 + x2))
  have ROW : Hid (OwnNd 42 ((w2.setCell ⟨g2, p * 2, none⟩ (.int .i64 x1)).setCell ⟨g2, p * 2 + 1, none⟩ (.int .i64 ((tAt S p).2 + x2))) (w.heap.size + 3) (.slice (some ⟨g2, 0, none⟩) N cap) (S.set p (x1, (tAt S p).2 + x2))) := by
    show World.ownsRow _ _ _ _ _ _ _
    rw [nods_put, List.length_set, hSN]
    exact P2.1
  have T1b := Lib.hid ((T1.far (k := p * 2) n1 (.int .i64 x1)).far (k := p * 2 + 1) n1 (.int .i64 ((tAt S p).2 + x2)))
  have n5 : g2 ≠ w.heap.size + 1 + 1 := by omega
  have T3b := Lib.hid ((T3.far (k := p * 2) n5 (.int .i64 x1)).far (k := p * 2 + 1) n5 (.int .i64 ((tAt S p).2 + x2)))
  have BW3 : Hid (Below w.heap.size w ((w2.setCell ⟨g2, p * 2, none⟩ (.int .i64 x1)).setCell ⟨g2, p * 2 + 1, none⟩ (.int .i64 ((tAt S p).2 + x2)))) := (BW2.out.setCell (p := ⟨g2, p * 2, none⟩) (by show w.heap.size ≤ g2; omega) _).setCell (p := ⟨g2, p * 2 + 1, none⟩) (by show w.heap.size ≤ g2; omega) _
  obtain ⟨y, hy⟩ : ∃ y, y = (tAt S p).2 := ⟨_, rfl⟩
  have hs1 : w2.cell? ⟨g2, p * 2 + 1, none⟩ = some (.int .i64 y) := by rw [hy]; exact s1
  rw [← hy] at ROW T1b T3b BW3 hx
  have HY := Lib.hid hy
  clear OW2 OWR hown2 hgrow2 T1 T3 P1 P2 s1 hy hin fr own0 c0 c1 c2 X0 X1
  go_wp2_with fail
  go_region
  generalize (w2.setCell ⟨g2, p * 2, none⟩ (.int .i64 x1)).setCell ⟨g2, p * 2 + 1, none⟩ (.int .i64 (y + x2)) = W at *
  have T1d := T1b.out.set2 (.slice (some ⟨g2, 0, none⟩) N cap)
  have T3c := T3b.out.far (r := w.heap.size) (k := 2) (by omega) (.slice (some ⟨g2, 0, none⟩) N cap)
  obtain ⟨q0, q1, q2⟩ := T3c.steps
  obtain ⟨j0, j1, j2, _, _, _, _⟩ := T1d
  obtain ⟨_, _, i2, _, _, r2, _⟩ := T1b.out
  obtain ⟨u0, u1, u2, e0, e1, e2, _⟩ := T3c
  clear T1b T3b hs1 f0 f1 s0 Y0 Y1
  go_wp2_with fail
  have hb6 := fun u a1 a2 a3 => ((((BW3.out.setCell (p := ⟨w.heap.size, 2, none⟩) (Nat.le_refl _) u).setCell (p := ⟨w.heap.size + 1 + 1, 0, none⟩) (by show w.heap.size ≤ w.heap.size + 1 + 1; omega) a1).setCell (p := ⟨w.heap.size + 1 + 1, 1, none⟩) (by show w.heap.size ≤ w.heap.size + 1 + 1; omega) a2).setCell (p := ⟨w.heap.size + 1 + 1, 2, none⟩) (by show w.heap.size ≤ w.heap.size + 1 + 1; omega) a3).drew
  have OW6 := fun u a1 a2 a3 => own_below (ownsRow_setCell_below (ownsRow_setCell_below (ownsRow_setCell_below (ownsRow_setCell_below ROW.out (a := ⟨w.heap.size, 2, none⟩) (by show w.heap.size < _; omega) u) (a := ⟨w.heap.size + 1 + 1, 0, none⟩) (by show w.heap.size + 1 + 1 < _; omega) a1) (a := ⟨w.heap.size + 1 + 1, 1, none⟩) (by show w.heap.size + 1 + 1 < _; omega) a2) (a := ⟨w.heap.size + 1 + 1, 2, none⟩) (by show w.heap.size + 1 + 1 < _; omega) a3) (below_drew _)
  have FIN := fun u a1 a2 a3 => own_low (OW6 u a1 a2 a3) (show w.heap.size ≤ w.heap.size + 3 by omega)
  rw [HY.out] at FIN
  exact bodyPost_ret (v := .agg #[.int .i64 l, .int .i64 (b : Int), .slice (some ⟨g2, 0, none⟩) N cap]) (by simp [results, Try.results88, go_sem, q0, q1, q2]) rfl ⟨g2, cap, by rw [HN.out], by rw [← HN.out]; exact FIN _ _ _ _, hb6 _ _ _ _⟩

end Go.Proofs.Ytomhikjohgiloaa
