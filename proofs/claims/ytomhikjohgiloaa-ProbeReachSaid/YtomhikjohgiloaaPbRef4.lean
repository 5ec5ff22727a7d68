/- The document's answers of package dewpondref08: Add. -/
import Derived.Test.YtomhikjohgiloaaPbRef3
import Derived.Test.YtomhikjohgiloaaDsRef2
import Derived.Deep.Cut
import Derived.Deep.DeepCutAuto
import Derived.StillTailTactics
import Derived.RegionTactic
import Derived.WalkSpells
namespace Go.Proofs.Ytomhikjohgiloaa
set_option linter.unusedVariables false
set_option maxRecDepth 100000
open Go.RowKit

theorem keep_three {W a b : World} {p q r : Addr} {x y z : Value} (h : a.cell? p = some x ∧ a.cell? q = some y ∧ a.cell? r = some z ∧ Below W.heap.size W a) (hb : Below a.heap.size a b) (hp : p.block < W.heap.size) (hq : q.block < W.heap.size) (hr : r.block < W.heap.size) : b.cell? p = some x ∧ b.cell? q = some y ∧ b.cell? r = some z ∧ Below W.heap.size W b := by
  obtain ⟨h1, h2, h3, h4⟩ := h
  have hz := h4.size
  exact ⟨(hb.cell (by omega)).trans h1, (hb.cell (by omega)).trans h2, (hb.cell (by omega)).trans h3, h4.trans (hb.mono hz)⟩
theorem below_of3 {W a : World} {p q r : Addr} {x y z : Value} (h : a.cell? p = some x ∧ a.cell? q = some y ∧ a.cell? r = some z ∧ Below W.heap.size W a) : Below W.heap.size W a := h.2.2.2
/-- a box of two cells that the region itself made -/
def Duo (w : World) (q : Nat) (x y : Value) : Prop := w.cell? ⟨q, 0, none⟩ = some x ∧ w.cell? ⟨q, 1, none⟩ = some y ∧ w.frozen? ⟨q, 0, none⟩ = false ∧ w.frozen? ⟨q, 1, none⟩ = false ∧ q < w.heap.size
theorem duo_alloc {w w2 : World} {t : TypeId} {x y : Value} (hb : Below (w.alloc (.cells #[x, y] t)).heap.size (w.alloc (.cells #[x, y] t)) w2) : Duo w2 w.heap.size x y := by
  have z : w.heap.size < (w.alloc (.cells #[x, y] t)).heap.size := by simp
  have a0 : (w.alloc (.cells #[x, y] t)).cell? ⟨w.heap.size, 0, none⟩ = some x := by simp
  have a1 : (w.alloc (.cells #[x, y] t)).cell? ⟨w.heap.size, 1, none⟩ = some y := by simp
  have b0 : (w.alloc (.cells #[x, y] t)).frozen? ⟨w.heap.size, 0, none⟩ = false := by simp
  have b1 : (w.alloc (.cells #[x, y] t)).frozen? ⟨w.heap.size, 1, none⟩ = false := by simp
  exact ⟨(hb.cell (p := ⟨w.heap.size, 0, none⟩) z).trans a0, (hb.cell (p := ⟨w.heap.size, 1, none⟩) z).trans a1, (hb.frozen (p := ⟨w.heap.size, 0, none⟩) z).trans b0, (hb.frozen (p := ⟨w.heap.size, 1, none⟩) z).trans b1, Nat.lt_of_lt_of_le z hb.size⟩
theorem duo_kept {w w2 : World} {q : Nat} {x y : Value} (h : Duo w q x y) (hb : Below w.heap.size w w2) : Duo w2 q x y :=
  ⟨(hb.cell (p := ⟨q, 0, none⟩) h.2.2.2.2).trans h.1, (hb.cell (p := ⟨q, 1, none⟩) h.2.2.2.2).trans h.2.1, (hb.frozen (p := ⟨q, 0, none⟩) h.2.2.2.2).trans h.2.2.1, (hb.frozen (p := ⟨q, 1, none⟩) h.2.2.2.2).trans h.2.2.2.1, Nat.lt_of_lt_of_le h.2.2.2.2 hb.size⟩
theorem duo_set {w : World} {q : Nat} {x y : Value} (h : Duo w q x y) : (∀ u, (w.setCell ⟨q, 0, none⟩ u).cell? ⟨q, 1, none⟩ = some y) := fun u => by
  rw [World.cell?_setCell_other _ _ _ _ (ad_ne q)]; exact h.2.1
/-- what a call leaves that hands a table out, and a number: the table is the one that came in, or new -/
def RdPost (l : Int) (b : Nat) (S : List Nd) (n : Int) (v0 : Value) (w : World) (e : Ending) (w' : World) : Prop :=
  ∃ g c : Nat, e = .returned (.tuple #[.agg #[.int .i64 l, .int .i64 (b : Int), .slice (some ⟨g, 0, none⟩) (2 ^ b) c], .int .i64 n]) ∧ OwnNd 42 w' 0 (.slice (some ⟨g, 0, none⟩) (2 ^ b) c) S ∧ Below w.heap.size w w' ∧ (Value.slice (some ⟨g, 0, none⟩) (2 ^ b) c = v0 ∨ w.heap.size ≤ g)
theorem two_boxes (w : World) (t1 t2 : TypeId) (x y z a b c : Value) : Below w.heap.size w ((w.alloc (.cells #[x, y, z] t1)).alloc (.cells #[a, b, c] t2)) ∧ TBx ((w.alloc (.cells #[x, y, z] t1)).alloc (.cells #[a, b, c] t2)) w.heap.size x y z ∧ TBx ((w.alloc (.cells #[x, y, z] t1)).alloc (.cells #[a, b, c] t2)) (w.heap.size + 1) a b c ∧ ((w.alloc (.cells #[x, y, z] t1)).alloc (.cells #[a, b, c] t2)).heap.size = w.heap.size + 2 := by
  have e1 : (w.alloc (.cells #[x, y, z] t1)).heap.size = w.heap.size + 1 := by simp
  have q := tbx_new (w.alloc (.cells #[x, y, z] t1)) t2 a b c
  rw [e1] at q
  exact ⟨((Below.refl _ _).alloc (Nat.le_refl _) _).alloc (by simp) _, (tbx_new w t1 x y z).alloc _, q, by simp⟩
theorem grow_facts {w w4 : World} {T : TypeId} {h0 B4 M b m4 k4 : Nat} {l bo sl x y z : Value} {A4 : Option Addr} {X : List Nd} (T1 : TBx w4 h0 l bo sl) (T2 : TBx w4 (h0 + 1) x y z) (O : OwnNd T w4 B4 (.slice A4 m4 k4) X) (hB : h0 < B4) (hM : M = 2 ^ (b + 1)) (BC : Below h0 w w4) (b1 : Value) (hM2 : M ≤ 2199023255552) :
    TBx (((w4.setCell ⟨h0, 1, none⟩ b1).setCell ⟨h0, 2, none⟩ (.slice (some ⟨w4.heap.size, 0, none⟩) M M)).alloc (.cells (blank (.agg #[.int .i64 0, .int .i64 0]) (M * 2)) T)) h0 l b1 (.slice (some ⟨w4.heap.size, 0, none⟩) M M) ∧
    TBx (((w4.setCell ⟨h0, 1, none⟩ b1).setCell ⟨h0, 2, none⟩ (.slice (some ⟨w4.heap.size, 0, none⟩) M M)).alloc (.cells (blank (.agg #[.int .i64 0, .int .i64 0]) (M * 2)) T)) (h0 + 1) x y z ∧
    OwnNd T (((w4.setCell ⟨h0, 1, none⟩ b1).setCell ⟨h0, 2, none⟩ (.slice (some ⟨w4.heap.size, 0, none⟩) M M)).alloc (.cells (blank (.agg #[.int .i64 0, .int .i64 0]) (M * 2)) T)) B4 (.slice A4 m4 k4) X ∧
    OwnNd T (((w4.setCell ⟨h0, 1, none⟩ b1).setCell ⟨h0, 2, none⟩ (.slice (some ⟨w4.heap.size, 0, none⟩) M M)).alloc (.cells (blank (.agg #[.int .i64 0, .int .i64 0]) (M * 2)) T)) w4.heap.size (.slice (some ⟨w4.heap.size, 0, none⟩) M M) (putL (b + 1) []) ∧
    Below h0 w (((w4.setCell ⟨h0, 1, none⟩ b1).setCell ⟨h0, 2, none⟩ (.slice (some ⟨w4.heap.size, 0, none⟩) M M)).alloc (.cells (blank (.agg #[.int .i64 0, .int .i64 0]) (M * 2)) T)) ∧
    w4.heap.size < (((w4.setCell ⟨h0, 1, none⟩ b1).setCell ⟨h0, 2, none⟩ (.slice (some ⟨w4.heap.size, 0, none⟩) M M)).alloc (.cells (blank (.agg #[.int .i64 0, .int .i64 0]) (M * 2)) T)).heap.size := by
  have hs : ((w4.setCell ⟨h0, 1, none⟩ b1).setCell ⟨h0, 2, none⟩ (.slice (some ⟨w4.heap.size, 0, none⟩) M M)).heap.size = w4.heap.size := by simp
  have bw := (BC.setCell (p := ⟨h0, 1, none⟩) (Nat.le_refl _) b1).setCell (p := ⟨h0, 2, none⟩) (Nat.le_refl _) (.slice (some ⟨w4.heap.size, 0, none⟩) M M)
  have t1 := (T1.set1 b1).set2 (.slice (some ⟨w4.heap.size, 0, none⟩) M M)
  have t2 := (T2.far (r := h0) (k := 1) (by omega) b1).far (r := h0) (k := 2) (by omega) (.slice (some ⟨w4.heap.size, 0, none⟩) M M)
  have o := ownsRow_setCell_below (ownsRow_setCell_below O (a := ⟨h0, 1, none⟩) hB b1) (a := ⟨h0, 2, none⟩) hB (.slice (some ⟨w4.heap.size, 0, none⟩) M M)
  have hl1 := T1.lt
  generalize (w4.setCell ⟨h0, 1, none⟩ b1).setCell ⟨h0, 2, none⟩ (.slice (some ⟨w4.heap.size, 0, none⟩) M M) = v at *
  have r := World.ownsRow_lit (base := w4.heap.size) (e := T) (size := 2) v (blank (.agg #[.int .i64 0, .int .i64 0]) (M * 2)) M (by omega) (by unfold maxLen; omega) (by rw [blank_size])
  rw [hs, blank_nodes] at r
  refine ⟨t1.alloc _, t2.alloc _, o.alloc _, ?_, bw.alloc (by omega) _, by simp; omega⟩
  show World.ownsRow _ _ _ _ _ _ _
  have e : putL (b + 1) [] = List.replicate M nz := by rw [hM]; rfl
  rw [e, List.length_replicate]
  exact r
theorem rt_as {l : Int} {b M : Nat} {X : List Nd} {w w' : World} {e : Ending} (q : RtPost l (b + 1) X w e w') (h1 : ((b + 1 : Nat) : Int) = (b : Int) + 1) (h2 : M = 2 ^ (b + 1)) :
    ∃ g c : Nat, e = .returned (.agg #[.int .i64 l, .int .i64 ((b : Int) + 1), .slice (some ⟨g, 0, none⟩) M c]) ∧ OwnNd 42 w' w.heap.size (.slice (some ⟨g, 0, none⟩) M c) X ∧ Below w.heap.size w w' := by
  obtain ⟨g, c, e1, e2, e3⟩ := q
  rw [h1, ← h2] at e1
  rw [← h2] at e2
  exact ⟨g, c, e1, e2, e3⟩
/-- one node more is put into the greater table -/
theorem put_round {l : Int} {b k : Nat} {S L : List Nd} (T : Tb l b S L) (hb : b ≤ 61) (hk : k < (ndsT S).length) :
    Put (b + 1) ((ndsT S).take k) (putL (b + 1) ((ndsT S).take k)) ∧ ((ndsT S).take k).length < 2 ^ (b + 1) ∧
    (1 ≤ ((ndsT S).getD k nz).1 ∧ ((ndsT S).getD k nz).1 ≤ 9223372036854775807) ∧
    (tAt (putL (b + 1) ((ndsT S).take k)) (posOf (b + 1) (putL (b + 1) ((ndsT S).take k)) ((ndsT S).getD k nz).1)).2 = 0 ∧ 1 ≤ ((ndsT S).getD k nz).2 ∧ ((ndsT S).getD k nz).2 ≤ 9223372036854775807 ∧
    putL (b + 1) ((ndsT S).take (k + 1)) = (putL (b + 1) ((ndsT S).take k)).set (posOf (b + 1) (putL (b + 1) ((ndsT S).take k)) ((ndsT S).getD k nz).1) ((ndsT S).getD k nz) := by
  have hp : 2 ^ (b + 1) = 2 * 2 ^ b := by rw [Nat.pow_succ]; omega
  have p3 := pow_3 T.tab.b3
  have hf := T.half
  have hc := T.cnt
  have h3 := T.tab.b3
  have P := put_take (b := b + 1) (by omega) (by omega) (nds_ids T.tab) (fun n hn => nds_pos T.tab hn) (by omega) k (by omega)
  have hl : ((ndsT S).take k).length < 2 ^ (b + 1) := by rw [List.length_take]; omega
  have hx := nds_pos T.tab (nd_mem hk)
  have hx2 := nds_bds T _ (nd_mem hk)
  have st := put_step P hl hx.1 hx.2 fun n hn => by
    have e := List.take_append_drop k (ndsT S)
    have hi := nds_ids T.tab
    rw [← e] at hi
    exact (List.pairwise_append.1 hi).2.2 n hn ((ndsT S).getD k nz) (by rw [nd_drop hk]; simp)
  refine ⟨P, hl, ⟨hx.1, hx2.1.2⟩, (zero_slot P.tab).1 st.2, hx.2, hx2.2.2, ?_⟩
  rw [nd_take hk, putL_snoc]
  rfl
set_option maxHeartbeats 3200000 in
theorem rtAdd_any {b g c : Nat} {l : Int} {S L : List Nd} (id cc : Int) (w : World) (d : OwnNd 42 w 0 (.slice (some ⟨g, 0, none⟩) (2 ^ b) c) S) (T : Tb l b S L) (hb : b ≤ 39) (hl : L.length ≤ 400000) (A0 : -9223372036854775808 ≤ id) (A1 : id ≤ 9223372036854775807) (B0 : -9223372036854775808 ≤ cc) (B1 : cc ≤ 9223372036854775807) :
    Calls Try.prog 55 #[.agg #[.int .i64 l, .int .i64 (b : Int), .slice (some ⟨g, 0, none⟩) (2 ^ b) c], .int .i64 id, .int .i64 cc] w
      (RdPost l (if addE l L id cc = 0 ∧ cc ≠ 0 then addB b S id else b) (if addE l L id cc = 0 ∧ cc ≠ 0 then addT b S id cc else S) (addE l L id cc) (.slice (some ⟨g, 0, none⟩) (2 ^ b) c) w) := by
  have TB := two_boxes w 33 33 (.int .i64 l) (.int .i64 (b : Int)) (.slice (some ⟨g, 0, none⟩) (2 ^ b) c) (.int .i64 0) (.int .i64 0) (.slice none 0 0)
  have OD := Lib.hid (own_below d TB.1)
  have TT := Lib.hid T
  have GW : Hid (g < w.heap.size) := (d.lt g rfl).2
  obtain ⟨N, hN⟩ : ∃ N, N = 2 ^ b := ⟨_, rfl⟩
  have HN := Lib.hid hN
  obtain ⟨b2, hb2⟩ : ∃ x, x = (if addE l L id cc = 0 ∧ cc ≠ 0 then addB b S id else b) := ⟨_, rfl⟩
  obtain ⟨S2, hS2⟩ : ∃ x, x = (if addE l L id cc = 0 ∧ cc ≠ 0 then addT b S id cc else S) := ⟨_, rfl⟩
  rw [← hb2, ← hS2]
  have HB2 := Lib.hid hb2
  have HS2 := Lib.hid hS2
  rw [← hN] at TB OD ⊢
  clear d T hN hb2 hS2
  go_enter Try.func55, Try.ntmps55
  go_wp2_with fail
  generalize (w.alloc (.cells #[.int .i64 l, .int .i64 (b : Int), .slice (some ⟨g, 0, none⟩) N c] 33)).alloc (.cells #[.int .i64 0, .int .i64 0, .slice none 0 0] 33) = W at *
  obtain ⟨BW0, T1, T2, hz⟩ := TB
  have BW := Lib.hid BW0
  have TA := Lib.hid T1
  have TR := Lib.hid T2
  have HZ := Lib.hid hz
  obtain ⟨x0, x1, x2, _, _, _, hlt1⟩ := T1
  have HL1 := Lib.hid hlt1
  clear T2 BW0
  have SD : Hid (SlAt W g (2 ^ b) S) := sl_own (by rw [← HN.out]; exact OD.out)
  have ND := Lib.hid (fun w' (hb' : Below W.heap.size W w') => (rtNodes_any (c := c) w' (SD.out.below hb') TT.out (by omega) (by omega)))
  rw [← HN.out] at ND
  have KW : Hid (∀ w', Below W.heap.size W w' → w'.cell? ⟨w.heap.size, 0, none⟩ = some (.int .i64 l) ∧ w'.cell? ⟨w.heap.size, 1, none⟩ = some (.int .i64 (b : Int)) ∧ w'.cell? ⟨w.heap.size, 2, none⟩ = some (.slice (some ⟨g, 0, none⟩) N c) ∧ Below W.heap.size W w') := fun w' h => ⟨(h.cell (p := ⟨w.heap.size, 0, none⟩) hlt1).trans x0, (h.cell (p := ⟨w.heap.size, 1, none⟩) hlt1).trans x1, (h.cell (p := ⟨w.heap.size, 2, none⟩) hlt1).trans x2, h⟩
  have AD := Lib.hid (fun w1 A3 m3 c3 (h : OwnNd 42 w1 0 (.slice A3 m3 c3) L) (hm : m3 ≤ 400000) => rsAdd_any l id cc A3 m3 c3 L w1 h TT.out.roll hm A0 A1 B0 B1)
  clear hlt1 x0 x1 x2 hz
  go_cut [8, 9] (fun s8 s9 wx => s9 = .int .i64 (addE l L id cc) ∧ Below W.heap.size W wx)
  case first =>
    go_region_held3 (fun w' => w'.cell? ⟨w.heap.size, 0, none⟩ = some (.int .i64 l) ∧ w'.cell? ⟨w.heap.size, 1, none⟩ = some (.int .i64 (b : Int)) ∧ w'.cell? ⟨w.heap.size, 2, none⟩ = some (.slice (some ⟨g, 0, none⟩) N c) ∧ Below W.heap.size W w')
      (first | assumption | (exact KW.out _ (below_drew _)) | (exact keep_three (by assumption) (by assumption) HL1.out HL1.out HL1.out) | (exact keep_three (by assumption) ((Below.refl _ _).alloc (Nat.le_refl _) _) HL1.out HL1.out HL1.out) | (exact KW.out _ (hw2.alloc hw2.size _)) | (exact KW.out _ ((hw2.setCell (p := ⟨w1.heap.size, 0, none⟩) hw1.size _).setCell (p := ⟨w1.heap.size, 1, none⟩) hw1.size _)) | (exact KW.out _ ((hw2.setCell (p := ⟨W.heap.size, 0, none⟩) (Nat.le_refl _) _).setCell (p := ⟨W.heap.size, 1, none⟩) (Nat.le_refl _) _)))
      (first
        | (go_at_call 86; refine (ND.out _ (below_of3 (p := ⟨w.heap.size, 0, none⟩) (q := ⟨w.heap.size, 1, none⟩) (r := ⟨w.heap.size, 2, none⟩) (x := .int .i64 l) (y := .int .i64 (b : Int)) (z := .slice (some ⟨g, 0, none⟩) N c) (by assumption))).mono ?_; rintro e w1 ⟨A3, m3, c3, rfl, ho3, hb3⟩; have hw1 : Below W.heap.size W w1 := Below.trans (below_of3 (p := ⟨w.heap.size, 0, none⟩) (q := ⟨w.heap.size, 1, none⟩) (r := ⟨w.heap.size, 2, none⟩) (x := .int .i64 l) (y := .int .i64 (b : Int)) (z := .slice (some ⟨g, 0, none⟩) N c) (by assumption)) (Below.mono hb3 (Below.size (below_of3 (p := ⟨w.heap.size, 0, none⟩) (q := ⟨w.heap.size, 1, none⟩) (r := ⟨w.heap.size, 2, none⟩) (x := .int .i64 l) (y := .int .i64 (b : Int)) (z := .slice (some ⟨g, 0, none⟩) N c) (by assumption)))); have hm3 : m3 ≤ 400000 := (by have := (nodes_cells (ownNd_nodes ho3)).1; omega); first | (have du3 : Hid (Duo w1 W.heap.size (.int .i64 0) (.slice none 0 0)) := duo_alloc hb3) | (have du3 : Hid (Duo w1 W.heap.size (.int .i64 0) (.slice none 0 0)) := duo_alloc ((below_drew _).trans hb3)) | skip)
        | (go_at_call 62; refine (AD.out _ A3 m3 c3 (own_low (by first | exact ho3 | exact World.ownsRow.alloc ho3 _) (Nat.zero_le _)) hm3).mono ?_; rintro e w2 ⟨A4, m4, c4, rfl, ho4, hb4, _⟩; have hw2 : Below W.heap.size W w2 := Below.trans (below_of3 (p := ⟨w.heap.size, 0, none⟩) (q := ⟨w.heap.size, 1, none⟩) (r := ⟨w.heap.size, 2, none⟩) (x := .int .i64 l) (y := .int .i64 (b : Int)) (z := .slice (some ⟨g, 0, none⟩) N c) (by assumption)) (Below.mono hb4 (Below.size (below_of3 (p := ⟨w.heap.size, 0, none⟩) (q := ⟨w.heap.size, 1, none⟩) (r := ⟨w.heap.size, 2, none⟩) (x := .int .i64 l) (y := .int .i64 (b : Int)) (z := .slice (some ⟨g, 0, none⟩) N c) (by assumption)))); first | (have vv := duo_alloc hb4; have vs := duo_set vv; obtain ⟨v0, v1, v2, v3, _⟩ := vv) | (have vv := duo_kept du3.out hb4; have vs := duo_set vv; obtain ⟨v0, v1, v2, v3, _⟩ := vv) | skip))
    all_goals (go_wp2_with fail; go_meet; exact ⟨rfl, by first | exact hw2 | exact hw2.alloc hw2.size _ | exact (hw2.setCell (p := ⟨w1.heap.size, 0, none⟩) hw1.size _).setCell (p := ⟨w1.heap.size, 1, none⟩) hw1.size _ | exact (hw2.setCell (p := ⟨W.heap.size, 0, none⟩) (Nat.le_refl _) _).setCell (p := ⟨W.heap.size, 1, none⟩) (Nat.le_refl _) _⟩)
  case rest =>
    obtain ⟨rfl, hwc⟩ := hcut
    have OD2 := Lib.hid (own_below OD.out hwc)
    have SD2 : Hid (SlAt wc g (2 ^ b) S) := sl_own (by rw [← HN.out]; exact OD2.out)
    have BC := Lib.hid (BW.out.trans (hwc.mono BW.out.size))
    have hzw := HZ.out
    have T1 := TA.out.to hwc HL1.out
    have T2 := TR.out.to hwc TR.out.lt
    have TC1 := Lib.hid T1
    have TC2 := Lib.hid T2
    have hwz := hwc.size
    have hgw : g ≠ w.heap.size + 1 := by have := GW.out; omega
    have hgb : (Value.slice (some ⟨g, 0, none⟩) N c).ownBlock ≠ some (w.heap.size + 1) := by simpa [Value.ownBlock] using hgw
    by_cases hE : addE l L id cc = 0 ∧ cc ≠ 0
    · obtain ⟨hE0, hcc⟩ := hE
      have RB : Hid (b2 = addB b S id) := by show _ = _; rw [HB2.out, if_pos ⟨hE0, hcc⟩]
      have RS : Hid (S2 = addT b S id cc) := by show _ = _; rw [HS2.out, if_pos ⟨hE0, hcc⟩]
      obtain ⟨hr, hc0, hsum⟩ := addE_ok.1 hE0
      obtain ⟨p0, p1⟩ := right_mx hr
      have T := TT.out
      have GC : growC b S id ↔ ((tAt S (posOf b S id)).1 ≠ id ∧ 2 ^ b < 2 * ((ndsT S).length + 1)) := Iff.rfl
      have AT : addT b S id cc = if growC b S id then (growT b S).set (posOf (b + 1) (growT b S) id) (id, cc) else S.set (posOf b S id) (id, (tAt S (posOf b S id)).2 + cc) := rfl
      have ABB : addB b S id = if growC b S id then b + 1 else b := rfl
      have HG := T.get (show id ≠ 0 by omega)
      have ST : (tAt S (posOf b S id)).1 = id ∨ (tAt S (posOf b S id)).1 = 0 := (T.ends id).stop
      have SLT := T.tab.slot (posOf b S id)
      have sx := sum_le T.roll.2.2.2.1 id
      have hhalf := T.half
      have hcnt := T.cnt
      obtain ⟨p, k, hp, hk, hps, lk⟩ := rfind_has T.tab (by omega) p0 p1 (T.ends id)
      have PUT := Lib.hid (fun w1 (d1 : OwnNd 42 w1 0 (.slice (some ⟨g, 0, none⟩) (2 ^ b) c) S) hx => rtPut_any (l := l) id cc w1 d1 T.tab (by omega) p0 p1 (T.ends id) hx)
      rw [hp.out] at GC AT HG ST SLT PUT
      have LK := Lib.hid (lk wc l g c SD2.out)
      have S2C := Lib.hid (fun w1 (d1 : SlAt w1 g (2 ^ b) S) => rtSlots2_any (c := c) w1 d1 T (by omega))
      have hps2 : p < N := by rw [HN.out]; exact hps
      rw [← HN.out] at LK S2C PUT
      have TB2 : Hid (Tb l b S L) := T
      clear T lk hp hk
      have hE1 : (addE l L id cc != 0) = false := by simpa using hE0
      have hE2 : (cc == 0) = false := by simpa using hcc
      have HE0 := Lib.hid hE0
      have HCC := Lib.hid hcc
      obtain ⟨c0, c1, c2, _, _, _, _⟩ := T1
      clear T2 hE0 hcc
      go_wp2_with fail
      refine LK.out.mono ?_
      rintro e w3 ⟨rfl, hb3⟩
      have T13 := TC1.out.to hb3 TC1.out.lt
      have T23 := Lib.hid (TC2.out.to hb3 TC2.out.lt)
      have TC13 := Lib.hid T13
      have SD3 := Lib.hid (SD2.out.below hb3)
      have BC3 := Lib.hid (BC.out.trans (hb3.mono BC.out.size))
      have OD3 := Lib.hid (own_below OD2.out hb3)
      obtain ⟨c0, c1, c2, _, _, _, _⟩ := T13
      clear hb3
      go_wp2_with fail
      refine (S2C.out _ (by rw [HN.out]; exact SD3.out)).mono ?_
      rintro e w4 ⟨v4, rfl, ho4, hb4⟩
      obtain ⟨A4, m4, k4, rfl⟩ := ownNd_slice ho4
      have hm4 := (nodes_cells (ownNd_nodes ho4)).1
      have HM4 := Lib.hid hm4
      have OW4 := Lib.hid ho4
      have T14 := TC13.out.to hb4 TC13.out.lt
      have T24 := T23.out.to hb4 T23.out.lt
      have TC14 := Lib.hid T14
      have TC24 := Lib.hid T24
      have BC4 := Lib.hid (BC3.out.trans (hb4.mono BC3.out.size))
      have OD4 := Lib.hid (own_below OD3.out hb4)
      have hsl := ((SD3.out.below hb4).2 p hps).2
      obtain ⟨c0, c1, c2, r0, r1, r2, _⟩ := T14
      have hm5 : m4 ≤ N := by have := hm4; have := HN.out; omega
      have hpN : N ≤ 1099511627776 := by rw [HN.out]; exact pow_40 (by omega)
      clear ho4 hb4 T24 hm4
      by_cases hgr : growC b S id
      · obtain ⟨hne, hbig⟩ := GC.1 hgr
        have ht0 : (tAt S p).1 = 0 := by omega
        have hz0 : (tAt S p).2 = 0 := by
          rcases SLT with q | q
          · rw [q]; rfl
          · omega
        rw [hz0] at hsl
        have hbig2 : ((N : Nat) : Int) < 2 * ((m4 : Int) + 1) := by have := HM4.out; have := HN.out; omega
        obtain ⟨T2, _⟩ := TB2.out.grow (by omega)
        obtain ⟨p2, k2, hp2, _, hps3, _⟩ := look_has T2 (by omega) p0 p1
        have HG2 := T2.get (show id ≠ 0 by omega)
        have PUT2 := Lib.hid (fun w1 g1 c1 (d1 : OwnNd 42 w1 0 (.slice (some ⟨g1, 0, none⟩) (2 ^ (b + 1)) c1) (growT b S)) hx => rtPut_any (l := l) id cc w1 d1 T2.tab (by omega) p0 p1 (T2.ends id) hx)
        rw [hp2.out] at HG2 PUT2
        have hz2 : (tAt (growT b S) p2).2 = 0 := by rw [HG2, ← HG, hz0]
        have RS2 : Hid (S2 = (growT b S).set p2 (id, 0 + cc)) := by show _ = _; rw [RS.out, AT, if_pos hgr, hp2.out, Int.zero_add]
        have RB2 : Hid (b2 = b + 1) := by show _ = _; rw [RB.out, ABB, if_pos hgr]
        rw [hz2] at PUT2
        have ROUND := Lib.hid (fun k (hk : k < (ndsT S).length) => put_round TB2.out (by omega) hk)
        obtain ⟨M, hM⟩ : ∃ M, M = 2 ^ (b + 1) := ⟨_, rfl⟩
        have hMN : M = 2 * N := by rw [hM, HN.out, Nat.pow_succ]; omega
        have HM := Lib.hid hM
        obtain ⟨i0, hi, hzz0, hzz1, hzz2⟩ := info_parts node_info
        have e3 : (2 : Int) * (N : Int) = (M : Nat) := by omega
        have hmk := make_all (P := Try.prog) Try.underlying31 hi hzz0 hzz1 hzz2 M (M * 2) rfl _ e3 (by omega) (by omega)
        have HMN := Lib.hid hMN
        have HZ14 := TC14.out.lt
        have HZ24 := TC24.out.lt
        have W5F := Lib.hid (grow_facts (T := 42) (M := M) TC14.out TC24.out OW4.out (show w.heap.size < w3.heap.size by have := TC13.out.lt; exact this) hM BC4.out (.int .i64 ((b : Int) + 1)) (by omega))
        have eb : ((b + 1 : Nat) : Int) = (b : Int) + 1 := by omega
        have EB := Lib.hid eb
        have hxx : 0 ≤ (0 : Int) + cc ∧ (0 : Int) + cc ≤ 9223372036854775807 := by omega
        have HXX := Lib.hid hxx
        have HMM := Lib.hid (show M ≤ 2199023255552 by omega)
        clear GC AT ABB ST SLT HG hgr hne hbig ht0 hz0 HG2 hz2 T2 hp2 hM e3 hi hMN eb hxx
        go_wp2_with fail
        generalize ((w4.setCell ⟨w.heap.size, 1, none⟩ (.int .i64 ((b : Int) + 1))).setCell ⟨w.heap.size, 2, none⟩ (.slice (some ⟨w4.heap.size, 0, none⟩) M M)).alloc (.cells (blank (.agg #[.int .i64 0, .int .i64 0]) (M * 2)) 42) = W5 at *
        clear c0 c1 c2 r0 r1 r2 hmk hsl
        go_loopw [13] (fun iv wr => ∃ (k' gk ck : Nat), k' ≤ m4 ∧ iv = .int .i64 (k' : Int) ∧ TBx wr w.heap.size (.int .i64 l) (.int .i64 ((b : Int) + 1)) (.slice (some ⟨gk, 0, none⟩) M ck) ∧ TBx wr (w.heap.size + 1) (.int .i64 0) (.int .i64 0) (.slice none 0 0) ∧ OwnNd 42 wr w3.heap.size (.slice A4 m4 k4) (ndsT S) ∧ OwnNd 42 wr w4.heap.size (.slice (some ⟨gk, 0, none⟩) M ck) (putL (b + 1) ((ndsT S).take k')) ∧ Below w.heap.size w wr ∧ w4.heap.size < wr.heap.size) (fun iv _ => m4 - (intOf iv).toNat)
        case atStart => exact ⟨0, w4.heap.size, M, by omega, rfl, W5F.out.1, W5F.out.2.1, W5F.out.2.2.1, W5F.out.2.2.2.1, W5F.out.2.2.2.2.1, W5F.out.2.2.2.2.2⟩
        case round =>
          rename_i wr
          obtain ⟨k', gk, ck, hk', rfl, t1, t2, ol, ot, bl, hz4⟩ := hrel
          have X1 := Lib.hid t1
          have X2 := Lib.hid t2
          have XL := Lib.hid ol
          have XT := Lib.hid ot
          have XB := Lib.hid bl
          have XZ := Lib.hid hz4
          by_cases hlt : k' < m4
          · have hkn : k' < (ndsT S).length := by rw [← HM4.out]; exact hlt
            obtain ⟨R1, R2, R3, R4, R5, R6, R7⟩ := ROUND.out k' hkn
            obtain ⟨ab, capb, hab, _, _, _, _, hin⟩ : ∃ ab capb, Value.slice A4 m4 k4 = .slice (some ⟨ab, 0, none⟩) (ndsT S).length capb ∧ w3.heap.size ≤ ab ∧ ab < wr.heap.size ∧ (ndsT S).length ≤ capb ∧ capb ≤ maxLen ∧ NdIn wr ab 0 (ndsT S) := by
              rcases ownNd_form ol with ⟨_, e⟩ | q
              · rw [e] at hkn; simp at hkn
              · exact q
            injection hab with hab hq1 hq2
            clear hq1 hq2
            subst hab
            obtain ⟨s0, s1⟩ := hin.2 k' hkn
            rw [Nat.zero_add] at s0 s1
            have PB := Lib.hid (rtPut_any (l := l) ((ndsT S).getD k' nz).1 ((ndsT S).getD k' nz).2 wr.drew (own_low (own_below (by rw [← HM.out]; exact ot) (below_drew wr)) (Nat.zero_le _)) R1.tab (by omega) R3.1 R3.2 (put_ends R1 R2 _) (by rw [R4]; omega))
            rw [R4, Int.zero_add, ← R7] at PB
            obtain ⟨⟨x1, x2⟩, hx⟩ : ∃ x, x = (ndsT S).getD k' nz := ⟨_, rfl⟩
            rw [← hx] at s0 s1 PB
            simp only [EB.out, ← HM.out] at s0 s1 PB
            have PB3 := Lib.hid (PB.out.mono fun e w' q => rt_as q EB.out HM.out)
            clear PB
            obtain ⟨c0, c1, c2, r0, r1, r2, _⟩ := t1
            clear R1 R2 R3 R4 R5 R6 R7 hx hin t2 ol ot bl
            go_wp2_with fail
            have hd : ∀ a, ({ heap := wr.heap, tape := wr.tape, drawn := wr.drawn + 1, os := wr.os, output := wr.output } : World).cell? a = wr.cell? a := fun _ => rfl
            go_still_tail 5, (by kernel_rfl)
            change wpList _ _ _ _ _ (World.drew wr)
            clear hd c0 c1 c2 r0 r1 r2
            have XD1 := Lib.hid (X1.out.to (below_drew wr) X1.out.lt)
            have XD2 := Lib.hid (X2.out.to (below_drew wr) X2.out.lt)
            go_wp2_with (go_at_call 88; refine PB3.out.mono ?_; rintro e w6 ⟨g6, c6, rfl, ho6, hb6⟩; have T16 := XD1.out.to hb6 XD1.out.lt; obtain ⟨j0, j1, j2, y0, y1, y2, _⟩ := T16)
            have T16 := XD1.out.to hb6 XD1.out.lt
            have T26 := XD2.out.to hb6 XD2.out.lt
            have hz6 := hb6.size
            have hzz := X1.out.lt
            have hz7 := X2.out.lt
            have hg6 := (World.ownsRow.lt ho6 g6 rfl).1
            have hz8 := XZ.out
            have hdz : wr.drew.heap.size = wr.heap.size := rfl
            go_roundw
            case rel =>
              refine ⟨k' + 1, g6, c6, by omega, by go_num, T16.all _ _ _, ((T26.far (r := w.heap.size) (k := 0) (by omega) _).far (r := w.heap.size) (k := 1) (by omega) _).far (r := w.heap.size) (k := 2) (by omega) _, ?_, ?_, ?_, ?_⟩
              · exact ownsRow_setCell_below (ownsRow_setCell_below (ownsRow_setCell_below (own_below (own_below XL.out (below_drew wr)) hb6) (a := ⟨w.heap.size, 0, none⟩) TC13.out.lt _) (a := ⟨w.heap.size, 1, none⟩) TC13.out.lt _) (a := ⟨w.heap.size, 2, none⟩) TC13.out.lt _
              · exact own_low (ownsRow_setCell_below (ownsRow_setCell_below (ownsRow_setCell_below ho6 (a := ⟨w.heap.size, 0, none⟩) hzz _) (a := ⟨w.heap.size, 1, none⟩) hzz _) (a := ⟨w.heap.size, 2, none⟩) hzz _) (by omega)
              · exact below_set3 ((XB.out.trans ((below_drew wr).mono XB.out.size)).trans (hb6.mono XB.out.size)) (Nat.le_refl _) _ _ _
              · simp; omega
            case measure => simp [intOf]; omega
          · have hkn : k' = m4 := by omega
            have XT2 : Hid (OwnNd 42 wr 0 (.slice (some ⟨gk, 0, none⟩) (2 ^ (b + 1)) ck) (growT b S)) := by
              have q := own_low ot (Nat.zero_le _)
              rw [hkn, HM4.out, List.take_of_length_le (Nat.le_refl _)] at q
              show OwnNd _ _ _ _ _
              rw [← HM.out]
              exact q
            have PB := Lib.hid (PUT2.out wr gk ck XT2.out HXX.out)
            simp only [EB.out, ← HM.out] at PB
            obtain ⟨c0, c1, c2, _, _, _, _⟩ := t1
            clear t2 ol ot bl
            go_wp2_with fail
            refine PB.out.mono ?_
            rintro e w5 ⟨g5, c5, rfl, ho5, hb5⟩
            have T25 := X2.out.to hb5 X2.out.lt
            have hl24 := X2.out.lt
            have hg5 := (World.ownsRow.lt ho5 g5 rfl).1
            have OW5 := Lib.hid ho5
            have BC5 := Lib.hid (XB.out.trans (hb5.mono XB.out.size))
            have G5 : Hid (w.heap.size ≤ g5) := by show _ ≤ _; omega
            have hgb5 : Hid ((Value.slice (some ⟨g5, 0, none⟩) (2 ^ (b + 1)) c5).ownBlock ≠ some (w.heap.size + 1)) := by
              show _ ≠ _
              simp [Value.ownBlock]; omega
            obtain ⟨q0, q1, q2⟩ := T25.steps
            obtain ⟨u0, u1, u2, f0, f1, f2, _⟩ := T25
            clear ho5 hb5 hl24 hg5 c0 c1 c2
            go_wp2_with fail
            exact bodyPost_ret (v := .tuple #[.agg #[.int .i64 l, .int .i64 ((b : Int) + 1), .slice (some ⟨g5, 0, none⟩) (2 ^ (b + 1)) c5], .int .i64 0]) (by simp [results, Try.results55, go_sem, q0, q1, q2]) rfl ⟨g5, c5, by rw [RB2.out, HE0.out, EB.out], by rw [RB2.out, RS2.out]; exact own_low (own_set3 OW5.out hgb5.out _ _ _) (Nat.zero_le _), below_set3 BC5.out (Nat.le_succ _) _ _ _, .inr G5.out⟩
      · have RS2 : Hid (S2 = S.set p (id, (tAt S p).2 + cc)) := by show _ = _; rw [RS.out, AT, if_neg hgr]
        have RB2 : Hid (b2 = b) := by show _ = _; rw [RB.out, ABB, if_neg hgr]
        have hx : 0 ≤ (tAt S p).2 + cc ∧ (tAt S p).2 + cc ≤ 9223372036854775807 := by rw [HG]; omega
        have PU := Lib.hid (PUT.out w4 OD4.out hx)
        have hcase : ((tAt S p).2 ≠ 0) ∨ ((tAt S p).2 = 0 ∧ ¬ ((N : Nat) : Int) < 2 * ((m4 : Int) + 1)) := by
          by_cases q : (tAt S p).2 = 0
          · refine .inr ⟨q, fun q2 => hgr (GC.2 ⟨?_, ?_⟩)⟩
            · rcases SLT with z | z
              · rw [z]; show (0 : Int) ≠ id; omega
              · omega
            · have := HM4.out; have := HN.out; omega
          · exact .inl q
        obtain ⟨y, hy⟩ : ∃ y, y = (tAt S p).2 := ⟨_, rfl⟩
        rw [← hy] at PU hcase hsl
        have HY := Lib.hid hy
        clear GC AT ABB hgr hx hy ST SLT HG
        have END : ∀ e w', RtPost l b (S.set p (id, y + cc)) w4 e w' → True := fun _ _ _ => trivial
        clear END
        rcases hcase with hyn | ⟨hyz, hsm⟩
        · have hyn' : (y == 0) = false := by simpa using hyn
          clear hyn
          go_wp2_with fail
          refine PU.out.mono ?_
          rintro e w5 ⟨g5, c5, rfl, ho5, hb5⟩
          have T25 := TC24.out.to hb5 TC24.out.lt
          have hl24 := TC24.out.lt
          have hg5 := (World.ownsRow.lt ho5 g5 rfl).1
          have OW5 := Lib.hid ho5
          have BC5 := Lib.hid (BC4.out.trans (hb5.mono BC4.out.size))
          have G5 : Hid (w.heap.size ≤ g5) := by show _ ≤ _; omega
          have hgb5 : Hid ((Value.slice (some ⟨g5, 0, none⟩) (2 ^ b) c5).ownBlock ≠ some (w.heap.size + 1)) := by
            show _ ≠ _
            simp [Value.ownBlock]; omega
          obtain ⟨q0, q1, q2⟩ := T25.steps
          obtain ⟨u0, u1, u2, f0, f1, f2, _⟩ := T25
          clear ho5 hb5 hl24 hg5 c0 c1 c2 hsl
          go_wp2_with fail
          exact bodyPost_ret (v := .tuple #[.agg #[.int .i64 l, .int .i64 (b : Int), .slice (some ⟨g5, 0, none⟩) (2 ^ b) c5], .int .i64 0]) (by simp [results, Try.results55, go_sem, q0, q1, q2]) rfl ⟨g5, c5, by rw [RB2.out, HE0.out], by rw [RB2.out, RS2.out, ← HY.out]; exact own_low (own_set3 OW5.out hgb5.out _ _ _) (Nat.zero_le _), below_set3 BC5.out (Nat.le_succ _) _ _ _, .inr G5.out⟩
        · subst hyz
          go_wp2_with fail
          refine PU.out.mono ?_
          rintro e w5 ⟨g5, c5, rfl, ho5, hb5⟩
          have T25 := TC24.out.to hb5 TC24.out.lt
          have hl24 := TC24.out.lt
          have hg5 := (World.ownsRow.lt ho5 g5 rfl).1
          have OW5 := Lib.hid ho5
          have BC5 := Lib.hid (BC4.out.trans (hb5.mono BC4.out.size))
          have G5 : Hid (w.heap.size ≤ g5) := by show _ ≤ _; omega
          have hgb5 : Hid ((Value.slice (some ⟨g5, 0, none⟩) (2 ^ b) c5).ownBlock ≠ some (w.heap.size + 1)) := by
            show _ ≠ _
            simp [Value.ownBlock]; omega
          obtain ⟨q0, q1, q2⟩ := T25.steps
          obtain ⟨u0, u1, u2, f0, f1, f2, _⟩ := T25
          clear ho5 hb5 hl24 hg5 c0 c1 c2 hsl
          go_wp2_with fail
          exact bodyPost_ret (v := .tuple #[.agg #[.int .i64 l, .int .i64 (b : Int), .slice (some ⟨g5, 0, none⟩) (2 ^ b) c5], .int .i64 0]) (by simp [results, Try.results55, go_sem, q0, q1, q2]) rfl ⟨g5, c5, by rw [RB2.out, HE0.out], by rw [RB2.out, RS2.out, ← HY.out]; exact own_low (own_set3 OW5.out hgb5.out _ _ _) (Nat.zero_le _), below_set3 BC5.out (Nat.le_succ _) _ _ _, .inr G5.out⟩
    · have RB : Hid (b2 = b) := by show _ = _; rw [HB2.out, if_neg hE]
      have RS : Hid (S2 = S) := by show _ = _; rw [HS2.out, if_neg hE]
      obtain ⟨c0, c1, c2, _, _, _, _⟩ := T1
      obtain ⟨q0, q1, q2⟩ := T2.steps
      obtain ⟨u0, u1, u2, f0, f1, f2, _⟩ := T2
      have FIN := fun a1 a2 a3 => own_set3 OD2.out hgb a1 a2 a3
      have FB := fun a1 a2 a3 => below_set3 BC.out (show w.heap.size ≤ w.heap.size + 1 by omega) a1 a2 a3
      by_cases h0 : addE l L id cc = 0
      · have hcc : cc = 0 := Classical.byContradiction fun q => hE ⟨h0, q⟩
        have h0' : (addE l L id cc != 0) = false := by simpa using h0
        have HE := Lib.hid h0
        have HCC := Lib.hid hcc
        have hcc' : (cc == 0) = true := by simpa using hcc
        clear h0 hE hcc hgb
        go_wp2_with fail
        exact bodyPost_ret (v := .tuple #[.agg #[.int .i64 l, .int .i64 (b : Int), .slice (some ⟨g, 0, none⟩) N c], .int .i64 (addE l L id cc)]) (by simp [results, Try.results55, go_sem, q0, q1, q2]) rfl ⟨g, c, by rw [RB.out, HN.out], by rw [RB.out, RS.out, ← HN.out]; exact FIN _ _ _, FB _ _ _, .inl (by rw [RB.out, HN.out])⟩
      · have h0' : (addE l L id cc != 0) = true := by simpa using h0
        clear h0 hE hgb
        go_wp2_with fail
        exact bodyPost_ret (v := .tuple #[.agg #[.int .i64 l, .int .i64 (b : Int), .slice (some ⟨g, 0, none⟩) N c], .int .i64 (addE l L id cc)]) (by simp [results, Try.results55, go_sem, q0, q1, q2]) rfl ⟨g, c, by rw [RB.out, HN.out], by rw [RB.out, RS.out, ← HN.out]; exact FIN _ _ _, FB _ _ _, .inl (by rw [RB.out, HN.out])⟩

end Go.Proofs.Ytomhikjohgiloaa
