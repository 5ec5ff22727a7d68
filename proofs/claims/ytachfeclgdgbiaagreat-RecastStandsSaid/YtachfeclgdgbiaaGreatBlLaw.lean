/- What the statements of layer blend call: Few, some, Made, Like (of dewpondlaw14). -/
import Derived.Test.YtachfeclgdgbiaaGreatBlRef3
import Derived.Test.YtachfeclgdgbiaaGreatDgL
import Derived.Test.YtachfeclgdgbiaaGreatDgLaw5
namespace Go.Proofs.YtachfeclgdgbiaaGreat
set_option linter.unusedVariables false
set_option maxRecDepth 100000
open Go.RowKit

/-- a side in a box: its conf and its calls -/
def sideV (l k kd : Int) (A : Option Addr) (n c : Nat) : Value := .agg #[.int .i64 l, .int .i64 k, .int .i64 kd, .slice A n c]
/-- what Few tells: if it is so, there is such a digest, and there are not many calls -/
def BlFewPost (kd l k : Int) (n : Nat) (w : World) (e : Ending) (w' : World) : Prop := ∃ b, e = .returned (.bool b) ∧ (b = true → n ≤ 60 ∧ kIs k = true ∧ isP kd l = true) ∧ Below w.heap.size w w'
theorem blFew_post {kd l k : Int} {n : Nat} {w w' : World} (b : Bool) (h : b = true → n ≤ 60 ∧ kIs k = true ∧ isP kd l = true) (hb : Below w.heap.size w w') : BlFewPost kd l k n w (.returned (.bool b)) w' := ⟨b, rfl, h, hb⟩
set_option maxHeartbeats 3200000 in
theorem dgFew_no (l k kd : Int) (n : Nat) (w : World) (hc : ¬ (kIs k = true ∧ isP kd l = true)) :
    Calls Tryz.prog 30 #[.agg #[.int .i64 l, .int .i64 k, .int .i64 kd], .int .i64 (n : Int)] w fun e w' => e = .returned (.bool false) ∧ Below w.heap.size w w' := by
  have HB0 : Hid (Below w.heap.size w (w.alloc (.cells #[.int .i64 l, .int .i64 k, .int .i64 kd] 23))) := (Below.refl _ _).alloc (Nat.le_refl _) _
  have X0 := Lib.hid (tri_nw w 23 (.int .i64 l) (.int .i64 k) (.int .i64 kd))
  obtain ⟨x0, x1, x2, _, _, _, hz⟩ := tri_all X0.out
  have IS := Lib.hid (fun w => rDgIs_any l k kd w)
  have hf : (kIs k && isP kd l) = false := by
    rw [Bool.and_eq_false_iff]
    rcases Classical.em (kIs k = true) with q | q
    · exact .inr (Bool.eq_false_iff.2 fun z => hc ⟨q, z⟩)
    · exact .inl (Bool.eq_false_iff.2 q)
  rw [hf] at IS
  clear hc hf
  by_cases hn : n ≤ 60
  · have g0 : decide ((n : Int) ≤ 60) = true := decide_eq_true (by omega)
    clear hn
    go_enter Tryz.func30, Tryz.ntmps30
    go_wp2_with (go_at_call 65; refine (IS.out _).mono ?_; rintro e w1 ⟨rfl, hb1⟩)
    go_ret
    exact ⟨rfl, HB0.out.trans (hb1.mono HB0.out.size)⟩
  · have g0 : decide ((n : Int) ≤ 60) = false := decide_eq_false (by omega)
    clear hn
    go_enter Tryz.func30, Tryz.ntmps30
    go_wp2_with fail
    go_ret
    exact ⟨rfl, HB0.out⟩
theorem dgFew_all (l k kd : Int) (n : Nat) (w : World) : Calls Tryz.prog 30 #[.agg #[.int .i64 l, .int .i64 k, .int .i64 kd], .int .i64 (n : Int)] w (BlFewPost kd l k n w) := by
  by_cases hc : kIs k = true ∧ isP kd l = true
  · exact (dgFew_any l k kd n w hc).mono fun e w' ⟨b, a, h, hb⟩ => ⟨b, a, fun z => ⟨h z, hc.1, hc.2⟩, hb⟩
  · exact (dgFew_no l k kd n w hc).mono fun e w' ⟨a, hb⟩ => ⟨false, a, fun z => by simp at z, hb⟩
set_option maxHeartbeats 1600000 in
theorem blFew_any (l k kd : Int) (A : Option Addr) (n c : Nat) (w : World) :
    Calls Tryz.prog 9 #[.agg #[.int .i64 l, .int .i64 k, .int .i64 kd, .slice A n c]] w (BlFewPost kd l k n w) := by
  have HB0 : Hid (Below w.heap.size w (w.alloc (.cells #[.int .i64 l, .int .i64 k, .int .i64 kd, .slice A n c] 26))) := (Below.refl _ _).alloc (Nat.le_refl _) _
  have X0 := Lib.hid (quad_new w 26 (.int .i64 l) (.int .i64 k) (.int .i64 kd) (.slice A n c))
  obtain ⟨x0, x1, x2, x3, _, _, _, _, hz⟩ := quad_all X0.out
  go_enter Tryz.func9, Tryz.ntmps9
  go_wp2_with fail
  refine (dgFew_all l k kd n _).mono ?_
  rintro e w1 ⟨b, rfl, hbn, hb1⟩
  have B1 := Lib.hid (HB0.out.trans (hb1.mono HB0.out.size))
  have HN := Lib.hid hbn
  clear hb1 hbn
  go_wp2_with fail
  go_ret
  exact blFew_post b HN.out B1.out
/-- what Made hands out: a side's digest, and the document's, in a row of its own -/
def BlMadeOwn (kd l k : Int) (n : Nat) (O : List Pl) (w : World) (e : Ending) (w' : World) : Prop :=
  ∃ (q p g h : Nat) (A : Option Addr) (m c : Nat), e = .returned (.tuple #[.pointer (some ⟨q, 0, none⟩), .agg #[.int .i64 k, .int .i64 l, .slice A m c]]) ∧ DgA w' w.heap.size q p g h kd l k n (dgOf l k O) ∧ OwnNd 75 w' 0 (.slice A m c) (dgOf l k O) ∧ Below w.heap.size w w'
def BlMadePost (kd l k : Int) (n : Nat) (O : List Pl) (w : World) (e : Ending) (w' : World) : Prop :=
  ∃ (q p g h : Nat) (A : Option Addr) (m c : Nat), e = .returned (.tuple #[.pointer (some ⟨q, 0, none⟩), .agg #[.int .i64 k, .int .i64 l, .slice A m c]]) ∧ DgA w' w.heap.size q p g h kd l k n (dgOf l k O) ∧ NodesAt w' (.slice A m c) (dgOf l k O) ∧ Below w.heap.size w w'
set_option maxHeartbeats 3200000 in
theorem blMade_own (l k kd : Int) (A : Option Addr) (n c : Nat) (O : List Pl) (w : World) (H1 : PlacedAt w (.slice A n c) O) (OB : OBds O) (hn : n ≤ 100) (hc : kIs k = true ∧ isP kd l = true) :
    Calls Tryz.prog 11 #[.agg #[.int .i64 l, .int .i64 k, .int .i64 kd, .slice A n c]] w (BlMadeOwn kd l k n O w) := by
  have e1 : (w.alloc (.cells #[.int .i64 l, .int .i64 k, .int .i64 kd, .slice A n c] 26)).heap.size = w.heap.size + 1 := by simp
  have X0 := Lib.hid ((quad_new w 26 (.int .i64 l) (.int .i64 k) (.int .i64 kd) (.slice A n c)).alloc (.cells #[.int .i64 0, .int .i64 0, .slice none 0 0] 37))
  have R0 : Hid (((w.alloc (.cells #[.int .i64 l, .int .i64 k, .int .i64 kd, .slice A n c] 26)).alloc (.cells #[.int .i64 0, .int .i64 0, .slice none 0 0] 37)).ownsRow w.heap.size 37 3 (.slice (some ⟨w.heap.size + 1, 0, none⟩) 1 1) 1 [.int .i64 0, .int .i64 0, .slice none 0 0]) := by
    have z := tri_nw (w.alloc (.cells #[.int .i64 l, .int .i64 k, .int .i64 kd, .slice A n c] 26)) 37 (.int .i64 0) (.int .i64 0) (.slice none 0 0)
    rw [e1] at z
    exact own_low z (Nat.le_succ _)
  have HB0 : Hid (Below w.heap.size w ((w.alloc (.cells #[.int .i64 l, .int .i64 k, .int .i64 kd, .slice A n c] 26)).alloc (.cells #[.int .i64 0, .int .i64 0, .slice none 0 0] 37))) := ((Below.refl _ _).alloc (Nat.le_refl _) _).alloc (by simp) _
  have Z0 : Hid (((w.alloc (.cells #[.int .i64 l, .int .i64 k, .int .i64 kd, .slice A n c] 26)).alloc (.cells #[.int .i64 0, .int .i64 0, .slice none 0 0] 37)).heap.size = w.heap.size + 2) := by show _ = _; simp
  have HP := Lib.hid (H1.below HB0.out)
  have HOB : Hid (OBds O) := OB
  have HU : Hid (1 ≤ l ∧ l ≤ 48) := by rcases of_decide_eq_true hc.2 with q | q <;> exact ⟨by omega, by omega⟩
  have MD := Lib.hid (dgMade_any l k kd A n c O _ HP.out OB hn hc)
  have OF := Lib.hid (fun v (hb : Below _ _ v) => rBlOf_any l k A n c O v (HP.out.below hb) HOB.out hn HU.out hc.1)
  obtain ⟨x0, x1, x2, x3, _, _, _, _, hz⟩ := quad_all X0.out
  clear H1 OB hc e1
  go_enter Tryz.func11, Tryz.ntmps11
  go_wp2_with fail
  generalize (w.alloc (.cells #[.int .i64 l, .int .i64 k, .int .i64 kd, .slice A n c] 26)).alloc (.cells #[.int .i64 0, .int .i64 0, .slice none 0 0] 37) = W0 at *
  refine MD.out.mono ?_
  rintro e w1 ⟨q, p, g, h, T, A1, m1, c1, rfl, hd, hv, hlen, hs, hb1⟩
  have hba := (Below.refl w1.heap.size w1).alloc (Nat.le_refl _) (.cells #[.int .i64 l, .slice A1 m1 c1] 56)
  have R2 := Lib.hid (hb1.trans (hba.mono hb1.size))
  have D2 := Lib.hid (hd.below hba)
  have X2 := Lib.hid (own_below X0.out R2.out)
  obtain ⟨x0, x1, x2, x3, _, _, _, _, hz⟩ := quad_all X2.out
  clear hd hv hlen hs hb1 hba MD
  go_wp2_with fail
  generalize w1.alloc (.cells #[.int .i64 l, .slice A1 m1 c1] 56) = W2 at *
  refine (OF.out _ R2.out).mono ?_
  rintro e w3 ⟨A3, m3, c3, rfl, ho3, hb3⟩
  have R3 := Lib.hid (R2.out.trans (hb3.mono R2.out.size))
  have RR := Lib.hid (own_below R0.out R3.out)
  have T := Lib.hid (tri_set RR.out (.int .i64 k) (.int .i64 l) (.slice A3 m3 c3))
  have O3 := Lib.hid (T.out.2.1 _ _ _ _ _ _ (by decide) ho3)
  have B3 := Lib.hid ((HB0.out.trans (R3.out.mono HB0.out.size)).trans T.out.2.2.1)
  have KS : Hid (Kp (fun i => i = w.heap.size + 1) w3 (((w3.setCell ⟨w.heap.size + 1, 0, none⟩ (.int .i64 k)).setCell ⟨w.heap.size + 1, 1, none⟩ (.int .i64 l)).setCell ⟨w.heap.size + 1, 2, none⟩ (.slice A3 m3 c3))) :=
    ((Kp.setCell w3 ⟨w.heap.size + 1, 0, none⟩ (.int .i64 k)).trans (Kp.setCell _ ⟨w.heap.size + 1, 1, none⟩ (.int .i64 l)) (fun _ _ z => z)).trans (Kp.setCell _ ⟨w.heap.size + 1, 2, none⟩ (.slice A3 m3 c3)) (fun _ _ z => z)
  have D3 := Lib.hid (((D2.out.below hb3).kp KS.out fun i e f => by have := (D2.out.lt i f).1; have := Z0.out; omega).low (B2 := w.heap.size) (by have := Z0.out; omega))
  obtain ⟨y0, y1, y2, yf0, yf1, yf2, hy⟩ := tri_all RR.out
  obtain ⟨q0, q1, q2⟩ := set_three RR.out (.int .i64 k) (.int .i64 l) (.slice A3 m3 c3)
  clear ho3 hb3 OF x0 x1 x2 x3
  go_wp2_with fail
  exact bodyPost_ret (v := .tuple #[.pointer (some ⟨q, 0, none⟩), .agg #[.int .i64 k, .int .i64 l, .slice A3 m3 c3]]) (by simp [results, Tryz.results11, go_sem, q0, q1, q2]) rfl ⟨q, p, g, h, A3, m3, c3, rfl, D3.out, O3.out, B3.out⟩
theorem blMade_any (l k kd : Int) (A : Option Addr) (n c : Nat) (O : List Pl) (w : World) (H1 : PlacedAt w (.slice A n c) O) (OB : OBds O) (hn : n ≤ 100) (hc : kIs k = true ∧ isP kd l = true) :
    Calls Tryz.prog 11 #[.agg #[.int .i64 l, .int .i64 k, .int .i64 kd, .slice A n c]] w (BlMadePost kd l k n O w) :=
  (blMade_own l k kd A n c O w H1 OB hn hc).mono fun e w' ⟨q, p, g, h, A2, m, c2, a, b, d, f⟩ => ⟨q, p, g, h, A2, m, c2, a, b, ownNd_nodes d, f⟩
theorem keep_threeB {W a b : World} {p q r : Addr} {x y z : Value} (h : a.cell? p = some x ∧ a.cell? q = some y ∧ a.cell? r = some z ∧ Below W.heap.size W a) (hb : Below a.heap.size a b) (hp : p.block < W.heap.size) (hq : q.block < W.heap.size) (hr : r.block < W.heap.size) : b.cell? p = some x ∧ b.cell? q = some y ∧ b.cell? r = some z ∧ Below W.heap.size W b := by
  obtain ⟨h1, h2, h3, h4⟩ := h
  have hz := h4.size
  exact ⟨(hb.cell (by omega)).trans h1, (hb.cell (by omega)).trans h2, (hb.cell (by omega)).trans h3, h4.trans (hb.mono hz)⟩
theorem below_threeB {W a : World} {p q r : Addr} {x y z : Value} (h : a.cell? p = some x ∧ a.cell? q = some y ∧ a.cell? r = some z ∧ Below W.heap.size W a) : Below W.heap.size W a := h.2.2.2
set_option maxHeartbeats 6400000 in
theorem blLike_any {B q p g h : Nat} {kd l k : Int} {n : Nat} {L : List Nd} (A : Option Addr) (m c : Nat) (w : World) (d : DgA w B q p g h kd l k n L) (hn : n ≤ 1000) (hv : NodesAt w (.slice A m c) L) :
    Calls Tryz.prog 14 #[.pointer (some ⟨q, 0, none⟩), .int .i64 kd, .agg #[.int .i64 k, .int .i64 l, .slice A m c]] w fun e w' => e = .returned (.bool true) ∧ Below w.heap.size w w' := by
  have X0 := Lib.hid (tri_nw w 37 (.int .i64 k) (.int .i64 l) (.slice A m c))
  have HB0 : Hid (Below w.heap.size w (w.alloc (.cells #[.int .i64 k, .int .i64 l, .slice A m c] 37))) := (Below.refl _ _).alloc (Nat.le_refl _) _
  obtain ⟨x0, x1, x2, _, _, _, hz0⟩ := tri_all X0.out
  have Z0 := Lib.hid hz0
  have hml := (nodes_cells hv).1
  have hlen := d.po.len
  have hm : m ≤ 1000 := by omega
  have HM : Hid (L.length = m) := hml.symm
  have CE := conf_eq l k kd
  have PN : ∀ w, (binOp .neq 27 (.pointer (some ⟨q, 0, none⟩)) (.pointer none)).run Tryz.prog w = .ok (.bool true) w := fun _ => by kernel_rfl
  have D0 := Lib.hid (d.below HB0.out)
  have V0 := Lib.hid (hv.below HB0.out)
  have R := Lib.hid d.po.roll
  have HC := Lib.hid (fun w1 hb => dgConf_any w1 (D0.out.below hb).box)
  have HN := Lib.hid (fun w1 hb => dgN_any w1 (D0.out.below hb).box (D0.out.below hb).po hn)
  have HW := Lib.hid (fun w1 hb => rDgWeight_any l k A m c L w1 (V0.out.below hb) R.out hm)
  have HO := Lib.hid (fun w1 hb => (dgNodes_any w1 (D0.out.below hb).box (D0.out.below hb).po hn).mono (R' := fun e w' => ∃ A3 m3 c3, e = .returned (.slice A3 m3 c3) ∧ NodesAt w' (.slice A3 m3 c3) L ∧ m3 ≤ 1000 ∧ Below w1.heap.size w1 w') fun e w' ⟨A3, m3, c3, he, ho, hb⟩ => ⟨A3, m3, c3, he, ownNd_nodes ho, by have a1 := (nodes_cells (ownNd_nodes ho)).1; have a2 := HM.out; omega, hb⟩)
  have HS := Lib.hid (fun (w1 : World) (A3 : Option Addr) (m3 c3 : Nat) hb (ho : NodesAt w1 (.slice A3 m3 c3) L) (hm3 : m3 ≤ 1000) => dgSame_below (rSame_any A3 A m3 c3 m c L L w1 ho (V0.out.below hb) (by omega) (by omega)))
  rw [same_self] at HS
  clear d hv hz0 hml hlen
  generalize sumC L = s at *
  go_enter Tryz.func14, Tryz.ntmps14
  go_wp2_with fail
  generalize w.alloc (.cells #[.int .i64 k, .int .i64 l, .slice A m c] 37) = W at *
  go_region_held3 (fun w' => w'.cell? ⟨w.heap.size, 0, none⟩ = some (.int .i64 k) ∧ w'.cell? ⟨w.heap.size, 1, none⟩ = some (.int .i64 l) ∧ w'.cell? ⟨w.heap.size, 2, none⟩ = some (.slice A m c) ∧ Below W.heap.size W w')
    (first | assumption | (exact keep_threeB (by assumption) (by assumption) Z0.out Z0.out Z0.out) | (exact ⟨x0, x1, x2, below_drew _⟩))
    (first
      | (go_at_call 26; refine (HC.out _ (below_threeB (p := ⟨w.heap.size, 0, none⟩) (q := ⟨w.heap.size, 1, none⟩) (r := ⟨w.heap.size, 2, none⟩) (x := .int .i64 k) (y := .int .i64 l) (z := .slice A m c) (by assumption))).mono ?_; rintro e v1 ⟨rfl, hb1⟩)
      | (go_at_call 38; refine (HN.out _ (below_threeB (p := ⟨w.heap.size, 0, none⟩) (q := ⟨w.heap.size, 1, none⟩) (r := ⟨w.heap.size, 2, none⟩) (x := .int .i64 k) (y := .int .i64 l) (z := .slice A m c) (by assumption))).mono ?_; rintro e v2 ⟨rfl, hb2⟩)
      | (go_at_call 39; refine (HW.out _ (below_threeB (p := ⟨w.heap.size, 0, none⟩) (q := ⟨w.heap.size, 1, none⟩) (r := ⟨w.heap.size, 2, none⟩) (x := .int .i64 k) (y := .int .i64 l) (z := .slice A m c) (by assumption))).mono ?_; rintro e v3 ⟨rfl, hb3⟩)
      | (go_at_call 34; refine (HO.out _ (below_threeB (p := ⟨w.heap.size, 0, none⟩) (q := ⟨w.heap.size, 1, none⟩) (r := ⟨w.heap.size, 2, none⟩) (x := .int .i64 k) (y := .int .i64 l) (z := .slice A m c) (by assumption))).mono ?_; rintro e v8 ⟨A3, m3, c3, rfl, hn3, hm3, hb8⟩)
      | (go_at_call 33; refine (HS.out _ A3 m3 c3 (below_threeB (p := ⟨w.heap.size, 0, none⟩) (q := ⟨w.heap.size, 1, none⟩) (r := ⟨w.heap.size, 2, none⟩) (x := .int .i64 k) (y := .int .i64 l) (z := .slice A m c) (by assumption)) (by exact hn3) (by exact hm3)).mono ?_; rintro e v9 ⟨rfl, hb9⟩))
  rename_i hH
  have hbb := hH.2.2.2
  go_wp2_with fail
  go_ret
  exact ⟨rfl, HB0.out.trans (hbb.mono HB0.out.size)⟩

end Go.Proofs.YtachfeclgdgbiaaGreat
