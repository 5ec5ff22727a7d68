/- The project's package blend: Lower. -/
import Derived.Test.YtfmgcabgbnfjlaaGreatDgQ
import Derived.Test.YtfmgcabgbnfjlaaGreatBlN
namespace Go.Proofs.YtfmgcabgbnfjlaaGreat
set_option linter.unusedVariables false
set_option maxRecDepth 100000
open Go.RowKit

/-- a list of a digest's own is never refused -/
theorem dgLdE_v {kd l k : Int} {L : List Nd} (v : DgV l k L) (h : isP kd l = true) : dgLdE kd l k L = 0 := by
  have hk : kIs k = true := decide_eq_true ⟨v.k1, v.k2⟩
  refine dgLdE_ok hk h (roll_iff.2 v.roll) v.len ?_
  unfold lightB
  have z : LightC l (capW L k) L := v.light
  simp [hk, z]
theorem isP_uni {kd l : Int} (h : isP kd l = true) : 1 ≤ l ∧ l ≤ 48 := by rcases of_decide_eq_true h with q | q <;> omega
/-- a box of three cells, its middle one stored anew -/
theorem tri_mid {TS : TypeId} {w : World} {B q : Nat} {x y z : Value} (r : w.ownsRow B TS 3 (.slice (some ⟨q, 0, none⟩) 1 1) 1 [x, y, z]) (u : Value) :
    (w.setCell ⟨q, 1, none⟩ u).ownsRow B TS 3 (.slice (some ⟨q, 0, none⟩) 1 1) 1 [x, u, z] ∧ Below B w (w.setCell ⟨q, 1, none⟩ u) ∧ Kp (fun i => i = q) w (w.setCell ⟨q, 1, none⟩ u) := by
  have s := World.ownsRow.stored r 1 u
  exact ⟨s.1, (Below.refl _ _).setCell (p := ⟨q, 1, none⟩) (r.lt q rfl).1 u, Kp.setCell w ⟨q, 1, none⟩ u⟩
theorem bl_keep2 {W a b : World} {p q : Addr} {x y : Value} (h : a.cell? p = some x ∧ a.cell? q = some y ∧ Below W.heap.size W a) (hb : Below a.heap.size a b) (hp : p.block < W.heap.size) (hq : q.block < W.heap.size) : b.cell? p = some x ∧ b.cell? q = some y ∧ Below W.heap.size W b := by
  obtain ⟨h1, h2, h3⟩ := h
  have hz := h3.size
  exact ⟨(hb.cell (by omega)).trans h1, (hb.cell (by omega)).trans h2, h3.trans (hb.mono hz)⟩
theorem bl_below2 {W a : World} {p q : Addr} {x y : Value} (h : a.cell? p = some x ∧ a.cell? q = some y ∧ Below W.heap.size W a) : Below W.heap.size W a := h.2.2
theorem bl_keep3 {W a b : World} {p q r : Addr} {x y z : Value} (h : a.cell? p = some x ∧ a.cell? q = some y ∧ a.cell? r = some z ∧ Below W.heap.size W a) (hb : Below a.heap.size a b) (hp : p.block < W.heap.size) (hq : q.block < W.heap.size) (hr : r.block < W.heap.size) : b.cell? p = some x ∧ b.cell? q = some y ∧ b.cell? r = some z ∧ Below W.heap.size W b := by
  obtain ⟨h1, h2, h3, h4⟩ := h
  have hz := h4.size
  exact ⟨(hb.cell (by omega)).trans h1, (hb.cell (by omega)).trans h2, (hb.cell (by omega)).trans h3, h4.trans (hb.mono hz)⟩
theorem bl_below3 {W a : World} {p q r : Addr} {x y z : Value} (h : a.cell? p = some x ∧ a.cell? q = some y ∧ a.cell? r = some z ∧ Below W.heap.size W a) : Below W.heap.size W a := h.2.2.2
/-- a digest handed out -/
def BlPost (kd l k : Int) (M : List Nd) (w : World) (e : Ending) (w' : World) : Prop := Below w.heap.size w w' ∧ ∃ q p g h, e = .returned (.tuple #[.pointer (some ⟨q, 0, none⟩), .int .i64 0]) ∧ DgA w' w.heap.size q p g h kd l k M.length M
/-- .. none, and why -/
def BlNo (x : Int) (w : World) (e : Ending) (w' : World) : Prop := e = .returned (.tuple #[.pointer none, .int .i64 x]) ∧ Below w.heap.size w w'
theorem blLoad_v (kd l k : Int) (A : Option Addr) (m c : Nat) (L : List Nd) (w : World) (hv : NodesAt w (.slice A m c) L) (v : DgV l k L) (hp : isP kd l = true) (hm : m ≤ 500) :
    Calls Tryz.prog 28 #[.agg #[.int .i64 l, .int .i64 k, .int .i64 kd], .slice A m c] w (BlPost kd l k L w) := by
  have u := isP_uni hp
  refine (dgLoad_any kd l k A m c L w hv (nbds_roll v.roll) hm (by omega) (by omega)).mono ?_
  rintro e w1 ⟨hb, ⟨hi, _⟩ | ⟨_, z⟩⟩
  · exact absurd (dgLdE_v v hp) hi
  · exact ⟨hb, z⟩
theorem blLower_nil (k : Int) (w : World) : Calls Tryz.prog 44 #[.pointer none, .int .i64 k] w (BlNo 1 w) := by
  go_enter Tryz.func44, Tryz.ntmps44
  go_wp2_with fail
  go_ret2
  exact ⟨rfl, Below.refl _ _⟩
set_option maxHeartbeats 3200000 in
theorem blLower_no {B q p g h : Nat} {kd l k : Int} {n : Nat} {L : List Nd} (k2 : Int) (w : World) (d : DgA w B q p g h kd l k n L) (hk : ¬ (1 ≤ k2 ∧ k2 ≤ k)) :
    Calls Tryz.prog 44 #[.pointer (some ⟨q, 0, none⟩), .int .i64 k2] w (BlNo 2 w) := by
  have PN : ∀ w, (binOp .eql 38 (.pointer (some ⟨q, 0, none⟩)) (.pointer none)).run Tryz.prog w = .ok (.bool false) w := fun _ => by kernel_rfl
  have CF := Lib.hid (dgConf_any w d.box)
  clear d
  by_cases g1 : k2 < 1
  · have c1 : decide (k2 < 1) = true := decide_eq_true g1
    clear hk g1
    go_enter Tryz.func44, Tryz.ntmps44
    go_wp2_with fail
    refine CF.out.mono ?_
    rintro e w1 ⟨rfl, hb1⟩
    have B1 := Lib.hid (hb1.alloc hb1.size (.cells #[.int .i64 l, .int .i64 k, .int .i64 kd] 23))
    obtain ⟨x0, x1, x2, _, _, _, hz⟩ := tri_all (tri_nw w1 23 (.int .i64 l) (.int .i64 k) (.int .i64 kd))
    clear hb1 CF
    go_wp2_with fail
    go_ret2
    exact ⟨rfl, B1.out⟩
  · have c1 : decide (k2 < 1) = false := decide_eq_false g1
    have c2 : decide (k < k2) = true := decide_eq_true (by omega)
    clear hk g1
    go_enter Tryz.func44, Tryz.ntmps44
    go_wp2_with fail
    refine CF.out.mono ?_
    rintro e w1 ⟨rfl, hb1⟩
    have B1 := Lib.hid (hb1.alloc hb1.size (.cells #[.int .i64 l, .int .i64 k, .int .i64 kd] 23))
    obtain ⟨x0, x1, x2, _, _, _, hz⟩ := tri_all (tri_nw w1 23 (.int .i64 l) (.int .i64 k) (.int .i64 kd))
    clear hb1 CF
    go_wp2_with fail
    go_ret2
    exact ⟨rfl, B1.out⟩
set_option maxHeartbeats 6400000 in
theorem blLower_any {B q p g h : Nat} {kd l k : Int} {n : Nat} {L : List Nd} (k2 : Int) (w : World) (d : DgA w B q p g h kd l k n L) (hn : n ≤ 400) (h1 : 1 ≤ k2) (h2 : k2 ≤ k) :
    Calls Tryz.prog 44 #[.pointer (some ⟨q, 0, none⟩), .int .i64 k2] w (BlPost kd l k2 (pressW l k2 L) w) := by
  have PN : ∀ w, (binOp .eql 38 (.pointer (some ⟨q, 0, none⟩)) (.pointer none)).run Tryz.prog w = .ok (.bool false) w := fun _ => by kernel_rfl
  have CF := Lib.hid (dgConf_any w d.box)
  have c1 : decide (k2 < 1) = false := decide_eq_false (by omega)
  have c2 : decide (k < k2) = false := decide_eq_false (by omega)
  have DL := Lib.hid (dgV_lower d.v h1 h2)
  have IP := Lib.hid d.po.is
  have u := isP_uni d.po.is
  have RL := Lib.hid d.v.roll
  have LN := Lib.hid (show L.length ≤ 400 by have := d.po.len; omega)
  have HK : Hid (kIs k2 = true) := decide_eq_true ⟨h1, by have := d.v.k2; omega⟩
  have HPW : Hid (pressW l k2 L = preA l (capW L k2) L (pressJ l (capW L k2) L)) := rfl
  have HU := Lib.hid (fun j hl hx => press_uniq (cap := capW L k2) (j := j) RL.out hl hx)
  have ND := Lib.hid (fun v (hb : Below _ _ v) => (dgNodes_any v (d.below hb).box (d.below hb).po (by omega)).mono (R' := fun e w' => ∃ A3 m3 c3, e = .returned (.slice A3 m3 c3) ∧ NodesAt w' (.slice A3 m3 c3) L ∧ m3 ≤ 400 ∧ Below v.heap.size v w') fun e w' ⟨A3, m3, c3, he, ho, hb⟩ => ⟨A3, m3, c3, he, ownNd_nodes ho, by have a1 := (nodes_cells (ownNd_nodes ho)).1; have a2 := LN.out; omega, hb⟩)
  have LD := Lib.hid (fun (v : World) (A : Option Addr) (m c : Nat) (ho : NodesAt v (.slice A m c) L) (hm : m ≤ 400) => (poLoad_any kd l A m c L v ho (nbds_roll RL.out) (by omega) (by omega) (by omega)).mono (R' := fun e w' => ∃ p g h, e = .returned (.tuple #[.pointer (some ⟨p, 0, none⟩), .int .i64 0]) ∧ PoA w' v.heap.size p g h kd l L.length L ∧ Below v.heap.size v w') fun e w' ⟨hb, z⟩ => by
    rcases z with ⟨z, _⟩ | ⟨_, z, _⟩ | ⟨_, _, p, g, h, a, b⟩
    · rw [IP.out] at z; simp at z
    · rw [roll_iff.2 RL.out] at z; simp at z
    · exact ⟨p, g, h, a, b, hb⟩)
  clear d h1 h2
  generalize pressW l k2 L = M at *
  generalize hcap : capW L k2 = cap at *
  have HC := Lib.hid hcap
  clear hcap
  go_enter Tryz.func44, Tryz.ntmps44
  go_wp2_with fail
  refine CF.out.mono ?_
  rintro e w1 ⟨rfl, hb1⟩
  have B1 := Lib.hid (hb1.alloc hb1.size (.cells #[.int .i64 l, .int .i64 k, .int .i64 kd] 23))
  have X1 := Lib.hid (tri_nw w1 23 (.int .i64 l) (.int .i64 k) (.int .i64 kd))
  have Z1 : Hid (w1.heap.size < (w1.alloc (.cells #[.int .i64 l, .int .i64 k, .int .i64 kd] 23)).heap.size) := by show _ < _; simp
  have S1 := Lib.hid hb1.size
  obtain ⟨x0, x1, x2, _, _, _, hz⟩ := tri_all X1.out
  clear hb1 CF
  go_wp2_with fail
  generalize w1.alloc (.cells #[.int .i64 l, .int .i64 k, .int .i64 kd] 23) = W1 at *
  have ND2 := Lib.hid (fun v (hb : Below W1.heap.size W1 v) => (ND.out v (B1.out.trans (hb.mono B1.out.size))).mono (R' := fun e w' => ∃ A3 m3 c3, e = .returned (.slice A3 m3 c3) ∧ NodesAt w' (.slice A3 m3 c3) L ∧ m3 ≤ 400 ∧ Below v.heap.size v w' ∧ W1.heap.size ≤ w'.heap.size) fun e w' ⟨A3, m3, c3, he, ho, hm, hb2⟩ => ⟨A3, m3, c3, he, ho, hm, hb2, Nat.le_trans hb.size hb2.size⟩)
  go_region_held3 (fun w' => w'.cell? ⟨w1.heap.size, 0, none⟩ = some (.int .i64 l) ∧ w'.cell? ⟨w1.heap.size, 2, none⟩ = some (.int .i64 kd) ∧ Below W1.heap.size W1 w')
    (first | assumption | (exact bl_keep2 (by assumption) (by assumption) Z1.out Z1.out) | (exact ⟨x0, x2, below_drew _⟩))
    (first
      | (go_at_call 46; refine (ND2.out _ (bl_below2 (p := ⟨w1.heap.size, 0, none⟩) (q := ⟨w1.heap.size, 2, none⟩) (x := .int .i64 l) (y := .int .i64 kd) (by assumption))).mono ?_; rintro e v2 ⟨A3, m3, c3, rfl, hn3, hm3, hb2, hz2⟩)
      | (go_at_call 54; refine (LD.out _ A3 m3 c3 (by exact hn3) (by exact hm3)).mono ?_; rintro e v3 ⟨p3, g3, h3, rfl, hp3, hb3⟩))
  rename_i hH
  have R3 := Lib.hid hH.2.2
  have P3 := Lib.hid (hp3.low hz2)
  have X3 := Lib.hid (own_below X1.out R3.out)
  have PR := Lib.hid (prRun_any k2 v3 P3.out LN.out HK.out)
  rw [HC.out] at PR
  clear hH hp3 hz2 hn3 hm3 ND ND2 LD x0 x1 x2
  go_wp2_with fail
  refine PR.out.mono ?_
  rintro e w4 ⟨j, h4, rfl, hl, hp4, hc4, _⟩
  have hM : preA l cap L j = M := by rw [HPW.out, ← HU.out j hl.1 hl.2]
  rw [hM] at hp4
  have hb4 : Below W1.heap.size v3 w4 := hc4.below P3.out.lt.2.1 P3.out.lt.2.2.2.1 R3.out.size
  have X4 := Lib.hid (P3.out.other X3.out hc4 (by decide) (by decide) (by decide) (by decide))
  have T5 := Lib.hid (tri_mid X4.out (.int .i64 k2))
  have P5 := Lib.hid (hp4.kp T5.out.2.2 (fun i e f => by have a := hp4.lt; have b := Z1.out; rcases f with f | f | f <;> omega))
  have B5 := Lib.hid ((B1.out.trans ((R3.out.trans hb4).mono B1.out.size)).trans (T5.out.2.1.mono S1.out))
  obtain ⟨x0, x1, x2, xf0, xf1, xf2, hx⟩ := tri_all X4.out
  have X5 := Lib.hid T5.out.1
  clear hl hp4 hc4 hb4 hM PR T5 HU HPW
  go_wp2_with fail
  clear x0 x1 x2 xf0 xf1 xf2 hx X4
  generalize w4.setCell ⟨w1.heap.size, 1, none⟩ (.int .i64 k2) = w5 at *
  have ML := Lib.hid (Nat.le_trans DL.out.2.2.1 LN.out)
  have SN := Lib.hid (fun v (hb : Below w5.heap.size w5 v) => (poSnap_any v (P5.out.below hb) (by have := LN.out; omega)).mono (R' := fun e w' => ∃ A3 m3 c3, e = .returned (.slice A3 m3 c3) ∧ NodesAt w' (.slice A3 m3 c3) M ∧ m3 ≤ 400 ∧ Below v.heap.size v w' ∧ w5.heap.size ≤ w'.heap.size) fun e w' ⟨A3, m3, c3, he, ho, hb2⟩ => ⟨A3, m3, c3, he, ownNd_nodes ho, by have a1 := (nodes_cells (ownNd_nodes ho)).1; have a2 := ML.out; omega, hb2, Nat.le_trans hb.size hb2.size⟩)
  have LV := Lib.hid (fun (v : World) (A : Option Addr) (m c : Nat) (ho : NodesAt v (.slice A m c) M) (hm : m ≤ 400) => (blLoad_v kd l k2 A m c M v ho DL.out.1 IP.out (by omega)).mono (R' := fun e w' => ∃ q p g h, e = .returned (.tuple #[.pointer (some ⟨q, 0, none⟩), .int .i64 0]) ∧ DgA w' v.heap.size q p g h kd l k2 M.length M ∧ Below v.heap.size v w') fun e w' ⟨hb, q, p, g, h, a, b⟩ => ⟨q, p, g, h, a, b, hb⟩)
  obtain ⟨x0, x1, x2, _, _, _, hx⟩ := tri_all X5.out
  have HX := Lib.hid hx
  go_region_held3 (fun w' => w'.cell? ⟨w1.heap.size, 0, none⟩ = some (.int .i64 l) ∧ w'.cell? ⟨w1.heap.size, 1, none⟩ = some (.int .i64 k2) ∧ w'.cell? ⟨w1.heap.size, 2, none⟩ = some (.int .i64 kd) ∧ Below w5.heap.size w5 w')
    (first | assumption | (exact bl_keep3 (by assumption) (by assumption) HX.out HX.out HX.out) | (exact ⟨x0, x1, x2, below_drew _⟩))
    (first
      | (go_at_call 78; refine (SN.out _ (bl_below3 (p := ⟨w1.heap.size, 0, none⟩) (q := ⟨w1.heap.size, 1, none⟩) (r := ⟨w1.heap.size, 2, none⟩) (x := .int .i64 l) (y := .int .i64 k2) (z := .int .i64 kd) (by assumption))).mono ?_; rintro e v6 ⟨A6, m6, c6, rfl, hn6, hm6, hb6, hz6⟩)
      | (go_at_call 28; refine (LV.out _ A6 m6 c6 (by exact hn6) (by exact hm6)).mono ?_; rintro e v7 ⟨q7, p7, g7, h7, rfl, hd7, hb7⟩))
  rename_i hH
  have B7 := Lib.hid (B5.out.trans (hH.2.2.2.mono B5.out.size))
  have D7 := Lib.hid (hd7.low (Nat.le_trans B5.out.size hz6))
  clear hH hd7 hz6 hn6 hm6
  go_wp2_with fail
  go_ret2
  exact ⟨B7.out, q7, p7, g7, h7, rfl, D7.out⟩

end Go.Proofs.YtfmgcabgbnfjlaaGreat
