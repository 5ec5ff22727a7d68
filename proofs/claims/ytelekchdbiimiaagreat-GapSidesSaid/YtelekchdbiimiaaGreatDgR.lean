/- Texts laid together: PbRef, PbRef2, PbRef3, PbRef4, FoRef, FoRef2, FoRef3, FoRef4, PrRef, PrRef2, PrRef3, DgRef, DgRef2, DgRef3, DgRef4, DgRef5, DgRef6, DgRef7, DgLaw, DgLaw2, DgLaw5. -/
import Derived.Test.YtelekchdbiimiaaGreatPbQ
import Derived.Test.YtelekchdbiimiaaGreatRoQ
import Derived.BigRegion
import Derived.Deep.Cut
import Derived.Deep.DeepCutAuto
import Derived.StillTailTactics
import Derived.RegionTactic
import Derived.WalkSpells
import Derived.Test.YtelekchdbiimiaaGreatFoQ
import Derived.Laws.OwnMore
import Derived.Test.YtelekchdbiimiaaGreatPoQ
import Derived.Deep.RegionHeld3
import Derived.Deep.DrawnRows
import Derived.Test.YtelekchdbiimiaaGreatPrP
import Derived.BigQuiet
import Derived.Test.YtelekchdbiimiaaGreatDgN
import Derived.Test.YtelekchdbiimiaaGreatDgQ
namespace Go.Proofs.YtelekchdbiimiaaGreat
set_option linter.unusedVariables false
set_option maxRecDepth 100000
open Go.RowKit
end Go.Proofs.YtelekchdbiimiaaGreat
namespace Go.Proofs.YtelekchdbiimiaaGreat
set_option linter.unusedVariables false
set_option maxRecDepth 100000
open Go.RowKit
/-- the slots that are read -/
def SlAt (w : World) (g N : Nat) (S : List Nd) : Prop := g < w.heap.size ∧ ∀ k, k < N → w.cell? ⟨g, k * 2, none⟩ = some (.int .i64 (tAt S k).1) ∧ w.cell? ⟨g, k * 2 + 1, none⟩ = some (.int .i64 (tAt S k).2)
theorem SlAt.below {w w' : World} {g N : Nat} {S : List Nd} (h : SlAt w g N S) (hb : Below w.heap.size w w') : SlAt w' g N S :=
  ⟨Nat.lt_of_lt_of_le h.1 hb.size, fun k hk => ⟨(hb.cell (p := ⟨g, k * 2, none⟩) h.1).trans (h.2 k hk).1, (hb.cell (p := ⟨g, k * 2 + 1, none⟩) h.1).trans (h.2 k hk).2⟩⟩
end Go.Proofs.YtelekchdbiimiaaGreat
namespace Go.Proofs.YtelekchdbiimiaaGreat
set_option linter.unusedVariables false
set_option maxRecDepth 100000
open Go.RowKit
/-- a block of three cells -/
structure TBx (w : World) (q : Nat) (x y z : Value) : Prop where
  c0 : w.cell? ⟨q, 0, none⟩ = some x
  c1 : w.cell? ⟨q, 1, none⟩ = some y
  c2 : w.cell? ⟨q, 2, none⟩ = some z
  f0 : w.frozen? ⟨q, 0, none⟩ = false
  f1 : w.frozen? ⟨q, 1, none⟩ = false
  f2 : w.frozen? ⟨q, 2, none⟩ = false
  lt : q < w.heap.size
theorem TBx.to {w w' : World} {q B : Nat} {x y z : Value} (h : TBx w q x y z) (hb : Below B w w') (hB : q < B) : TBx w' q x y z :=
  ⟨(hb.cell (p := ⟨q, 0, none⟩) hB).trans h.c0, (hb.cell (p := ⟨q, 1, none⟩) hB).trans h.c1, (hb.cell (p := ⟨q, 2, none⟩) hB).trans h.c2,
   (hb.frozen (p := ⟨q, 0, none⟩) hB).trans h.f0, (hb.frozen (p := ⟨q, 1, none⟩) hB).trans h.f1, (hb.frozen (p := ⟨q, 2, none⟩) hB).trans h.f2, Nat.lt_of_lt_of_le h.lt hb.size⟩
theorem TBx.alloc {w : World} {q : Nat} {x y z : Value} (h : TBx w q x y z) (o : Obj) : TBx (w.alloc o) q x y z := h.to ((Below.refl w.heap.size w).alloc (Nat.le_refl _) o) h.lt
theorem TBx.far {w : World} {q r k : Nat} {x y z : Value} (h : TBx w q x y z) (hr : r ≠ q) (v : Value) : TBx (w.setCell ⟨r, k, none⟩ v) q x y z := by
  have n : ∀ j, (⟨q, j, none⟩ : Addr) ≠ ⟨r, k, none⟩ := fun j e => by injection e with e; exact hr e.symm
  refine ⟨by rw [World.cell?_setCell_other _ _ _ _ (n 0).symm]; exact h.c0, by rw [World.cell?_setCell_other _ _ _ _ (n 1).symm]; exact h.c1, by rw [World.cell?_setCell_other _ _ _ _ (n 2).symm]; exact h.c2, ?_, ?_, ?_, ?_⟩
  · simp [h.f0]
  · simp [h.f1]
  · simp [h.f2]
  · simpa using h.lt
theorem TBx.set2 {w : World} {q : Nat} {x y z : Value} (h : TBx w q x y z) (v : Value) : TBx (w.setCell ⟨q, 2, none⟩ v) q x y v := by
  have n : ∀ j, j ≠ 2 → (⟨q, j, none⟩ : Addr) ≠ ⟨q, 2, none⟩ := fun j hj e => by injection e with _ e; exact hj e
  refine ⟨by rw [World.cell?_setCell_other _ _ _ _ (n 0 (by decide)).symm]; exact h.c0, by rw [World.cell?_setCell_other _ _ _ _ (n 1 (by decide)).symm]; exact h.c1, World.cell?_setCell_same (u := z) _ _ _ h.c2, ?_, ?_, ?_, ?_⟩
  · simp [h.f0]
  · simp [h.f1]
  · simp [h.f2]
  · simpa using h.lt
theorem TBx.set1 {w : World} {q : Nat} {x y z : Value} (h : TBx w q x y z) (v : Value) : TBx (w.setCell ⟨q, 1, none⟩ v) q x v z := by
  have n : ∀ j, j ≠ 1 → (⟨q, j, none⟩ : Addr) ≠ ⟨q, 1, none⟩ := fun j hj e => by injection e with _ e; exact hj e
  refine ⟨by rw [World.cell?_setCell_other _ _ _ _ (n 0 (by decide)).symm]; exact h.c0, World.cell?_setCell_same (u := y) _ _ _ h.c1, by rw [World.cell?_setCell_other _ _ _ _ (n 2 (by decide)).symm]; exact h.c2, ?_, ?_, ?_, ?_⟩
  · simp [h.f0]
  · simp [h.f1]
  · simp [h.f2]
  · simpa using h.lt
theorem TBx.set0 {w : World} {q : Nat} {x y z : Value} (h : TBx w q x y z) (v : Value) : TBx (w.setCell ⟨q, 0, none⟩ v) q v y z := by
  have n : ∀ j, j ≠ 0 → (⟨q, j, none⟩ : Addr) ≠ ⟨q, 0, none⟩ := fun j hj e => by injection e with _ e; exact hj e
  refine ⟨World.cell?_setCell_same (u := x) _ _ _ h.c0, by rw [World.cell?_setCell_other _ _ _ _ (n 1 (by decide)).symm]; exact h.c1, by rw [World.cell?_setCell_other _ _ _ _ (n 2 (by decide)).symm]; exact h.c2, ?_, ?_, ?_, ?_⟩
  · simp [h.f0]
  · simp [h.f1]
  · simp [h.f2]
  · simpa using h.lt
/-- all three stored anew, one behind the other -/
theorem TBx.all {w : World} {q : Nat} {x y z : Value} (h : TBx w q x y z) (a b c : Value) : TBx (((w.setCell ⟨q, 0, none⟩ a).setCell ⟨q, 1, none⟩ b).setCell ⟨q, 2, none⟩ c) q a b c := ((h.set0 a).set1 b).set2 c
theorem TBx.steps {w : World} {q : Nat} {x y z : Value} (h : TBx w q x y z) : (∀ a, (w.setCell ⟨q, 0, none⟩ a).cell? ⟨q, 0, none⟩ = some a) ∧ (∀ a b, ((w.setCell ⟨q, 0, none⟩ a).setCell ⟨q, 1, none⟩ b).cell? ⟨q, 1, none⟩ = some b) ∧ (∀ a b c, (((w.setCell ⟨q, 0, none⟩ a).setCell ⟨q, 1, none⟩ b).setCell ⟨q, 2, none⟩ c).cell? ⟨q, 2, none⟩ = some c) :=
  ⟨fun a => (h.set0 a).c0, fun a b => ((h.set0 a).set1 b).c1, fun a b c => (h.all a b c).c2⟩
end Go.Proofs.YtelekchdbiimiaaGreat
namespace Go.Proofs.YtelekchdbiimiaaGreat
set_option linter.unusedVariables false
set_option maxRecDepth 100000
open Go.RowKit
end Go.Proofs.YtelekchdbiimiaaGreat
namespace Go.Proofs.YtelekchdbiimiaaGreat
set_option linter.unusedVariables false
set_option maxRecDepth 100000
open Go.RowKit
/-- a slice of numbers that is read, and can be cut -/
structure IntsC (w : World) (A : Option Addr) (n c : Nat) (T : List Int) : Prop where
  at' : IntsAt w (.slice A n c) T
  le : n ≤ c
  nil : A = none → c = 0
theorem IntsC.below {w w' : World} {A : Option Addr} {n c : Nat} {T : List Int} (h : IntsC w A n c T) (hb : Below w.heap.size w w') : IntsC w' A n c T := ⟨h.at'.below hb, h.le, h.nil⟩
theorem IntsC.len {w : World} {A : Option Addr} {n c : Nat} {T : List Int} (h : IntsC w A n c T) : n = T.length := (ints_cells h.at').1
theorem IntsC.cells {w : World} {A : Option Addr} {n c : Nat} {T : List Int} (h : IntsC w A n c T) : Cells w A n (fun k => .int .i64 (T.getD k 0)) := by have := (ints_cells h.at').2; rwa [← h.len] at this
/-- a slice that lies in new blocks, if anywhere -/
def NewA (A : Option Addr) (k : Nat) : Prop := ∀ ad, A = some ad → k ≤ ad.block
theorem NewA.mono {A : Option Addr} {k j : Nat} (h : NewA A k) (hj : j ≤ k) : NewA A j := fun ad q => Nat.le_trans hj (h ad q)
end Go.Proofs.YtelekchdbiimiaaGreat
namespace Go.Proofs.YtelekchdbiimiaaGreat
set_option linter.unusedVariables false
set_option maxRecDepth 100000
open Go.RowKit
end Go.Proofs.YtelekchdbiimiaaGreat
namespace Go.Proofs.YtelekchdbiimiaaGreat
set_option linter.unusedVariables false
set_option maxRecDepth 100000
open Go.RowKit
attribute [local go_sem ↓] Go.wp_at_zero Go.wp_at_succ
end Go.Proofs.YtelekchdbiimiaaGreat
namespace Go.Proofs.YtelekchdbiimiaaGreat
set_option linter.unusedVariables false
set_option maxRecDepth 100000
open Go.RowKit
end Go.Proofs.YtelekchdbiimiaaGreat
namespace Go.Proofs.YtelekchdbiimiaaGreat
set_option linter.unusedVariables false
set_option maxRecDepth 100000
open Go.RowKit
theorem rPrIs_any (k : Int) (w : World) : Calls Tryz.prog 122 #[.int .i64 k] w fun e w' => e = .returned (.bool (kIs k)) ∧ w = w' := by
  unfold kIs
  by_cases h1 : 1 ≤ k
  · have c1 : decide (1 ≤ k) = true := decide_eq_true h1
    by_cases h2 : k ≤ 1048576
    · have c2 : decide (k ≤ 1048576) = true := decide_eq_true h2
      have H := Lib.hid (decide_eq_true (p := 1 ≤ k ∧ k ≤ 1048576) ⟨h1, h2⟩)
      clear h1 h2
      go_enter Tryz.func122, Tryz.ntmps122
      go_wp2_with fail
      go_ret
      exact ⟨by rw [H.out]; rfl, rfl⟩
    · have c2 : decide (k ≤ 1048576) = false := decide_eq_false h2
      have H := Lib.hid (decide_eq_false (p := 1 ≤ k ∧ k ≤ 1048576) fun q => h2 q.2)
      clear h1 h2
      go_enter Tryz.func122, Tryz.ntmps122
      go_wp2_with fail
      go_ret
      exact ⟨by rw [H.out]; rfl, rfl⟩
  · have c1 : decide (1 ≤ k) = false := decide_eq_false h1
    have H := Lib.hid (decide_eq_false (p := 1 ≤ k ∧ k ≤ 1048576) fun q => h1 q.1)
    clear h1
    go_enter Tryz.func122, Tryz.ntmps122
    go_wp2_with fail
    go_ret
    exact ⟨by rw [H.out]; rfl, rfl⟩
theorem rPrCap_any (l k : Int) (A : Option Addr) (n c : Nat) (L : List Nd) (w : World) (h : NodesAt w (.slice A n c) L) (hr : RollC l L) (hn : n ≤ 1000) (K0 : -9223372036854775808 ≤ k) (K1 : k ≤ 9223372036854775807) :
    Calls Tryz.prog 127 #[.agg #[.int .i64 l, .slice A n c], .int .i64 k] w fun e w' => e = .returned (.int .i64 (quoN (sumC L) k)) ∧ Below w.heap.size w w' := by
  have HB0 : Hid (Below w.heap.size w (w.alloc (.cells #[.int .i64 l, .slice A n c] 29))) := (Below.refl _ _).alloc (Nat.le_refl _) _
  have TT := Lib.hid (rsTotal_any l A n c L _ (h.below HB0.out) hr (by omega))
  have nn := good_nonneg (roll_good hr)
  have s0 : 0 ≤ sumC L := Int.le_trans (sum_le nn 0).1 (sum_le nn 0).2
  have s1 := hr.2.2.2.2
  have CP := Lib.hid (fun w => rFoCap_any (sumC L) k w (by omega) (by omega) K0 K1)
  clear h hr nn
  generalize quoN (sumC L) k = q at *
  generalize sumC L = s at *
  go_enter Tryz.func127, Tryz.ntmps127
  go_wp2_with (first
    | (go_at_call 102; refine TT.out.mono ?_; rintro e w1 ⟨rfl, hb1⟩)
    | (go_at_call 169; refine (CP.out _).mono ?_; rintro e w2 ⟨rfl, rfl⟩))
  go_ret
  exact ⟨rfl, HB0.out.trans (hb1.mono HB0.out.size)⟩
theorem light_snoc {l cap : Int} {L : List Nd} {k : Nat} (hk : k < L.length) (h : LightC l cap (L.take k)) (h2 : KidC l (L.getD k nz).1 → (L.getD k nz).2 ≤ cap) : LightC l cap (L.take (k + 1)) := by
  rw [nd_take hk]
  intro m hm hq
  rcases List.mem_append.1 hm with z | z
  · exact h m z hq
  · rw [List.mem_singleton.1 z] at hq ⊢
    exact h2 hq
theorem prBelow4 {W a : World} {p q r s : Addr} {x y z u : Value} (h : a.cell? p = some x ∧ a.cell? q = some y ∧ a.cell? r = some z ∧ a.cell? s = some u ∧ Below W.heap.size W a) : Below W.heap.size W a := h.2.2.2.2
set_option maxHeartbeats 3200000 in
theorem rPrLight_any (l k : Int) (A : Option Addr) (n c : Nat) (L : List Nd) (w : World) (h : NodesAt w (.slice A n c) L) (hr : RollC l L) (hn : n ≤ 1000) (K0 : -9223372036854775808 ≤ k) (K1 : k ≤ 9223372036854775807) :
    Calls Tryz.prog 89 #[.agg #[.int .i64 l, .slice A n c], .int .i64 k] w fun e w' => e = .returned (.bool (lightB l L k)) ∧ Below w.heap.size w w' := by
  have HB0 : Hid (Below w.heap.size w (w.alloc (.cells #[.int .i64 l, .slice A n c] 29))) := (Below.refl _ _).alloc (Nat.le_refl _) _
  have XR := Lib.hid (foBx2 w 29 (.int .i64 l) (.slice A n c))
  have u : 1 ≤ l ∧ l ≤ 48 := of_decide_eq_true hr.1
  have HL := Lib.hid (nodes_cells h).1
  have HA := Lib.hid (nodes_cells h).2.2.2
  have NB := Lib.hid (nbds_roll hr)
  have IS := Lib.hid (fun w => rPrIs_any k w)
  have CP := Lib.hid (fun w1 (hb : Below w.heap.size w w1) => rPrCap_any l k A n c L w1 (h.below hb) hr hn K0 K1)
  have RES : Hid (∀ b : Bool, (b = true → kIs k = true → LightC l (quoN (sumC L) k) L) → (b = false → ¬ LightC l (quoN (sumC L) k) L ∨ kIs k = false) → (kIs k && b) = lightB l L k) := by
    intro b h1 h2
    unfold lightB
    cases hk : kIs k
    · simp
    · rw [cap_quo hr hk] at h1 h2
      rw [hk] at h2
      cases b
      · rcases h2 rfl with q | q
        · rw [decide_eq_false q]
        · cases q
      · rw [decide_eq_true (h1 rfl hk)]
  generalize hcp : quoN (sumC L) k = cap at *
  clear h hr hcp
  go_enter Tryz.func89, Tryz.ntmps89
  go_wp2_with fail
  generalize w.alloc (.cells #[.int .i64 l, .slice A n c] 29) = W at *
  go_loopw [5] (fun i wr => ∃ m : Nat, m ≤ n ∧ i = .int .i64 m ∧ LightC l cap (L.take m) ∧ Below W.heap.size W wr) (fun i _ => n - (intOf i).toNat)
  case atStart => exact ⟨0, by omega, rfl, fun _ hm => by simp at hm, Below.refl _ _⟩
  case round =>
    rename_i wr
    obtain ⟨m, hm, rfl, hlt, hb⟩ := hrel
    have LT := Lib.hid hlt
    have BB := Lib.hid hb
    have BW := Lib.hid (HB0.out.trans (hb.mono HB0.out.size))
    obtain ⟨x0, x1, _, _, hz⟩ := box_cells (own_below XR.out hb)
    have HZ := Lib.hid hz
    clear hlt hb hz
    by_cases hlt : m < n
    · have hk2 : m < L.length := by have := HL.out; omega
      obtain ⟨b, o, rfl, hin⟩ := HA.out (by omega)
      obtain ⟨e0, e1⟩ := (hin.below BW.out hin.1).2 m hk2
      have HQ : Hid (b < wr.heap.size) := Nat.lt_of_lt_of_le hin.1 BW.out.size
      have hx := nbds_at NB.out hk2
      have SN := Lib.hid (fun h => light_snoc (k := m) (l := l) (cap := cap) hk2 LT.out h)
      have NO : Hid (KidC l (L.getD m nz).1 → cap < (L.getD m nz).2 → ¬ LightC l cap L) := fun h1 h2 h3 => by
        have := h3 _ (nd_mem hk2) h1
        omega
      clear hin
      generalize (L.getD m nz).1 = x at *
      generalize (L.getD m nz).2 = y at *
      have KD := Lib.hid (fun w => rkids_any l x w (by omega) (by omega) hx.1.1 hx.1.2)
      have k0 : (0 : Int) ≤ (m : Int) := Int.natCast_nonneg _
      have k1 : (m : Int) < (n : Int) := by omega
      by_cases hk : KidC l x
      · obtain ⟨k1, k2, k3⟩ := kid_yes hk
        rw [k1, k2, k3] at KD
        clear k1 k2 k3
        by_cases hc : cap < y
        · have c1 : decide (y > cap) = true := decide_eq_true hc
          have RR := Lib.hid (RES.out false (fun q => by cases q) (fun _ => .inl (NO.out hk hc)))
          clear hk hc
          go_wp2_with fail
          go_region_held3 (fun w' => w'.cell? ⟨w.heap.size, 0, none⟩ = some (.int .i64 l) ∧ w'.cell? ⟨w.heap.size, 1, none⟩ = some (.slice (some ⟨b, o, none⟩) n c) ∧ w'.cell? ⟨b, o + m * 2, none⟩ = some (.int .i64 x) ∧ w'.cell? ⟨b, o + m * 2 + 1, none⟩ = some (.int .i64 y) ∧ Below wr.heap.size wr w')
            (first | assumption | (exact keep4 (by assumption) (by assumption) HZ.out HZ.out HQ.out HQ.out) | (exact ⟨x0, x1, e0, e1, below_drew _⟩))
            (first | (go_at_call 126; refine (KD.out _).mono ?_; rintro e w6 ⟨rfl, rfl⟩))
          rename_i hH
          obtain ⟨y0, y1, f0, f1, hbH⟩ := hH
          have B6 := Lib.hid (BB.out.trans (hbH.mono BB.out.size))
          have BW6 := Lib.hid (BW.out.trans (hbH.mono BW.out.size))
          have HZ6 := Lib.hid (Nat.lt_of_lt_of_le HZ.out hbH.size)
          have HQ6 := Lib.hid (Nat.lt_of_lt_of_le HQ.out hbH.size)
          clear x0 x1 e0 e1 hbH
          generalize World.drew wr = wd at *
          go_wp2_with fail
          go_region_held3 (fun w' => w'.cell? ⟨w.heap.size, 0, none⟩ = some (.int .i64 l) ∧ w'.cell? ⟨w.heap.size, 1, none⟩ = some (.slice (some ⟨b, o, none⟩) n c) ∧ w'.cell? ⟨b, o + m * 2, none⟩ = some (.int .i64 x) ∧ w'.cell? ⟨b, o + m * 2 + 1, none⟩ = some (.int .i64 y) ∧ Below wd.heap.size wd w')
            (first | assumption | (exact keep4 (by assumption) (by assumption) HZ6.out HZ6.out HQ6.out HQ6.out) | (exact ⟨y0, y1, f0, f1, below_drew _⟩))
            (first | ((with_reducible refine (CP.out _ (BW6.out.trans ((prBelow4 (by assumption) : Below wd.heap.size wd _).mono BW6.out.size))).mono ?_); rintro e w7 ⟨rfl, hb7⟩))
          rename_i hH
          have B7 := Lib.hid (B6.out.trans (hH.2.2.2.2.mono B6.out.size))
          have BW7 := Lib.hid (BW6.out.trans (hH.2.2.2.2.mono BW6.out.size))
          clear hH y0 y1 f0 f1
          go_wp2_with fail
          go_ret
          exact ⟨by rw [← RR.out, Bool.and_false]; rfl, BW7.out⟩
        · have c1 : decide (y > cap) = false := decide_eq_false hc
          have SS := Lib.hid (SN.out (fun _ => by omega))
          clear hk hc
          go_wp2_with fail
          go_region_held3 (fun w' => w'.cell? ⟨w.heap.size, 0, none⟩ = some (.int .i64 l) ∧ w'.cell? ⟨w.heap.size, 1, none⟩ = some (.slice (some ⟨b, o, none⟩) n c) ∧ w'.cell? ⟨b, o + m * 2, none⟩ = some (.int .i64 x) ∧ w'.cell? ⟨b, o + m * 2 + 1, none⟩ = some (.int .i64 y) ∧ Below wr.heap.size wr w')
            (first | assumption | (exact keep4 (by assumption) (by assumption) HZ.out HZ.out HQ.out HQ.out) | (exact ⟨x0, x1, e0, e1, below_drew _⟩))
            (first | (go_at_call 126; refine (KD.out _).mono ?_; rintro e w6 ⟨rfl, rfl⟩))
          rename_i hH
          obtain ⟨y0, y1, f0, f1, hbH⟩ := hH
          have B6 := Lib.hid (BB.out.trans (hbH.mono BB.out.size))
          have BW6 := Lib.hid (BW.out.trans (hbH.mono BW.out.size))
          have HZ6 := Lib.hid (Nat.lt_of_lt_of_le HZ.out hbH.size)
          have HQ6 := Lib.hid (Nat.lt_of_lt_of_le HQ.out hbH.size)
          clear x0 x1 e0 e1 hbH
          generalize World.drew wr = wd at *
          go_wp2_with fail
          go_region_held3 (fun w' => w'.cell? ⟨w.heap.size, 0, none⟩ = some (.int .i64 l) ∧ w'.cell? ⟨w.heap.size, 1, none⟩ = some (.slice (some ⟨b, o, none⟩) n c) ∧ w'.cell? ⟨b, o + m * 2, none⟩ = some (.int .i64 x) ∧ w'.cell? ⟨b, o + m * 2 + 1, none⟩ = some (.int .i64 y) ∧ Below wd.heap.size wd w')
            (first | assumption | (exact keep4 (by assumption) (by assumption) HZ6.out HZ6.out HQ6.out HQ6.out) | (exact ⟨y0, y1, f0, f1, below_drew _⟩))
            (first | ((with_reducible refine (CP.out _ (BW6.out.trans ((prBelow4 (by assumption) : Below wd.heap.size wd _).mono BW6.out.size))).mono ?_); rintro e w7 ⟨rfl, hb7⟩))
          rename_i hH
          have B7 := Lib.hid (B6.out.trans (hH.2.2.2.2.mono B6.out.size))
          have BW7 := Lib.hid (BW6.out.trans (hH.2.2.2.2.mono BW6.out.size))
          clear hH y0 y1 f0 f1
          go_wp2_with fail
          go_roundw
          case rel => exact ⟨m + 1, by omega, by go_num, SS.out, B7.out⟩
          case measure => simp [intOf]; omega
      · obtain ⟨k1, k2, k3⟩ := kid_no hk
        rw [k1, k2, k3] at KD
        have SS := Lib.hid (SN.out (fun q => absurd q hk))
        clear k1 k2 k3 hk
        go_wp2_with fail
        go_region_held3 (fun w' => w'.cell? ⟨w.heap.size, 0, none⟩ = some (.int .i64 l) ∧ w'.cell? ⟨w.heap.size, 1, none⟩ = some (.slice (some ⟨b, o, none⟩) n c) ∧ w'.cell? ⟨b, o + m * 2, none⟩ = some (.int .i64 x) ∧ w'.cell? ⟨b, o + m * 2 + 1, none⟩ = some (.int .i64 y) ∧ Below wr.heap.size wr w')
          (first | assumption | (exact keep4 (by assumption) (by assumption) HZ.out HZ.out HQ.out HQ.out) | (exact ⟨x0, x1, e0, e1, below_drew _⟩))
          (first | (go_at_call 126; refine (KD.out _).mono ?_; rintro e w6 ⟨rfl, rfl⟩))
        rename_i hH
        obtain ⟨y0, y1, f0, f1, hbH⟩ := hH
        have B6 := Lib.hid (BB.out.trans (hbH.mono BB.out.size))
        have BW6 := Lib.hid (BW.out.trans (hbH.mono BW.out.size))
        have HZ6 := Lib.hid (Nat.lt_of_lt_of_le HZ.out hbH.size)
        have HQ6 := Lib.hid (Nat.lt_of_lt_of_le HQ.out hbH.size)
        clear x0 x1 e0 e1 hbH
        generalize World.drew wr = wd at *
        go_wp2_with fail
        go_quiet (fail)
        have B7 := Lib.hid (drewN_below B6.out nq)
        go_wp2_with fail
        go_roundw
        case rel => exact ⟨m + 1, by omega, by go_num, SS.out, B7.out⟩
        case measure => simp [intOf]; omega
    · obtain rfl : m = n := by omega
      have e : L.take m = L := List.take_of_length_le (by have := HL.out; omega)
      rw [e] at LT
      have RR := Lib.hid (RES.out true (fun _ _ => LT.out) (fun q => by cases q))
      clear e
      go_wp2_with (go_at_call 122; refine (IS.out _).mono ?_; rintro e w1 ⟨rfl, rfl⟩)
      go_ret
      exact ⟨by rw [← RR.out, Bool.and_true]; rfl, BW.out⟩
end Go.Proofs.YtelekchdbiimiaaGreat
namespace Go.Proofs.YtelekchdbiimiaaGreat
set_option linter.unusedVariables false
set_option maxRecDepth 100000
open Go.RowKit
end Go.Proofs.YtelekchdbiimiaaGreat
namespace Go.Proofs.YtelekchdbiimiaaGreat
set_option linter.unusedVariables false
set_option maxRecDepth 100000
open Go.RowKit
end Go.Proofs.YtelekchdbiimiaaGreat
namespace Go.Proofs.YtelekchdbiimiaaGreat
set_option linter.unusedVariables false
set_option maxRecDepth 100000
open Go.RowKit
theorem rDgIs_any (l k kd : Int) (w : World) : Calls Tryz.prog 86 #[.agg #[.int .i64 l, .int .i64 k, .int .i64 kd]] w fun e w' => e = .returned (.bool (kIs k && isP kd l)) ∧ Below w.heap.size w w' := by
  have HB0 : Hid (Below w.heap.size w (w.alloc (.cells #[.int .i64 l, .int .i64 k, .int .i64 kd] 23))) := (Below.refl _ _).alloc (Nat.le_refl _) _
  obtain ⟨x0, x1, x2, _, _, _, hz⟩ := tri_all (tri_new w 23 (.int .i64 l) (.int .i64 k) (.int .i64 kd))
  have IS := Lib.hid (fun w => rPrIs_any k w)
  have PS := Lib.hid (fun w => poIs_any kd l w)
  cases hk : kIs k
  · rw [hk] at IS
    clear hk
    go_enter Tryz.func86, Tryz.ntmps86
    go_wp2_with fail
    generalize w.alloc (.cells #[.int .i64 l, .int .i64 k, .int .i64 kd] 23) = W at *
    go_wp2_with (go_at_call 122; refine (IS.out _).mono ?_; rintro e w1 ⟨rfl, rfl⟩)
    go_ret
    exact ⟨by simp, HB0.out⟩
  · rw [hk] at IS
    clear hk
    go_enter Tryz.func86, Tryz.ntmps86
    go_wp2_with fail
    generalize w.alloc (.cells #[.int .i64 l, .int .i64 k, .int .i64 kd] 23) = W at *
    go_wp2_with (first | (go_at_call 122; refine (IS.out _).mono ?_; rintro e w1 ⟨rfl, rfl⟩) | (go_at_call 123; refine (PS.out _).mono ?_; rintro e w2 ⟨rfl, rfl⟩))
    go_ret
    exact ⟨by simp, HB0.out⟩
theorem rDgNew_any (l k kd : Int) (w : World) : Calls Tryz.prog 88 #[.agg #[.int .i64 l, .int .i64 k, .int .i64 kd]] w fun e w' => e = .returned (.agg #[.int .i64 k, .int .i64 l, .slice none 0 0]) ∧ Below w.heap.size w w' := by
  have HB0 : Hid (Below w.heap.size w (w.alloc (.cells #[.int .i64 l, .int .i64 k, .int .i64 kd] 23))) := (Below.refl _ _).alloc (Nat.le_refl _) _
  have R0 := Lib.hid (tri_new w 23 (.int .i64 l) (.int .i64 k) (.int .i64 kd))
  have hz : (w.alloc (.cells #[.int .i64 l, .int .i64 k, .int .i64 kd] 23)).heap.size = w.heap.size + 1 := by simp
  have R1 : Hid (((w.alloc (.cells #[.int .i64 l, .int .i64 k, .int .i64 kd] 23)).alloc (.cells #[.int .i64 0, .int .i64 0, .slice none 0 0] 31)).ownsRow w.heap.size 31 3 (.slice (some ⟨w.heap.size + 1, 0, none⟩) 1 1) 1 [.int .i64 0, .int .i64 0, .slice none 0 0]) := by
    have q := tri_new (w.alloc (.cells #[.int .i64 l, .int .i64 k, .int .i64 kd] 23)) 31 (.int .i64 0) (.int .i64 0) (.slice none 0 0)
    rw [hz] at q
    exact own_low q (Nat.le_succ _)
  have R2 := Lib.hid (World.ownsRow.alloc R0.out (.cells #[.int .i64 0, .int .i64 0, .slice none 0 0] 31))
  have HB1 : Hid (Below w.heap.size w ((w.alloc (.cells #[.int .i64 l, .int .i64 k, .int .i64 kd] 23)).alloc (.cells #[.int .i64 0, .int .i64 0, .slice none 0 0] 31))) := HB0.out.alloc (by simp) _
  clear hz
  go_enter Tryz.func88, Tryz.ntmps88
  go_wp2_with fail
  exact bodyPost_ret (v := .agg #[.int .i64 k, .int .i64 l, .slice none 0 0]) (by simp [results, Tryz.results88, go_sem]) rfl ⟨rfl, HB0.out.alloc HB0.out.size _⟩
theorem rDgWeight_any (l k : Int) (A : Option Addr) (n c : Nat) (L : List Nd) (w : World) (h : NodesAt w (.slice A n c) L) (hr : RollC l L) (hn : n ≤ 1000) :
    Calls Tryz.prog 58 #[.agg #[.int .i64 k, .int .i64 l, .slice A n c]] w fun e w' => e = .returned (.int .i64 (sumC L)) ∧ Below w.heap.size w w' := by
  have HB0 : Hid (Below w.heap.size w (w.alloc (.cells #[.int .i64 k, .int .i64 l, .slice A n c] 31))) := (Below.refl _ _).alloc (Nat.le_refl _) _
  obtain ⟨x0, x1, x2, _, _, _, hz⟩ := tri_all (tri_new w 31 (.int .i64 k) (.int .i64 l) (.slice A n c))
  have TT := Lib.hid (fun w1 (hb : Below (w.alloc (.cells #[.int .i64 k, .int .i64 l, .slice A n c] 31)).heap.size (w.alloc (.cells #[.int .i64 k, .int .i64 l, .slice A n c] 31)) w1) => rsTotal_any l A n c L w1 (h.below (HB0.out.trans (hb.mono HB0.out.size))) hr (by omega))
  clear h hr
  go_enter Tryz.func58, Tryz.ntmps58
  go_wp2_with (go_at_call 102; refine (TT.out _ (Below.refl _ _)).mono ?_; rintro e w1 ⟨rfl, hb1⟩)
  go_ret
  exact ⟨rfl, HB0.out.trans (hb1.mono HB0.out.size)⟩
end Go.Proofs.YtelekchdbiimiaaGreat
namespace Go.Proofs.YtelekchdbiimiaaGreat
set_option linter.unusedVariables false
set_option maxRecDepth 100000
open Go.RowKit
end Go.Proofs.YtelekchdbiimiaaGreat
namespace Go.Proofs.YtelekchdbiimiaaGreat
set_option linter.unusedVariables false
set_option maxRecDepth 100000
open Go.RowKit
end Go.Proofs.YtelekchdbiimiaaGreat
namespace Go.Proofs.YtelekchdbiimiaaGreat
set_option linter.unusedVariables false
set_option maxRecDepth 100000
open Go.RowKit
end Go.Proofs.YtelekchdbiimiaaGreat
namespace Go.Proofs.YtelekchdbiimiaaGreat
set_option linter.unusedVariables false
set_option maxRecDepth 100000
open Go.RowKit
end Go.Proofs.YtelekchdbiimiaaGreat
namespace Go.Proofs.YtelekchdbiimiaaGreat
set_option linter.unusedVariables false
set_option maxRecDepth 100000
open Go.RowKit
/-- the two boxes of a call of Load: the conf, and the digest that is handed out -/
structure DgJ (w W : World) (l k kd : Int) : Prop where
  s : W.ownsRow w.heap.size 23 3 (.slice (some ⟨w.heap.size, 0, none⟩) 1 1) 1 [.int .i64 l, .int .i64 k, .int .i64 kd]
  r : W.ownsRow w.heap.size 31 3 (.slice (some ⟨w.heap.size + 1, 0, none⟩) 1 1) 1 [.int .i64 0, .int .i64 0, .slice none 0 0]
  b : Below w.heap.size w W
theorem dgJ_new (w : World) (l k kd : Int) : DgJ w ((w.alloc (.cells #[.int .i64 l, .int .i64 k, .int .i64 kd] 23)).alloc (.cells #[.int .i64 0, .int .i64 0, .slice none 0 0] 31)) l k kd := by
  have e1 : (w.alloc (.cells #[.int .i64 l, .int .i64 k, .int .i64 kd] 23)).heap.size = w.heap.size + 1 := by simp
  have q := tri_new (w.alloc (.cells #[.int .i64 l, .int .i64 k, .int .i64 kd] 23)) 31 (.int .i64 0) (.int .i64 0) (.slice none 0 0)
  rw [e1] at q
  exact ⟨(tri_new w _ _ _ _).alloc _, own_low q (by omega), ((Below.refl _ _).alloc (Nat.le_refl _) _).alloc (by simp) _⟩
theorem DgJ.below {w W W' : World} {l k kd : Int} (h : DgJ w W l k kd) (hb : Below W.heap.size W W') : DgJ w W' l k kd := ⟨own_below h.s hb, own_below h.r hb, h.b.trans (hb.mono h.b.size)⟩
/-- what Load leaves: the slice that came in, or nothing -/
def RDgLoadPost (k l : Int) (v : Value) (x : Int) (w : World) (e : Ending) (w' : World) : Prop := e = .returned (.tuple #[.agg #[.int .i64 k, .int .i64 l, v], .int .i64 x]) ∧ Below w.heap.size w w'
theorem dgJ_end {w W : World} {l k kd : Int} (I : DgJ w W l k kd) (a b x : Int) (v : Value) : RDgLoadPost a b v x w (.returned (.tuple #[.agg #[.int .i64 a, .int .i64 b, v], .int .i64 x])) (((W.setCell ⟨w.heap.size + 1, 0, none⟩ (.int .i64 a)).setCell ⟨w.heap.size + 1, 1, none⟩ (.int .i64 b)).setCell ⟨w.heap.size + 1, 2, none⟩ v) :=
  ⟨rfl, I.b.trans (tri_set I.r (.int .i64 a) (.int .i64 b) v).2.2.1⟩
set_option maxHeartbeats 3200000 in
theorem rDgLoad_ok (kd l k : Int) (A : Option Addr) (m c : Nat) (L : List Nd) (w : World) (hv : NodesAt w (.slice A m c) L) (hB : NBds L) (hm : m ≤ 500) (L0 : -9223372036854775808 ≤ l) (L1 : l ≤ 9223372036854775807) (hc : kIs k = true ∧ isP kd l = true) (hr : rollB l L = true) (hl : (L.length : Int) ≤ 8 * k) (hlt : lightB l L k = true) :
    Calls Tryz.prog 49 #[.agg #[.int .i64 l, .int .i64 k, .int .i64 kd], .slice A m c] w (RDgLoadPost k l (.slice A m c) 0 w) := by
  have I0 := Lib.hid (dgJ_new w l k kd)
  have HV := Lib.hid (hv.below I0.out.b)
  have hnl := (nodes_cells hv).1
  have HNB : Hid (NBds L) := hB
  have IS := Lib.hid (fun w => rDgIs_any l k kd w)
  obtain ⟨x0, x1, x2, _, _, _, hz⟩ := tri_all I0.out.s
  rw [hc.1, hc.2] at IS
  have kb : 1 ≤ k ∧ k ≤ 1048576 := of_decide_eq_true hc.1
  have RT := Lib.hid (fun w1 (h : NodesAt w1 (.slice A m c) L) => rRight_any l A m c L w1 h HNB.out (by omega) L0 L1)
  unfold RightPost at RT
  rw [hr] at RT
  have HR := Lib.hid (roll_iff.1 hr)
  have NW := Lib.hid (fun w => rDgNew_any l k kd w)
  have hw8 : IntKind.i64.wrap (8 * k) = 8 * k := wrap_lit rfl (by omega) (by omega)
  have LT := Lib.hid (fun w1 (h : NodesAt w1 (.slice A m c) L) => rPrLight_any l k A m c L w1 h HR.out (by omega) (by omega) (by omega))
  rw [hlt] at LT
  have z2 : decide (8 * k < (m : Int)) = false := decide_eq_false (by omega)
  clear hv hB hc hr hlt hl hnl
  go_enter Tryz.func49, Tryz.ntmps49
  go_wp2_with fail
  generalize (w.alloc (.cells #[.int .i64 l, .int .i64 k, .int .i64 kd] 23)).alloc (.cells #[.int .i64 0, .int .i64 0, .slice none 0 0] 31) = W0 at *
  refine (IS.out _).mono ?_
  rintro e w1 ⟨rfl, hb1⟩
  have I1 := Lib.hid (I0.out.below hb1)
  have V1 := Lib.hid (HV.out.below hb1)
  obtain ⟨x0, x1, x2, _, _, _, hz⟩ := tri_all I1.out.s
  clear hb1
  go_wp2_with fail
  refine (RT.out _ V1.out).mono ?_
  rintro e w2 ⟨rfl, hb2⟩
  have I2 := Lib.hid (I1.out.below hb2)
  have V2 := Lib.hid (V1.out.below hb2)
  obtain ⟨x0, x1, x2, _, _, _, hz⟩ := tri_all I2.out.s
  clear hb2
  go_wp2_with fail
  refine (NW.out _).mono ?_
  rintro e w3 ⟨rfl, hb3⟩
  have hba : Below w3.heap.size w3 (w3.alloc (.cells #[.int .i64 k, .int .i64 l, .slice A m c] 31)) := (Below.refl _ _).alloc (Nat.le_refl _) _
  have I3 := Lib.hid (I2.out.below hb3)
  have I4 := Lib.hid (I3.out.below hba)
  have V4 := Lib.hid ((V2.out.below hb3).below hba)
  have T4 := Lib.hid (tri_new w3 31 (.int .i64 k) (.int .i64 l) (.slice A m c))
  obtain ⟨x0, x1, x2, _, _, _, hz⟩ := tri_all I3.out.s
  clear hb3 hba
  go_wp2_with fail
  generalize w3.alloc (.cells #[.int .i64 k, .int .i64 l, .slice A m c] 31) = W4 at *
  refine (LT.out _ V4.out).mono ?_
  rintro e w5 ⟨rfl, hb5⟩
  have I5 := Lib.hid (I4.out.below hb5)
  obtain ⟨t0, t1, t2, _, _, _, hz3⟩ := tri_all (own_below T4.out hb5)
  obtain ⟨y0, y1, y2, f0, f1, f2, hz2⟩ := tri_all I5.out.r
  obtain ⟨q0, q1, q2⟩ := set_three I5.out.r (.int .i64 k) (.int .i64 l) (.slice A m c)
  have E2 := Lib.hid (dgJ_end I5.out k l 0 (.slice A m c))
  clear hb5
  go_wp2_with fail
  exact bodyPost_ret (v := .tuple #[.agg #[.int .i64 k, .int .i64 l, .slice A m c], .int .i64 0]) (by simp [results, Tryz.results49, go_sem, q0, q1, q2]) rfl E2.out
end Go.Proofs.YtelekchdbiimiaaGreat
namespace Go.Proofs.YtelekchdbiimiaaGreat
set_option linter.unusedVariables false
set_option maxRecDepth 100000
open Go.RowKit
end Go.Proofs.YtelekchdbiimiaaGreat
namespace Go.Proofs.YtelekchdbiimiaaGreat
set_option linter.unusedVariables false
set_option maxRecDepth 100000
open Go.RowKit
theorem dgLdo_one {l k : Int} {L : List Nd} {x c : Int} : dgDo l k L 1 x c = pressW l k L ∧ dgTell l k L 1 x c = (pressN l k L : Int) := ⟨rfl, rfl⟩
theorem dgLdo_two {l k : Int} {L : List Nd} {x c : Int} : dgDo l k L 2 x c = [] ∧ dgTell l k L 2 x c = 0 := ⟨rfl, rfl⟩
theorem dgLdo_else {l k kd : Int} {L : List Nd} {x c : Int} (h1 : ¬ kd = 1) (h2 : ¬ kd = 2) : dgDo l k L kd x c = dgIns l k L x c ∧ dgTell l k L kd x c = dgE l L x c := by
  unfold dgDo dgTell
  rw [if_neg h1, if_neg h1, if_neg h2, if_neg h2]
  exact ⟨rfl, rfl⟩
theorem dgPost_from {B q p g h : Nat} {kd l k : Int} {n m : Nat} {M : List Nd} {x : Int} {w w0 w' : World} {v : Value} (hb : Below w.heap.size w w0) (hm : n ≤ m) (f : ∃ p' g' h', DgA w' B q p' g' h' kd l k n M ∧ Kp (dgF q p g h) w0 w' ∧ ∀ i, dgF q p' g' h' i → dgF q p g h i ∨ w0.heap.size ≤ i) :
    DgPost B q p g h kd l k m M x w (.returned (.int .i64 x)) w' := by
  obtain ⟨p', g', h', a, b, c⟩ := f
  exact ⟨rfl, p', g', h', a.more hm, (Kp.of (F := dgF q p g h) hb).trans b (fun i _ z => z), fun i z => (c i z).imp (fun z => z) fun z => by have := hb.size; omega⟩
set_option maxHeartbeats 1600000 in
theorem dgLdo_any {B q p g h : Nat} {kd l k : Int} {n : Nat} {L : List Nd} (op x c : Int) (w : World) (d : DgA w B q p g h kd l k n L) (hn : n ≤ 400)
    (A0 : -9223372036854775808 ≤ x) (A1 : x ≤ 9223372036854775807) (B0 : -9223372036854775808 ≤ c) (B1 : c ≤ 9223372036854775807) :
    Calls Tryz.prog 38 #[.pointer (some ⟨q, 0, none⟩), .agg #[.int .i64 op, .int .i64 x, .int .i64 c]] w (DgPost B q p g h kd l k (n + 1) (dgDo l k L op x c) (dgTell l k L op x c) w) := by
  have HB0 : Hid (Below w.heap.size w (w.alloc (.cells #[.int .i64 op, .int .i64 x, .int .i64 c] 99))) := (Below.refl _ _).alloc (Nat.le_refl _) _
  obtain ⟨x0, x1, x2, _, _, _, hz⟩ := tri_all (tri_nw w 99 (.int .i64 op) (.int .i64 x) (.int .i64 c))
  have D0 := Lib.hid (d.below HB0.out)
  clear d
  by_cases h1 : op = 1
  · subst h1
    rw [dgLdo_one.1, dgLdo_one.2]
    have CP := Lib.hid (dgCompress_any _ D0.out hn)
    generalize pressW l k L = M at *
    generalize ((pressN l k L : Nat) : Int) = t at *
    go_enter Tryz.func38, Tryz.ntmps38
    go_wp2_with fail
    generalize w.alloc (.cells #[.int .i64 1, .int .i64 x, .int .i64 c] 99) = W at *
    refine CP.out.mono ?_
    rintro e w1 ⟨rfl, q1⟩
    have E := Lib.hid (dgPost_from (x := t) (v := .int .i64 t) HB0.out (Nat.le_succ n) q1)
    clear q1
    go_wp2_with fail
    go_ret
    exact E.out
  · by_cases h2 : op = 2
    · subst h2
      rw [dgLdo_two.1, dgLdo_two.2]
      have CP := Lib.hid (dgReset_any _ D0.out)
      clear h1
      go_enter Tryz.func38, Tryz.ntmps38
      go_wp2_with fail
      generalize w.alloc (.cells #[.int .i64 2, .int .i64 x, .int .i64 c] 99) = W at *
      refine CP.out.mono ?_
      rintro e w1 ⟨rfl, q1⟩
      have E := Lib.hid (dgPost_from (x := 0) (v := .int .i64 0) HB0.out (Nat.le_succ n) q1)
      clear q1
      go_wp2_with fail
      go_ret
      exact E.out
    · rw [(dgLdo_else h1 h2).1, (dgLdo_else h1 h2).2]
      have CP := Lib.hid (dgInsert_any x c _ D0.out hn A0 A1 B0 B1)
      have b1 : (op == 1) = false := beq_eq_false_iff_ne.2 h1
      have b2 : (op == 2) = false := beq_eq_false_iff_ne.2 h2
      clear h1 h2
      generalize dgIns l k L x c = M at *
      generalize dgE l L x c = t at *
      go_enter Tryz.func38, Tryz.ntmps38
      go_wp2_with fail
      generalize w.alloc (.cells #[.int .i64 op, .int .i64 x, .int .i64 c] 99) = W at *
      refine CP.out.mono ?_
      rintro e w1 ⟨rfl, q1⟩
      have E := Lib.hid (dgPost_from (x := t) (v := .int .i64 t) HB0.out (Nat.le_refl _) q1)
      clear q1
      go_wp2_with fail
      go_ret
      exact E.out
end Go.Proofs.YtelekchdbiimiaaGreat
namespace Go.Proofs.YtelekchdbiimiaaGreat
set_option linter.unusedVariables false
set_option maxRecDepth 100000
open Go.RowKit
end Go.Proofs.YtelekchdbiimiaaGreat
namespace Go.Proofs.YtelekchdbiimiaaGreat
set_option linter.unusedVariables false
set_option maxRecDepth 100000
open Go.RowKit
end Go.Proofs.YtelekchdbiimiaaGreat
