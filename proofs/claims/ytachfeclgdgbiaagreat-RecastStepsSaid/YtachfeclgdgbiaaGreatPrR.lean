/- Texts laid together: PrRef, PrRef2, PrRef3. -/
import Derived.Test.YtachfeclgdgbiaaGreatPrP
import Derived.Test.YtachfeclgdgbiaaGreatFoR
import Derived.Deep.RegionHeld3
import Derived.Deep.DrawnRows
import Derived.BigQuiet
import Derived.Test.YtachfeclgdgbiaaGreatDgN
/- The document's answers of package dewpondref12: Is, Bound, Cap, Tight, Light. -/
namespace Go.Proofs.YtachfeclgdgbiaaGreat
set_option linter.unusedVariables false
set_option maxRecDepth 100000
open Go.RowKit

theorem rPrIs_any (k : Int) (w : World) : Calls Tryz.prog 90 #[.int .i64 k] w fun e w' => e = .returned (.bool (kIs k)) ∧ w = w' := by
  unfold kIs
  by_cases h1 : 1 ≤ k
  · have c1 : decide (1 ≤ k) = true := decide_eq_true h1
    by_cases h2 : k ≤ 1048576
    · have c2 : decide (k ≤ 1048576) = true := decide_eq_true h2
      have H := Lib.hid (decide_eq_true (p := 1 ≤ k ∧ k ≤ 1048576) ⟨h1, h2⟩)
      clear h1 h2
      go_enter Tryz.func90, Tryz.ntmps90
      go_wp2_with fail
      go_ret
      exact ⟨by rw [H.out]; rfl, rfl⟩
    · have c2 : decide (k ≤ 1048576) = false := decide_eq_false h2
      have H := Lib.hid (decide_eq_false (p := 1 ≤ k ∧ k ≤ 1048576) fun q => h2 q.2)
      clear h1 h2
      go_enter Tryz.func90, Tryz.ntmps90
      go_wp2_with fail
      go_ret
      exact ⟨by rw [H.out]; rfl, rfl⟩
  · have c1 : decide (1 ≤ k) = false := decide_eq_false h1
    have H := Lib.hid (decide_eq_false (p := 1 ≤ k ∧ k ≤ 1048576) fun q => h1 q.1)
    clear h1
    go_enter Tryz.func90, Tryz.ntmps90
    go_wp2_with fail
    go_ret
    exact ⟨by rw [H.out]; rfl, rfl⟩
theorem rPrCap_any (l k : Int) (A : Option Addr) (n c : Nat) (L : List Nd) (w : World) (h : NodesAt w (.slice A n c) L) (hr : RollC l L) (hn : n ≤ 1000) (K0 : -9223372036854775808 ≤ k) (K1 : k ≤ 9223372036854775807) :
    Calls Tryz.prog 89 #[.agg #[.int .i64 l, .slice A n c], .int .i64 k] w fun e w' => e = .returned (.int .i64 (quoN (sumC L) k)) ∧ Below w.heap.size w w' := by
  have HB0 : Hid (Below w.heap.size w (w.alloc (.cells #[.int .i64 l, .slice A n c] 35))) := (Below.refl _ _).alloc (Nat.le_refl _) _
  have TT := Lib.hid (rsTotal_any l A n c L _ (h.below HB0.out) hr (by omega))
  have nn := good_nonneg (roll_good hr)
  have s0 : 0 ≤ sumC L := Int.le_trans (sum_le nn 0).1 (sum_le nn 0).2
  have s1 := hr.2.2.2.2
  have CP := Lib.hid (fun w => rFoCap_any (sumC L) k w (by omega) (by omega) K0 K1)
  clear h hr nn
  generalize quoN (sumC L) k = q at *
  generalize sumC L = s at *
  go_enter Tryz.func89, Tryz.ntmps89
  go_wp2_with (first
    | (go_at_call 75; refine TT.out.mono ?_; rintro e w1 ⟨rfl, hb1⟩)
    | (go_at_call 123; refine (CP.out _).mono ?_; rintro e w2 ⟨rfl, rfl⟩))
  go_ret
  exact ⟨rfl, HB0.out.trans (hb1.mono HB0.out.size)⟩
theorem light_snoc {l cap : Int} {L : List Nd} {k : Nat} (hk : k < L.length) (h : LightC l cap (L.take k)) (h2 : KidC l (L.getD k nz).1 → (L.getD k nz).2 ≤ cap) : LightC l cap (L.take (k + 1)) := by
  rw [nd_take hk]
  intro m hm hq
  rcases List.mem_append.1 hm with z | z
  · exact h m z hq
  · rw [List.mem_singleton.1 z] at hq ⊢
    exact h2 hq
theorem prBelow4 {W a : World} {p q r s : Addr} {x y z u : Value} (h : a.cell? p = some x ∧ a.cell? q = some y ∧ a.cell? r = some z ∧ a.cell? s = some u ∧ Below W.heap.size W a) : Below W.heap.size W a := h.2.2.2.2
set_option maxHeartbeats 3200000 in
theorem rPrLight_any (l k : Int) (A : Option Addr) (n c : Nat) (L : List Nd) (w : World) (h : NodesAt w (.slice A n c) L) (hr : RollC l L) (hn : n ≤ 1000) (K0 : -9223372036854775808 ≤ k) (K1 : k ≤ 9223372036854775807) :
    Calls Tryz.prog 57 #[.agg #[.int .i64 l, .slice A n c], .int .i64 k] w fun e w' => e = .returned (.bool (lightB l L k)) ∧ Below w.heap.size w w' := by
  have HB0 : Hid (Below w.heap.size w (w.alloc (.cells #[.int .i64 l, .slice A n c] 35))) := (Below.refl _ _).alloc (Nat.le_refl _) _
  have XR := Lib.hid (foBx2 w 35 (.int .i64 l) (.slice A n c))
  have u : 1 ≤ l ∧ l ≤ 48 := of_decide_eq_true hr.1
  have HL := Lib.hid (nodes_cells h).1
  have HA := Lib.hid (nodes_cells h).2.2.2
  have NB := Lib.hid (nbds_roll hr)
  have IS := Lib.hid (fun w => rPrIs_any k w)
  have CP := Lib.hid (fun w1 (hb : Below w.heap.size w w1) => rPrCap_any l k A n c L w1 (h.below hb) hr hn K0 K1)
  have RES : Hid (∀ b : Bool, (b = true → kIs k = true → LightC l (quoN (sumC L) k) L) → (b = false → ¬ LightC l (quoN (sumC L) k) L ∨ kIs k = false) → (kIs k && b) = lightB l L k) := by
    intro b h1 h2
    unfold lightB
    cases hk : kIs k
    · simp
    · rw [cap_quo hr hk] at h1 h2
      rw [hk] at h2
      cases b
      · rcases h2 rfl with q | q
        · rw [decide_eq_false q]
        · cases q
      · rw [decide_eq_true (h1 rfl hk)]
  generalize hcp : quoN (sumC L) k = cap at *
  clear h hr hcp
  go_enter Tryz.func57, Tryz.ntmps57
  go_wp2_with fail
  generalize w.alloc (.cells #[.int .i64 l, .slice A n c] 35) = W at *
  go_loopw [5] (fun i wr => ∃ m : Nat, m ≤ n ∧ i = .int .i64 m ∧ LightC l cap (L.take m) ∧ Below W.heap.size W wr) (fun i _ => n - (intOf i).toNat)
  case atStart => exact ⟨0, by omega, rfl, fun _ hm => by simp at hm, Below.refl _ _⟩
  case round =>
    rename_i wr
    obtain ⟨m, hm, rfl, hlt, hb⟩ := hrel
    have LT := Lib.hid hlt
    have BB := Lib.hid hb
    have BW := Lib.hid (HB0.out.trans (hb.mono HB0.out.size))
    obtain ⟨x0, x1, _, _, hz⟩ := box_cells (own_below XR.out hb)
    have HZ := Lib.hid hz
    clear hlt hb hz
    by_cases hlt : m < n
    · have hk2 : m < L.length := by have := HL.out; omega
      obtain ⟨b, o, rfl, hin⟩ := HA.out (by omega)
      obtain ⟨e0, e1⟩ := (hin.below BW.out hin.1).2 m hk2
      have HQ : Hid (b < wr.heap.size) := Nat.lt_of_lt_of_le hin.1 BW.out.size
      have hx := nbds_at NB.out hk2
      have SN := Lib.hid (fun h => light_snoc (k := m) (l := l) (cap := cap) hk2 LT.out h)
      have NO : Hid (KidC l (L.getD m nz).1 → cap < (L.getD m nz).2 → ¬ LightC l cap L) := fun h1 h2 h3 => by
        have := h3 _ (nd_mem hk2) h1
        omega
      clear hin
      generalize (L.getD m nz).1 = x at *
      generalize (L.getD m nz).2 = y at *
      have KD := Lib.hid (fun w => rkids_any l x w (by omega) (by omega) hx.1.1 hx.1.2)
      have k0 : (0 : Int) ≤ (m : Int) := Int.natCast_nonneg _
      have k1 : (m : Int) < (n : Int) := by omega
      by_cases hk : KidC l x
      · obtain ⟨k1, k2, k3⟩ := kid_yes hk
        rw [k1, k2, k3] at KD
        clear k1 k2 k3
        by_cases hc : cap < y
        · have c1 : decide (y > cap) = true := decide_eq_true hc
          have RR := Lib.hid (RES.out false (fun q => by cases q) (fun _ => .inl (NO.out hk hc)))
          clear hk hc
          go_wp2_with fail
          go_region_held3 (fun w' => w'.cell? ⟨w.heap.size, 0, none⟩ = some (.int .i64 l) ∧ w'.cell? ⟨w.heap.size, 1, none⟩ = some (.slice (some ⟨b, o, none⟩) n c) ∧ w'.cell? ⟨b, o + m * 2, none⟩ = some (.int .i64 x) ∧ w'.cell? ⟨b, o + m * 2 + 1, none⟩ = some (.int .i64 y) ∧ Below wr.heap.size wr w')
            (first | assumption | (exact keep4 (by assumption) (by assumption) HZ.out HZ.out HQ.out HQ.out) | (exact ⟨x0, x1, e0, e1, below_drew _⟩))
            (first | (go_at_call 88; refine (KD.out _).mono ?_; rintro e w6 ⟨rfl, rfl⟩))
          rename_i hH
          obtain ⟨y0, y1, f0, f1, hbH⟩ := hH
          have B6 := Lib.hid (BB.out.trans (hbH.mono BB.out.size))
          have BW6 := Lib.hid (BW.out.trans (hbH.mono BW.out.size))
          have HZ6 := Lib.hid (Nat.lt_of_lt_of_le HZ.out hbH.size)
          have HQ6 := Lib.hid (Nat.lt_of_lt_of_le HQ.out hbH.size)
          clear x0 x1 e0 e1 hbH
          generalize World.drew wr = wd at *
          go_wp2_with fail
          go_region_held3 (fun w' => w'.cell? ⟨w.heap.size, 0, none⟩ = some (.int .i64 l) ∧ w'.cell? ⟨w.heap.size, 1, none⟩ = some (.slice (some ⟨b, o, none⟩) n c) ∧ w'.cell? ⟨b, o + m * 2, none⟩ = some (.int .i64 x) ∧ w'.cell? ⟨b, o + m * 2 + 1, none⟩ = some (.int .i64 y) ∧ Below wd.heap.size wd w')
            (first | assumption | (exact keep4 (by assumption) (by assumption) HZ6.out HZ6.out HQ6.out HQ6.out) | (exact ⟨y0, y1, f0, f1, below_drew _⟩))
            (first | ((with_reducible refine (CP.out _ (BW6.out.trans ((prBelow4 (by assumption) : Below wd.heap.size wd _).mono BW6.out.size))).mono ?_); rintro e w7 ⟨rfl, hb7⟩))
          rename_i hH
          have B7 := Lib.hid (B6.out.trans (hH.2.2.2.2.mono B6.out.size))
          have BW7 := Lib.hid (BW6.out.trans (hH.2.2.2.2.mono BW6.out.size))
          clear hH y0 y1 f0 f1
          go_wp2_with fail
          go_ret
          exact ⟨by rw [← RR.out, Bool.and_false]; rfl, BW7.out⟩
        · have c1 : decide (y > cap) = false := decide_eq_false hc
          have SS := Lib.hid (SN.out (fun _ => by omega))
          clear hk hc
          go_wp2_with fail
          go_region_held3 (fun w' => w'.cell? ⟨w.heap.size, 0, none⟩ = some (.int .i64 l) ∧ w'.cell? ⟨w.heap.size, 1, none⟩ = some (.slice (some ⟨b, o, none⟩) n c) ∧ w'.cell? ⟨b, o + m * 2, none⟩ = some (.int .i64 x) ∧ w'.cell? ⟨b, o + m * 2 + 1, none⟩ = some (.int .i64 y) ∧ Below wr.heap.size wr w')
            (first | assumption | (exact keep4 (by assumption) (by assumption) HZ.out HZ.out HQ.out HQ.out) | (exact ⟨x0, x1, e0, e1, below_drew _⟩))
            (first | (go_at_call 88; refine (KD.out _).mono ?_; rintro e w6 ⟨rfl, rfl⟩))
          rename_i hH
          obtain ⟨y0, y1, f0, f1, hbH⟩ := hH
          have B6 := Lib.hid (BB.out.trans (hbH.mono BB.out.size))
          have BW6 := Lib.hid (BW.out.trans (hbH.mono BW.out.size))
          have HZ6 := Lib.hid (Nat.lt_of_lt_of_le HZ.out hbH.size)
          have HQ6 := Lib.hid (Nat.lt_of_lt_of_le HQ.out hbH.size)
          clear x0 x1 e0 e1 hbH
          generalize World.drew wr = wd at *
          go_wp2_with fail
          go_region_held3 (fun w' => w'.cell? ⟨w.heap.size, 0, none⟩ = some (.int .i64 l) ∧ w'.cell? ⟨w.heap.size, 1, none⟩ = some (.slice (some ⟨b, o, none⟩) n c) ∧ w'.cell? ⟨b, o + m * 2, none⟩ = some (.int .i64 x) ∧ w'.cell? ⟨b, o + m * 2 + 1, none⟩ = some (.int .i64 y) ∧ Below wd.heap.size wd w')
            (first | assumption | (exact keep4 (by assumption) (by assumption) HZ6.out HZ6.out HQ6.out HQ6.out) | (exact ⟨y0, y1, f0, f1, below_drew _⟩))
            (first | ((with_reducible refine (CP.out _ (BW6.out.trans ((prBelow4 (by assumption) : Below wd.heap.size wd _).mono BW6.out.size))).mono ?_); rintro e w7 ⟨rfl, hb7⟩))
          rename_i hH
          have B7 := Lib.hid (B6.out.trans (hH.2.2.2.2.mono B6.out.size))
          have BW7 := Lib.hid (BW6.out.trans (hH.2.2.2.2.mono BW6.out.size))
          clear hH y0 y1 f0 f1
          go_wp2_with fail
          go_roundw
          case rel => exact ⟨m + 1, by omega, by go_num, SS.out, B7.out⟩
          case measure => simp [intOf]; omega
      · obtain ⟨k1, k2, k3⟩ := kid_no hk
        rw [k1, k2, k3] at KD
        have SS := Lib.hid (SN.out (fun q => absurd q hk))
        clear k1 k2 k3 hk
        go_wp2_with fail
        go_region_held3 (fun w' => w'.cell? ⟨w.heap.size, 0, none⟩ = some (.int .i64 l) ∧ w'.cell? ⟨w.heap.size, 1, none⟩ = some (.slice (some ⟨b, o, none⟩) n c) ∧ w'.cell? ⟨b, o + m * 2, none⟩ = some (.int .i64 x) ∧ w'.cell? ⟨b, o + m * 2 + 1, none⟩ = some (.int .i64 y) ∧ Below wr.heap.size wr w')
          (first | assumption | (exact keep4 (by assumption) (by assumption) HZ.out HZ.out HQ.out HQ.out) | (exact ⟨x0, x1, e0, e1, below_drew _⟩))
          (first | (go_at_call 88; refine (KD.out _).mono ?_; rintro e w6 ⟨rfl, rfl⟩))
        rename_i hH
        obtain ⟨y0, y1, f0, f1, hbH⟩ := hH
        have B6 := Lib.hid (BB.out.trans (hbH.mono BB.out.size))
        have BW6 := Lib.hid (BW.out.trans (hbH.mono BW.out.size))
        have HZ6 := Lib.hid (Nat.lt_of_lt_of_le HZ.out hbH.size)
        have HQ6 := Lib.hid (Nat.lt_of_lt_of_le HQ.out hbH.size)
        clear x0 x1 e0 e1 hbH
        generalize World.drew wr = wd at *
        go_wp2_with fail
        go_quiet (fail)
        have B7 := Lib.hid (drewN_below B6.out nq)
        go_wp2_with fail
        go_roundw
        case rel => exact ⟨m + 1, by omega, by go_num, SS.out, B7.out⟩
        case measure => simp [intOf]; omega
    · obtain rfl : m = n := by omega
      have e : L.take m = L := List.take_of_length_le (by have := HL.out; omega)
      rw [e] at LT
      have RR := Lib.hid (RES.out true (fun _ _ => LT.out) (fun q => by cases q))
      clear e
      go_wp2_with (go_at_call 90; refine (IS.out _).mono ?_; rintro e w1 ⟨rfl, rfl⟩)
      go_ret
      exact ⟨by rw [← RR.out, Bool.and_true]; rfl, BW.out⟩

end Go.Proofs.YtachfeclgdgbiaaGreat

/- The document's answer of package dewpondref12: Run. -/
namespace Go.Proofs.YtachfeclgdgbiaaGreat
set_option linter.unusedVariables false
set_option maxRecDepth 100000
open Go.RowKit

theorem own_up {e : TypeId} {w : World} {B B2 size n : Nat} {v : Value} {xs : List Value} (h : w.ownsRow B e size v n xs) (hB : ∀ b, v.ownBlock = some b → B2 ≤ b) : w.ownsRow B2 e size v n xs := by
  refine ⟨h.1, ?_⟩
  rcases h.2 with hn | ⟨g, cap, cur, rfl, hb, rest⟩
  · exact .inl hn
  · exact .inr ⟨g, cap, cur, rfl, hB g rfl, rest⟩
/-- a list of nodes: the one that came in, or a row of its own, made since -/
def HasL (w W : World) (A0 : Option Addr) (n0 c0 : Nat) (L0 : List Nd) (v : Value) (L : List Nd) : Prop := (v = .slice A0 n0 c0 ∧ L = L0) ∨ OwnNd 75 W w.heap.size v L
theorem HasL.nodes {w W : World} {A0 A : Option Addr} {n0 c0 n c : Nat} {L0 L : List Nd} (h : HasL w W A0 n0 c0 L0 (.slice A n c) L) (h0 : NodesAt w (.slice A0 n0 c0) L0) (hb : Below w.heap.size w W) : NodesAt W (.slice A n c) L := by
  rcases h with ⟨e, e2⟩ | o
  · rw [e, e2]; exact h0.below hb
  · exact ownNd_nodes o
theorem HasL.below {w W W' : World} {A0 : Option Addr} {n0 c0 : Nat} {L0 L : List Nd} {v : Value} (h : HasL w W A0 n0 c0 L0 v L) (hb : Below W.heap.size W W') : HasL w W' A0 n0 c0 L0 v L := h.imp (fun q => q) fun o => own_below o hb
/-- what Run leaves: its list is the one that came in, or a row of its own -/
def RunPostH (l : Int) (A0 : Option Addr) (n0 c0 : Nat) (L : List Nd) (cap : Int) (w : World) (e : Ending) (w' : World) : Prop :=
  ∃ (j : Nat) (A : Option Addr) (m c : Nat) (A2 : Option Addr) (m2 c2 : Nat), e = .returned (.tuple #[.agg #[.int .i64 l, .slice A m c], .slice A2 m2 c2]) ∧ (Live l cap L j ∧ hasX l cap (preA l cap L j) = false) ∧ HasL w w' A0 n0 c0 L (.slice A m c) (preA l cap L j) ∧ OwnI 3 w' w.heap.size (.slice A2 m2 c2) (preS l cap L j) ∧ Below w.heap.size w w'
/-- what Run leaves -/
def RunPostR (l : Int) (L : List Nd) (cap : Int) (w : World) (e : Ending) (w' : World) : Prop :=
  ∃ (j : Nat) (A : Option Addr) (m c : Nat) (A2 : Option Addr) (m2 c2 : Nat), e = .returned (.tuple #[.agg #[.int .i64 l, .slice A m c], .slice A2 m2 c2]) ∧ (Live l cap L j ∧ hasX l cap (preA l cap L j) = false) ∧ NodesAt w' (.slice A m c) (preA l cap L j) ∧ OwnI 3 w' w.heap.size (.slice A2 m2 c2) (preS l cap L j) ∧ Below w.heap.size w w'
theorem cap_pre {l : Int} {L : List Nd} (h : RollC l L) {k : Int} (hk : kIs k = true) {j : Nat} (hl : Live l (capW L k) L j) : quoN (sumC (preA l (capW L k) L j)) k = capW L k := by
  have q := pre_inv h hl
  rw [cap_quo q.roll hk]
  unfold capW
  have z := q.tot
  unfold capW at z
  rw [z]
theorem HasL.set {w W W' : World} {A0 : Option Addr} {n0 c0 : Nat} {L0 L : List Nd} {v : Value} (h : HasL w W A0 n0 c0 L0 v L)
    (k : ∀ (base : Nat) (e : TypeId) (size n : Nat) (v : Value) (ys : List Value), e ≠ 35 → W.ownsRow base e size v n ys → W'.ownsRow base e size v n ys) : HasL w W' A0 n0 c0 L0 v L := h.imp (fun q => q) fun o => k _ _ _ _ _ _ (by decide) o
set_option maxHeartbeats 6400000 in
theorem rPrRun_has (l k : Int) (A : Option Addr) (n c : Nat) (L : List Nd) (w : World) (h : NodesAt w (.slice A n c) L) (hr : RollC l L) (hn : n ≤ 400) (hk : kIs k = true) :
    Calls Tryz.prog 79 #[.agg #[.int .i64 l, .slice A n c], .int .i64 k] w (RunPostH l A n c L (capW L k) w) := by
  have I0 := Lib.hid (doI_new w l (.slice A n c))
  have HN := Lib.hid h
  have HL := Lib.hid (nodes_cells h).1
  have HR := Lib.hid hr
  have kb := of_decide_eq_true hk
  have u : 1 ≤ l ∧ l ≤ 48 := of_decide_eq_true hr.1
  have CQ := Lib.hid (fun (j : Nat) hl => cap_pre (j := j) hr hk hl)
  have LLE := Lib.hid (fun (j : Nat) hl => live_le (cap := capW L k) (j := j) hr hl)
  have PIN := Lib.hid (fun (j : Nat) hl => pre_inv (cap := capW L k) (j := j) hr hl)
  have hN : Hid (l * (L.length : Int) ≤ 19200) := by
    have a1 := (nodes_cells h).1
    have a2 : l * (L.length : Int) ≤ 48 * (L.length : Int) := Int.mul_le_mul_of_nonneg_right u.2 (by omega)
    show _ ≤ _
    omega
  clear h hr hk
  generalize hcp : capW L k = cap at *
  clear hcp
  obtain ⟨N, hNN⟩ : ∃ N : Nat, N = (l * (L.length : Int)).toNat + 1 := ⟨_, rfl⟩
  have HNN := Lib.hid hNN
  clear hNN
  obtain ⟨i0, hi, hz0, hz1, hz2⟩ := info_parts foInt_info
  go_enter Tryz.func79, Tryz.ntmps79
  go_wp2_with fail
  generalize (w.alloc (.cells #[.int .i64 l, .slice A n c] 35)).alloc (.cells #[.int .i64 0, .slice none 0 0] 35) = W0 at *
  go_loopw [6] (fun x wr => ∃ (j : Nat) (A1 : Option Addr) (m1 c1 : Nat) (A2 : Option Addr) (m2 c2 : Nat), x = .slice A2 m2 c2 ∧ DoI w wr l (.slice A1 m1 c1) (.int .i64 0) (.slice none 0 0) ∧ HasL w wr A n c L (.slice A1 m1 c1) (preA l cap L j) ∧ OwnI 3 wr w.heap.size (.slice A2 m2 c2) (preS l cap L j) ∧ Live l cap L j) (fun x _ => N - lenV x)
  case atStart => exact ⟨0, A, n, c, none, 0, 0, rfl, I0.out, .inl ⟨rfl, rfl⟩, ownI_nil _ _ _, fun i hi => absurd hi (Nat.not_lt_zero i)⟩
  case round =>
    obtain ⟨j, A1, m1, c1, A2, m2, c2, rfl, hi1, hl1, ho1, hlv⟩ := hrel
    have P := Lib.hid (PIN.out j hlv)
    have I1 := Lib.hid hi1
    have L1 := Lib.hid hl1
    have O1 := Lib.hid ho1
    have LV := Lib.hid hlv
    have NV := Lib.hid (hl1.nodes HN.out hi1.b)
    have hm1 : m1 ≤ 400 := by have a := (nodes_cells NV.out).1; have b := P.out.len; have := HL.out; omega
    have hm2 : Hid (m2 = j) := by show _ = _; have a := (ints_cells (ownI_ints ho1)).1; rw [preS_len] at a; exact a
    have CP := Lib.hid (fun w1 (hb : Below wr.heap.size wr w1) => rPrCap_any l k A1 m1 c1 _ w1 (NV.out.below hb) P.out.roll (by omega) (by omega) (by omega))
    rw [CQ.out j hlv] at CP
    have FI := Lib.hid (fun w1 (hb : Below wr.heap.size wr w1) => rFirst_any l cap A1 m1 c1 _ w1 (NV.out.below hb) P.out.roll (by omega))
    obtain ⟨x0, x1, _, _, hz⟩ := box_cells hi1.s
    have HZ := Lib.hid hz
    have hp := has_pair (cap := cap) P.out.roll
    have HX := Lib.hid hp
    have PA := preA.eq_2 l cap L j
    have PS := preS.eq_2 l cap L j
    have HPA := Lib.hid PA
    have HPS := Lib.hid PS
    clear hi1 hl1 ho1 hlv hz hp PA PS
    change Hid (∀ w1, Below wr.heap.size wr w1 → Calls Tryz.prog 112 _ _ fun e w' => e = .returned (.tuple #[.int .i64 (fstX l cap (preA l cap L j)), .bool (hasX l cap (preA l cap L j))]) ∧ _) at FI
    generalize fstX l cap (preA l cap L j) = fx at *
    cases hx : hasX l cap (preA l cap L j)
    · have HXF := Lib.hid hx
      rw [hx] at FI
      clear hx HX
      go_wp2_with fail
      go_region_held3 (fun w' => w'.cell? ⟨w.heap.size, 0, none⟩ = some (.int .i64 l) ∧ w'.cell? ⟨w.heap.size, 1, none⟩ = some (.slice A1 m1 c1) ∧ Below wr.heap.size wr w')
        (first | assumption | (exact keep_two (by assumption) (by assumption) HZ.out HZ.out) | (exact ⟨x0, x1, below_drew _⟩))
        (first
          | ((with_reducible refine (CP.out _ (below_of (p := ⟨w.heap.size, 0, none⟩) (q := ⟨w.heap.size, 1, none⟩) (x := .int .i64 l) (y := .slice A1 m1 c1) (by assumption))).mono ?_); rintro e w7 ⟨rfl, hb7⟩)
          | ((with_reducible refine (FI.out _ (below_of (p := ⟨w.heap.size, 0, none⟩) (q := ⟨w.heap.size, 1, none⟩) (x := .int .i64 l) (y := .slice A1 m1 c1) (by assumption))).mono ?_); rintro e w8 ⟨rfl, hb8⟩))
      rename_i hH
      rename_i w8 _
      have hb8 : Below wr.heap.size wr w8 := hH.2.2
      have I8 := Lib.hid (I1.out.below hb8)
      have O8 := Lib.hid (own_below O1.out hb8)
      have N8 := Lib.hid (NV.out.below hb8)
      obtain ⟨s0, s1, _, _, _⟩ := box_cells I8.out.s
      obtain ⟨y0, y1, h0, h1, _⟩ := box_cells I8.out.r
      obtain ⟨q0, q1⟩ := set_two y0 y1
      have S8 := Lib.hid (box_set I8.out.r (.int .i64 l) (.slice A1 m1 c1))
      have L8 := Lib.hid ((L1.out.below hb8).set S8.out.2.1)
      have O9 := Lib.hid (S8.out.2.1 _ _ _ _ _ _ (by decide) O8.out)
      have BB := Lib.hid (I8.out.b.trans (S8.out.2.2.1.mono (Nat.le_refl _)))
      clear x0 x1 hH hb8
      go_wp2_with fail
      exact bodyPost_ret (v := .tuple #[.agg #[.int .i64 l, .slice A1 m1 c1], .slice A2 m2 c2]) (by simp [results, Tryz.results79, go_sem, q0, q1]) rfl ⟨j, A1, m1, c1, A2, m2, c2, rfl, ⟨LV.out, HXF.out⟩, L8.out, O9.out, BB.out⟩
    · have HXT := Lib.hid hx
      rw [hx] at FI HX
      have hp := HX.out rfl
      have kb1 := hp.2.2
      have HPW := Lib.hid hp
      clear hx HX hp
      go_wp2_with fail
      go_region_held3 (fun w' => w'.cell? ⟨w.heap.size, 0, none⟩ = some (.int .i64 l) ∧ w'.cell? ⟨w.heap.size, 1, none⟩ = some (.slice A1 m1 c1) ∧ Below wr.heap.size wr w')
        (first | assumption | (exact keep_two (by assumption) (by assumption) HZ.out HZ.out) | (exact ⟨x0, x1, below_drew _⟩))
        (first
          | ((with_reducible refine (CP.out _ (below_of (p := ⟨w.heap.size, 0, none⟩) (q := ⟨w.heap.size, 1, none⟩) (x := .int .i64 l) (y := .slice A1 m1 c1) (by assumption))).mono ?_); rintro e w7 ⟨rfl, hb7⟩)
          | ((with_reducible refine (FI.out _ (below_of (p := ⟨w.heap.size, 0, none⟩) (q := ⟨w.heap.size, 1, none⟩) (x := .int .i64 l) (y := .slice A1 m1 c1) (by assumption))).mono ?_); rintro e w8 ⟨rfl, hb8⟩))
      rename_i hH
      rename_i w8 _
      have hb8 : Below wr.heap.size wr w8 := hH.2.2
      have I8 := Lib.hid (I1.out.below hb8)
      have O8 := Lib.hid (own_below O1.out hb8)
      have N8 := Lib.hid (NV.out.below hb8)
      have L8 := Lib.hid (L1.out.below hb8)
      obtain ⟨s0, s1, f0, f1, _⟩ := box_cells I8.out.s
      clear x0 x1 hH hb8
      go_wp2_with fail
      have RD := Lib.hid (rDo_any l fx A1 m1 c1 _ w8 N8.out P.out.roll (by omega) (by omega) kb1.2)
      rw [← HPA.out] at RD
      generalize hpw : pairW l (preA l cap L j) fx = pw at *
      clear hpw HPW
      refine RD.out.mono ?_
      rintro e w9 ⟨A3, m3, c3, rfl, hv9, hb9⟩
      have I9 := Lib.hid (I8.out.below hb9)
      have O9 := Lib.hid (own_below O8.out hb9)
      have V9 : Hid (HasL w w9 A n c L (.slice A3 m3 c3) (preA l cap L j.succ)) := by
        rcases hv9 with ⟨e1, e2⟩ | ⟨o, ho⟩
        · rw [e1, e2]; exact L8.out.below hb9
        · exact .inr (own_up o fun b e => Nat.le_trans I8.out.b.size (ho b e))
      obtain ⟨t0, t1, g0, g1, _⟩ := box_cells I9.out.s
      have S9 := Lib.hid (box_set I9.out.s (.int .i64 l) (.slice A3 m3 c3))
      have I10 := Lib.hid (I9.out.set (.slice A3 m3 c3))
      have O10 : Hid (OwnI 3 ((w9.setCell ⟨w.heap.size, 0, none⟩ (.int .i64 l)).setCell ⟨w.heap.size, 1, none⟩ (.slice A3 m3 c3)) w.heap.size (.slice A2 m2 c2) (preS l cap L j)) := S9.out.2.1 _ _ _ _ _ _ (by decide) O9.out
      have V10 := Lib.hid (V9.out.set S9.out.2.1)
      clear s0 s1 f0 f1 hb9 hv9 RD
      have HBW := Lib.hid I10.out.b.size
      have hBz : w.heap.size ≤ (((w9.setCell ⟨w.heap.size, 0, none⟩ (.int .i64 l)).setCell ⟨w.heap.size, 1, none⟩ (.slice A3 m3 c3)).alloc (.cells #[.int .i64 fx] 3)).heap.size := by have := HBW.out; simp at this ⊢; omega
      have HLS : Hid (j < N) := by
        have a1 := LLE.out j LV.out
        have a2 := HNN.out
        show _ < _
        omega
      have hpl : (preS l cap L j).length ≤ 20000 := by
        have a1 := LLE.out j LV.out
        have a2 := hN.out
        rw [preS_len]
        omega
      go_wp2_with (at_builtin; refine wpList_append_own_at _ rfl _ _ 106 rfl w.heap.size 3 i0 (.int .i64 0) 1 8 Tryz.underlying106 hi hz0 hz1 hz2 rfl (by decide) _ (preS l cap L j).length (ints (preS l cap L j)) rfl (World.ownsRow.alloc O10.out _) ⟨w9.heap.size, 0, none⟩ 1 1 [.int .i64 fx] rfl rfl (one_new _ _ _ _ (by simp)) (one_int _) (by unfold maxLen; omega) (by omega) hBz ?_)
      intro v4 w4 hown4 hgrow4 _ hat4
      obtain ⟨A4, m4, c4, rfl⟩ := own_slice hown4
      have HR4 : Hid (OwnI 3 w4 w.heap.size (.slice A4 m4 c4) (preS l cap L j.succ)) := by rw [HPS.out]; exact ownI_snoc rfl hown4
      have HK4 : Hid (∀ (base : Nat) (e : TypeId) (size n : Nat) (v : Value) (ys : List Value), e ≠ 3 → ((w9.setCell ⟨w.heap.size, 0, none⟩ (.int .i64 l)).setCell ⟨w.heap.size, 1, none⟩ (.slice A3 m3 c3)).ownsRow base e size v n ys → w4.ownsRow base e size v n ys) := fun base e size n v ys he o =>
        (World.ownsRow.alloc o _).kept hgrow4 (own_apart o O10.out he)
      have BW4 : Hid (Below w.heap.size w w4) := by
        refine I10.out.b.trans (Kp.below (F := fun k => (Value.slice A2 m2 c2).ownBlock = some k) ((Kp.of (below_one _ _)).trans (Kp.grown hgrow4) (fun k _ h => h.symm)) (fun i hi f => ?_) HBW.out)
        have := (World.ownsRow.lt O10.out i f).1
        omega
      have I4 : Hid (DoI w w4 l (.slice A3 m3 c3) (.int .i64 0) (.slice none 0 0)) := ⟨HK4.out _ _ _ _ _ _ (by decide) I10.out.s, HK4.out _ _ _ _ _ _ (by decide) I10.out.r, BW4.out⟩
      have V4 : Hid (HasL w w4 A n c L (.slice A3 m3 c3) (preA l cap L j.succ)) := V10.out.imp (fun q => q) fun o => HK4.out _ _ _ _ _ _ (by decide) o
      have LV4 : Hid (Live l cap L (j + 1)) := live_step LV.out HXT.out
      have M4 : Hid (m4 = j + 1) := by
        have a := (ints_cells (ownI_ints HR4.out)).1
        rw [preS_len] at a
        exact a
      clear hown4 hgrow4 hat4 HK4
      go_wp2_with fail
      go_roundw
      case rel => exact ⟨j + 1, A3, m3, c3, A4, m4, c4, rfl, I4.out, V4.out, HR4.out, LV4.out⟩
      case measure =>
        have a1 := M4.out
        have a2 := hm2.out
        have a3 := HLS.out
        simp [lenV]
        omega
theorem rPrRun_any (l k : Int) (A : Option Addr) (n c : Nat) (L : List Nd) (w : World) (h : NodesAt w (.slice A n c) L) (hr : RollC l L) (hn : n ≤ 400) (hk : kIs k = true) :
    Calls Tryz.prog 79 #[.agg #[.int .i64 l, .slice A n c], .int .i64 k] w (RunPostR l L (capW L k) w) :=
  (rPrRun_has l k A n c L w h hr hn hk).mono fun e w' ⟨j, A1, m1, c1, A2, m2, c2, h1, h2, h3, h4, h5⟩ => ⟨j, A1, m1, c1, A2, m2, c2, h1, h2, h3.nodes h h5, h4, h5⟩

end Go.Proofs.YtachfeclgdgbiaaGreat

/- The document's answer of package dewpondref12: Below. -/
namespace Go.Proofs.YtachfeclgdgbiaaGreat
set_option linter.unusedVariables false
set_option maxRecDepth 100000
open Go.RowKit

set_option maxHeartbeats 3200000 in
theorem rPrBelow_any (l a : Int) (A : Option Addr) (n c : Nat) (L : List Nd) (w : World) (h : NodesAt w (.slice A n c) L) (hr : RollC l L) (hn : n ≤ 1000) (K0 : -9223372036854775808 ≤ a) (K1 : a ≤ 9223372036854775807) :
    Calls Tryz.prog 55 #[.agg #[.int .i64 l, .slice A n c], .int .i64 a] w fun e w' => e = .returned (.int .i64 (belN a L)) ∧ Below w.heap.size w w' := by
  have HB0 : Hid (Below w.heap.size w (w.alloc (.cells #[.int .i64 l, .slice A n c] 35))) := (Below.refl _ _).alloc (Nat.le_refl _) _
  have XR := Lib.hid (foBx2 w 35 (.int .i64 l) (.slice A n c))
  have HL := Lib.hid (nodes_cells h).1
  have HA := Lib.hid (nodes_cells h).2.2.2
  have NB := Lib.hid (nbds_roll hr)
  have TK := Lib.hid (fun (k : Nat) hk => wtF_take (aboveB a) (L := L) (k := k) hk)
  have GD := Lib.hid (good_nonneg (roll_good hr))
  have SC := Lib.hid (show sumC L ≤ 72057594037927935 from hr.2.2.2.2)
  have BD : Hid (∀ k : Nat, 0 ≤ wtF (aboveB a) (L.take k) ∧ wtF (aboveB a) (L.take k) ≤ 72057594037927935) := fun k => by
    have nn : NonNeg L := GD.out
    have b := wtF_bd (aboveB a) (L := L.take k) fun m hm => nn m (List.mem_of_mem_take hm)
    have e : sumC (L.take k) + sumC (L.drop k) = sumC L := by rw [← sumC_app, List.take_append_drop]
    have b2 := wtF_bd (fun _ => true) (L := L.drop k) fun m hm => nn m (List.mem_of_mem_drop hm)
    rw [wtF_all] at b2
    have s := SC.out
    exact ⟨b.1, by omega⟩
  clear h hr
  go_enter Tryz.func55, Tryz.ntmps55
  go_wp2_with fail
  generalize w.alloc (.cells #[.int .i64 l, .slice A n c] 35) = W at *
  go_loopw [5, 6] (fun x i wr => ∃ m : Nat, m ≤ n ∧ x = .int .i64 (wtF (aboveB a) (L.take m)) ∧ i = .int .i64 m ∧ Below W.heap.size W wr) (fun _ i _ => n - (intOf i).toNat)
  case atStart => exact ⟨0, by omega, rfl, rfl, Below.refl _ _⟩
  case round =>
    obtain ⟨m, hm, rfl, rfl, hb⟩ := hrel
    have BB := Lib.hid hb
    have BW := Lib.hid (HB0.out.trans (hb.mono HB0.out.size))
    obtain ⟨x0, x1, _, _, hz⟩ := box_cells (own_below XR.out hb)
    have HZ := Lib.hid hz
    clear hb hz
    by_cases hlt : m < n
    · have hk2 : m < L.length := by have := HL.out; omega
      obtain ⟨b, o, rfl, hin⟩ := HA.out (by omega)
      obtain ⟨e0, e1⟩ := (hin.below BW.out hin.1).2 m hk2
      have HQ : Hid (b < wr.heap.size) := Nat.lt_of_lt_of_le hin.1 BW.out.size
      have hx := nbds_at NB.out hk2
      have ST := Lib.hid (TK.out m hk2)
      have b1 := BD.out m
      have b2 := BD.out (m + 1)
      have hw := TK.out m hk2
      clear hin
      generalize (L.getD m nz).1 = x at *
      generalize (L.getD m nz).2 = y at *
      generalize wtF (aboveB a) (L.take m) = s1 at *
      generalize hs2 : wtF (aboveB a) (L.take (m + 1)) = s2 at *
      have HS := Lib.hid hs2
      clear hs2
      have AB := Lib.hid (fun w => rabove_any a x w K0 K1 hx.1.1 hx.1.2)
      have k0 : (0 : Int) ≤ (m : Int) := Int.natCast_nonneg _
      have k1 : (m : Int) < (n : Int) := by omega
      cases hq : aboveB a x
      · rw [hq] at AB ST
        have e : s2 = s1 := by have := ST.out; simp at this; omega
        subst e
        clear hq hw ST
        go_wp2_with (go_at_call 87; refine (AB.out _).mono ?_; rintro e w6 ⟨rfl, rfl⟩)
        go_roundw
        case rel => exact ⟨m + 1, by omega, by rw [HS.out], by go_num, BB.out⟩
        case measure => simp [intOf]; omega
      · rw [hq] at AB ST
        have e : s2 = s1 + y := by have := ST.out; simp at this; omega
        have hw2 : IntKind.i64.wrap (s1 + y) = s1 + y := wrap_lit rfl (by omega) (by omega)
        have E := Lib.hid e
        clear hq hw ST e
        go_wp2_with (go_at_call 87; refine (AB.out _).mono ?_; rintro e w6 ⟨rfl, rfl⟩)
        go_roundw
        case rel => exact ⟨m + 1, by omega, by rw [HS.out, E.out], by go_num, BB.out⟩
        case measure => simp [intOf]; omega
    · obtain rfl : m = n := by omega
      have e : L.take m = L := List.take_of_length_le (by have := HL.out; omega)
      rw [e]
      go_wp2_with fail
      go_ret
      exact ⟨rfl, BW.out⟩

end Go.Proofs.YtachfeclgdgbiaaGreat
