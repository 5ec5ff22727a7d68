/- Texts laid together: PrRef, PrRef2, PrRef3. -/
import Derived.Test.YtkhacpapkalkiaaGreatPrP
import Derived.Test.YtkhacpapkalkiaaGreatFoR
import Derived.Deep.RegionHeld3
import Derived.Deep.DrawnRows
import Derived.BigQuiet
import Derived.Test.YtkhacpapkalkiaaGreatDgN
/- The document's answers of package dewpondref12: Is, Bound, Cap, Tight, Light. -/
namespace Go.Proofs.YtkhacpapkalkiaaGreat
set_option linter.unusedVariables false
set_option maxRecDepth 100000
open Go.RowKit

theorem rPrIs_any (k : Int) (w : World) : Calls Tryz.prog 106 #[.int .i64 k] w fun e w' => e = .returned (.bool (kIs k)) ∧ w = w' := by
  unfold kIs
  by_cases h1 : 1 ≤ k
  · have c1 : decide (1 ≤ k) = true := decide_eq_true h1
    by_cases h2 : k ≤ 1048576
    · have c2 : decide (k ≤ 1048576) = true := decide_eq_true h2
      have H := Lib.hid (decide_eq_true (p := 1 ≤ k ∧ k ≤ 1048576) ⟨h1, h2⟩)
      clear h1 h2
      go_enter Tryz.func106, Tryz.ntmps106
      go_wp2_with fail
      go_ret
      exact ⟨by rw [H.out]; rfl, rfl⟩
    · have c2 : decide (k ≤ 1048576) = false := decide_eq_false h2
      have H := Lib.hid (decide_eq_false (p := 1 ≤ k ∧ k ≤ 1048576) fun q => h2 q.2)
      clear h1 h2
      go_enter Tryz.func106, Tryz.ntmps106
      go_wp2_with fail
      go_ret
      exact ⟨by rw [H.out]; rfl, rfl⟩
  · have c1 : decide (1 ≤ k) = false := decide_eq_false h1
    have H := Lib.hid (decide_eq_false (p := 1 ≤ k ∧ k ≤ 1048576) fun q => h1 q.1)
    clear h1
    go_enter Tryz.func106, Tryz.ntmps106
    go_wp2_with fail
    go_ret
    exact ⟨by rw [H.out]; rfl, rfl⟩
theorem rPrCap_any (l k : Int) (A : Option Addr) (n c : Nat) (L : List Nd) (w : World) (h : NodesAt w (.slice A n c) L) (hr : RollC l L) (hn : n ≤ 1000) (K0 : -9223372036854775808 ≤ k) (K1 : k ≤ 9223372036854775807) :
    Calls Tryz.prog 112 #[.agg #[.int .i64 l, .slice A n c], .int .i64 k] w fun e w' => e = .returned (.int .i64 (quoN (sumC L) k)) ∧ Below w.heap.size w w' := by
  have HB0 : Hid (Below w.heap.size w (w.alloc (.cells #[.int .i64 l, .slice A n c] 35))) := (Below.refl _ _).alloc (Nat.le_refl _) _
  have TT := Lib.hid (rsTotal_any l A n c L _ (h.below HB0.out) hr (by omega))
  have nn := good_nonneg (roll_good hr)
  have s0 : 0 ≤ sumC L := Int.le_trans (sum_le nn 0).1 (sum_le nn 0).2
  have s1 := hr.2.2.2.2
  have CP := Lib.hid (fun w => rFoCap_any (sumC L) k w (by omega) (by omega) K0 K1)
  clear h hr nn
  generalize quoN (sumC L) k = q at *
  generalize sumC L = s at *
  go_enter Tryz.func112, Tryz.ntmps112
  go_wp2_with (first
    | (go_at_call 74; refine TT.out.mono ?_; rintro e w1 ⟨rfl, hb1⟩)
    | (go_at_call 156; refine (CP.out _).mono ?_; rintro e w2 ⟨rfl, rfl⟩))
  go_ret
  exact ⟨rfl, HB0.out.trans (hb1.mono HB0.out.size)⟩
theorem light_snoc {l cap : Int} {L : List Nd} {k : Nat} (hk : k < L.length) (h : LightC l cap (L.take k)) (h2 : KidC l (L.getD k nz).1 → (L.getD k nz).2 ≤ cap) : LightC l cap (L.take (k + 1)) := by
  rw [nd_take hk]
  intro m hm hq
  rcases List.mem_append.1 hm with z | z
  · exact h m z hq
  · rw [List.mem_singleton.1 z] at hq ⊢
    exact h2 hq
theorem prBelow4 {W a : World} {p q r s : Addr} {x y z u : Value} (h : a.cell? p = some x ∧ a.cell? q = some y ∧ a.cell? r = some z ∧ a.cell? s = some u ∧ Below W.heap.size W a) : Below W.heap.size W a := h.2.2.2.2
set_option maxHeartbeats 3200000 in
theorem rPrLight_any (l k : Int) (A : Option Addr) (n c : Nat) (L : List Nd) (w : World) (h : NodesAt w (.slice A n c) L) (hr : RollC l L) (hn : n ≤ 1000) (K0 : -9223372036854775808 ≤ k) (K1 : k ≤ 9223372036854775807) :
    Calls Tryz.prog 68 #[.agg #[.int .i64 l, .slice A n c], .int .i64 k] w fun e w' => e = .returned (.bool (lightB l L k)) ∧ Below w.heap.size w w' := by
  have HB0 : Hid (Below w.heap.size w (w.alloc (.cells #[.int .i64 l, .slice A n c] 35))) := (Below.refl _ _).alloc (Nat.le_refl _) _
  have XR := Lib.hid (foBx2 w 35 (.int .i64 l) (.slice A n c))
  have u : 1 ≤ l ∧ l ≤ 48 := of_decide_eq_true hr.1
  have HL := Lib.hid (nodes_cells h).1
  have HA := Lib.hid (nodes_cells h).2.2.2
  have NB := Lib.hid (nbds_roll hr)
  have IS := Lib.hid (fun w => rPrIs_any k w)
  have CP := Lib.hid (fun w1 (hb : Below w.heap.size w w1) => rPrCap_any l k A n c L w1 (h.below hb) hr hn K0 K1)
  have RES : Hid (∀ b : Bool, (b = true → kIs k = true → LightC l (quoN (sumC L) k) L) → (b = false → ¬ LightC l (quoN (sumC L) k) L ∨ kIs k = false) → (kIs k && b) = lightB l L k) := by
    intro b h1 h2
    unfold lightB
    cases hk : kIs k
    · simp
    · rw [cap_quo hr hk] at h1 h2
      rw [hk] at h2
      cases b
      · rcases h2 rfl with q | q
        · rw [decide_eq_false q]
        · cases q
      · rw [decide_eq_true (h1 rfl hk)]
  generalize hcp : quoN (sumC L) k = cap at *
  clear h hr hcp
  go_enter Tryz.func68, Tryz.ntmps68
  go_wp2_with fail
  generalize w.alloc (.cells #[.int .i64 l, .slice A n c] 35) = W at *
  go_loopw [5] (fun i wr => ∃ m : Nat, m ≤ n ∧ i = .int .i64 m ∧ LightC l cap (L.take m) ∧ Below W.heap.size W wr) (fun i _ => n - (intOf i).toNat)
  case atStart => exact ⟨0, by omega, rfl, fun _ hm => by simp at hm, Below.refl _ _⟩
  case round =>
    rename_i wr
    obtain ⟨m, hm, rfl, hlt, hb⟩ := hrel
    have LT := Lib.hid hlt
    have BB := Lib.hid hb
    have BW := Lib.hid (HB0.out.trans (hb.mono HB0.out.size))
    obtain ⟨x0, x1, _, _, hz⟩ := box_cells (own_below XR.out hb)
    have HZ := Lib.hid hz
    clear hlt hb hz
    by_cases hlt : m < n
    · have hk2 : m < L.length := by have := HL.out; omega
      obtain ⟨b, o, rfl, hin⟩ := HA.out (by omega)
      obtain ⟨e0, e1⟩ := (hin.below BW.out hin.1).2 m hk2
      have HQ : Hid (b < wr.heap.size) := Nat.lt_of_lt_of_le hin.1 BW.out.size
      have hx := nbds_at NB.out hk2
      have SN := Lib.hid (fun h => light_snoc (k := m) (l := l) (cap := cap) hk2 LT.out h)
      have NO : Hid (KidC l (L.getD m nz).1 → cap < (L.getD m nz).2 → ¬ LightC l cap L) := fun h1 h2 h3 => by
        have := h3 _ (nd_mem hk2) h1
        omega
      clear hin
      generalize (L.getD m nz).1 = x at *
      generalize (L.getD m nz).2 = y at *
      have KD := Lib.hid (fun w => rkids_any l x w (by omega) (by omega) hx.1.1 hx.1.2)
      have k0 : (0 : Int) ≤ (m : Int) := Int.natCast_nonneg _
      have k1 : (m : Int) < (n : Int) := by omega
      by_cases hk : KidC l x
      · obtain ⟨k1, k2, k3⟩ := kid_yes hk
        rw [k1, k2, k3] at KD
        clear k1 k2 k3
        by_cases hc : cap < y
        · have c1 : decide (y > cap) = true := decide_eq_true hc
          have RR := Lib.hid (RES.out false (fun q => by cases q) (fun _ => .inl (NO.out hk hc)))
          clear hk hc
          go_wp2_with fail
          go_region_held3 (fun w' => w'.cell? ⟨w.heap.size, 0, none⟩ = some (.int .i64 l) ∧ w'.cell? ⟨w.heap.size, 1, none⟩ = some (.slice (some ⟨b, o, none⟩) n c) ∧ w'.cell? ⟨b, o + m * 2, none⟩ = some (.int .i64 x) ∧ w'.cell? ⟨b, o + m * 2 + 1, none⟩ = some (.int .i64 y) ∧ Below wr.heap.size wr w')
            (first | assumption | (exact keep4 (by assumption) (by assumption) HZ.out HZ.out HQ.out HQ.out) | (exact ⟨x0, x1, e0, e1, below_drew _⟩))
            (first | (go_at_call 111; refine (KD.out _).mono ?_; rintro e w6 ⟨rfl, rfl⟩))
          rename_i hH
          obtain ⟨y0, y1, f0, f1, hbH⟩ := hH
          have B6 := Lib.hid (BB.out.trans (hbH.mono BB.out.size))
          have BW6 := Lib.hid (BW.out.trans (hbH.mono BW.out.size))
          have HZ6 := Lib.hid (Nat.lt_of_lt_of_le HZ.out hbH.size)
          have HQ6 := Lib.hid (Nat.lt_of_lt_of_le HQ.out hbH.size)
          clear x0 x1 e0 e1 hbH
          generalize World.drew wr = wd at *
          go_wp2_with fail
          go_region_held3 (fun w' => w'.cell? ⟨w.heap.size, 0, none⟩ = some (.int .i64 l) ∧ w'.cell? ⟨w.heap.size, 1, none⟩ = some (.slice (some ⟨b, o, none⟩) n c) ∧ w'.cell? ⟨b, o + m * 2, none⟩ = some (.int .i64 x) ∧ w'.cell? ⟨b, o + m * 2 + 1, none⟩ = some (.int .i64 y) ∧ Below wd.heap.size wd w')
            (first | assumption | (exact keep4 (by assumption) (by assumption) HZ6.out HZ6.out HQ6.out HQ6.out) | (exact ⟨y0, y1, f0, f1, below_drew _⟩))
            (first | ((with_reducible refine (CP.out _ (BW6.out.trans ((prBelow4 (by assumption) : Below wd.heap.size wd _).mono BW6.out.size))).mono ?_); rintro e w7 ⟨rfl, hb7⟩))
          rename_i hH
          have B7 := Lib.hid (B6.out.trans (hH.2.2.2.2.mono B6.out.size))
          have BW7 := Lib.hid (BW6.out.trans (hH.2.2.2.2.mono BW6.out.size))
          clear hH y0 y1 f0 f1
          go_wp2_with fail
          go_ret
          exact ⟨by rw [← RR.out, Bool.and_false]; rfl, BW7.out⟩
        · have c1 : decide (y > cap) = false := decide_eq_false hc
          have SS := Lib.hid (SN.out (fun _ => by omega))
          clear hk hc
          go_wp2_with fail
          go_region_held3 (fun w' => w'.cell? ⟨w.heap.size, 0, none⟩ = some (.int .i64 l) ∧ w'.cell? ⟨w.heap.size, 1, none⟩ = some (.slice (some ⟨b, o, none⟩) n c) ∧ w'.cell? ⟨b, o + m * 2, none⟩ = some (.int .i64 x) ∧ w'.cell? ⟨b, o + m * 2 + 1, none⟩ = some (.int .i64 y) ∧ Below wr.heap.size wr w')
            (first | assumption | (exact keep4 (by assumption) (by assumption) HZ.out HZ.out HQ.out HQ.out) | (exact ⟨x0, x1, e0, e1, below_drew _⟩))
            (first | (go_at_call 111; refine (KD.out _).mono ?_; rintro e w6 ⟨rfl, rfl⟩))
          rename_i hH
          obtain ⟨y0, y1, f0, f1, hbH⟩ := hH
          have B6 := Lib.hid (BB.out.trans (hbH.mono BB.out.size))
          have BW6 := Lib.hid (BW.out.trans (hbH.mono BW.out.size))
          have HZ6 := Lib.hid (Nat.lt_of_lt_of_le HZ.out hbH.size)
          have HQ6 := Lib.hid (Nat.lt_of_lt_of_le HQ.out hbH.size)
          clear x0 x1 e0 e1 hbH
          generalize World.drew wr = wd at *
          go_wp2_with fail
          go_region_held3 (fun w' => w'.cell? ⟨w.heap.size, 0, none⟩ = some (.int .i64 l) ∧ w'.cell? ⟨w.heap.size, 1, none⟩ = some (.slice (some ⟨b, o, none⟩) n c) ∧ w'.cell? ⟨b, o + m * 2, none⟩ = some (.int .i64 x) ∧ w'.cell? ⟨b, o + m * 2 + 1, none⟩ = some (.int .i64 y) ∧ Below wd.heap.size wd w')
            (first | assumption | (exact keep4 (by assumption) (by assumption) HZ6.out HZ6.out HQ6.out HQ6.out) | (exact ⟨y0, y1, f0, f1, below_drew _⟩))
            (first | ((with_reducible refine (CP.out _ (BW6.out.trans ((prBelow4 (by assumption) : Below wd.heap.size wd _).mono BW6.out.size))).mono ?_); rintro e w7 ⟨rfl, hb7⟩))
          rename_i hH
          have B7 := Lib.hid (B6.out.trans (hH.2.2.2.2.mono B6.out.size))
          have BW7 := Lib.hid (BW6.out.trans (hH.2.2.2.2.mono BW6.out.size))
          clear hH y0 y1 f0 f1
          go_wp2_with fail
          go_roundw
          case rel => exact ⟨m + 1, by omega, by go_num, SS.out, B7.out⟩
          case measure => simp [intOf]; omega
      · obtain ⟨k1, k2, k3⟩ := kid_no hk
        rw [k1, k2, k3] at KD
        have SS := Lib.hid (SN.out (fun q => absurd q hk))
        clear k1 k2 k3 hk
        go_wp2_with fail
        go_region_held3 (fun w' => w'.cell? ⟨w.heap.size, 0, none⟩ = some (.int .i64 l) ∧ w'.cell? ⟨w.heap.size, 1, none⟩ = some (.slice (some ⟨b, o, none⟩) n c) ∧ w'.cell? ⟨b, o + m * 2, none⟩ = some (.int .i64 x) ∧ w'.cell? ⟨b, o + m * 2 + 1, none⟩ = some (.int .i64 y) ∧ Below wr.heap.size wr w')
          (first | assumption | (exact keep4 (by assumption) (by assumption) HZ.out HZ.out HQ.out HQ.out) | (exact ⟨x0, x1, e0, e1, below_drew _⟩))
          (first | (go_at_call 111; refine (KD.out _).mono ?_; rintro e w6 ⟨rfl, rfl⟩))
        rename_i hH
        obtain ⟨y0, y1, f0, f1, hbH⟩ := hH
        have B6 := Lib.hid (BB.out.trans (hbH.mono BB.out.size))
        have BW6 := Lib.hid (BW.out.trans (hbH.mono BW.out.size))
        have HZ6 := Lib.hid (Nat.lt_of_lt_of_le HZ.out hbH.size)
        have HQ6 := Lib.hid (Nat.lt_of_lt_of_le HQ.out hbH.size)
        clear x0 x1 e0 e1 hbH
        generalize World.drew wr = wd at *
        go_wp2_with fail
        go_quiet (fail)
        have B7 := Lib.hid (drewN_below B6.out nq)
        go_wp2_with fail
        go_roundw
        case rel => exact ⟨m + 1, by omega, by go_num, SS.out, B7.out⟩
        case measure => simp [intOf]; omega
    · obtain rfl : m = n := by omega
      have e : L.take m = L := List.take_of_length_le (by have := HL.out; omega)
      rw [e] at LT
      have RR := Lib.hid (RES.out true (fun _ _ => LT.out) (fun q => by cases q))
      clear e
      go_wp2_with (go_at_call 106; refine (IS.out _).mono ?_; rintro e w1 ⟨rfl, rfl⟩)
      go_ret
      exact ⟨by rw [← RR.out, Bool.and_true]; rfl, BW.out⟩

end Go.Proofs.YtkhacpapkalkiaaGreat

/- The document's answer of package dewpondref12: Run. -/
namespace Go.Proofs.YtkhacpapkalkiaaGreat
set_option linter.unusedVariables false
set_option maxRecDepth 100000
open Go.RowKit

end Go.Proofs.YtkhacpapkalkiaaGreat

/- The document's answer of package dewpondref12: Below. -/
namespace Go.Proofs.YtkhacpapkalkiaaGreat
set_option linter.unusedVariables false
set_option maxRecDepth 100000
open Go.RowKit

end Go.Proofs.YtkhacpapkalkiaaGreat
