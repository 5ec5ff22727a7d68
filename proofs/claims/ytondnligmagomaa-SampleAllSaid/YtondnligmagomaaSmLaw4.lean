/- The walk of SampleAll: for every input it returns true, and nothing that was there before is changed. -/
import Derived.Test.YtondnligmagomaaSmAll
import Derived.Deep.QuietTactic
import Derived.BigQuiet
namespace Go.Proofs.Ytondnligmagomaa
set_option linter.unusedVariables false
open Go.RowKit

/-- the weight that is meant at place k -/
def xe (x : Nat → Int) (k : Nat) : Int := if k % 2 = 0 then 1 else x k
/-- the first place that holds none: -1, if there is none -/
def fst (a x : Nat → Int) : Nat → Int
  | 0 => -1
  | n + 1 => if fst a x n < 0 ∧ ¬ RdC (a n) (x n) then (n : Int) else fst a x n
theorem fst_facts (a x : Nat → Int) (n : Nat) : -1 ≤ fst a x n ∧ (fst a x n < 0 → Goods a x n) ∧ (0 ≤ fst a x n → ∃ j : Nat, j < n ∧ fst a x n = j ∧ Goods a x j ∧ ¬ RdC (a j) (x j)) := by
  induction n with
  | zero => exact ⟨by simp [fst], fun _ k h => by omega, fun h => by simp [fst] at h⟩
  | succ n ih =>
    obtain ⟨h0, h1, h2⟩ := ih
    by_cases c : fst a x n < 0 ∧ ¬ RdC (a n) (x n)
    · have e : fst a x (n + 1) = n := by rw [fst, if_pos c]
      rw [e]
      exact ⟨by omega, fun h => by omega, fun _ => ⟨n, by omega, rfl, h1 c.1, c.2⟩⟩
    · have e : fst a x (n + 1) = fst a x n := by rw [fst, if_neg c]
      rw [e]
      refine ⟨h0, fun h => ?_, fun h => ?_⟩
      · refine goods_step (h1 h) ?_
        by_cases r : RdC (a n) (x n)
        · exact r
        · exact absurd ⟨h, r⟩ c
      · obtain ⟨j, hj, ej, hg, hb⟩ := h2 h
        exact ⟨j, by omega, ej, hg, hb⟩
theorem fst_same (a x : Nat → Int) (n j : Nat) (hj : j < n) (hg : Goods a x j) (hb : ¬ RdC (a j) (x j)) : fst a x n = j := by
  obtain ⟨h0, h1, h2⟩ := fst_facts a x n
  by_cases c : fst a x n < 0
  · exact absurd (h1 c j hj) hb
  · obtain ⟨i, hi, ei, gi, bi⟩ := h2 (by omega)
    have h3 : ¬ i < j := fun h => bi (hg i h)
    have h4 : ¬ j < i := fun h => hb (gi j h)
    omega
theorem fst_none (a x : Nat → Int) (n : Nat) (hg : Goods a x n) : fst a x n = -1 := by
  obtain ⟨h0, h1, h2⟩ := fst_facts a x n
  by_cases c : fst a x n < 0
  · omega
  · obtain ⟨i, hi, ei, gi, bi⟩ := h2 (by omega)
    exact absurd (hg i hi) bi

theorem fst_hit {a x : Nat → Int} {n : Nat} (h : fst a x n < 0) (r : ¬ RdC (a n) (x n)) : fst a x (n + 1) = n := by rw [fst, if_pos ⟨h, r⟩]
theorem fst_good {a x : Nat → Int} {n : Nat} (r : RdC (a n) (x n)) : fst a x (n + 1) = fst a x n := by rw [fst, if_neg (fun h => h.2 r)]
theorem fst_late {a x : Nat → Int} {n : Nat} (h : ¬ fst a x n < 0) : fst a x (n + 1) = fst a x n := by rw [fst, if_neg (fun k => h k.1)]

/-- what stands at place k, as an interface value -/
def ifv (a x : Nat → Int) (k : Nat) : Value := if k % 2 = 0 then .iface 3 (.int .i64 (a k)) else .iface 27 (.agg #[.int .i64 (a k), .int .i64 (x k)])
def ifs (a x : Nat → Int) (n : Nat) : List Value := (List.range n).map (ifv a x)
theorem ifv_comes (a x : Nat → Int) (k : Nat) : ComesAs (ifv a x k) (rdV (a k) (xe x k)) (rdX (a k) (xe x k)) (rdB (a k) (xe x k)) := by
  unfold ifv xe
  by_cases h : k % 2 = 0
  · rw [if_pos h, if_pos h]; exact of_held (held_int _)
  · rw [if_neg h, if_neg h]; exact of_held (held_pair _ _)
theorem ifs_app (a x : Nat → Int) (n : Nat) : ifs a x n ++ [ifv a x n] = ifs a x (n + 1) := by
  unfold ifs; rw [List.range_succ, List.map_append]; rfl
theorem ifs_at (a x : Nat → Int) (n k : Nat) (h : k < n) : (ifs a x n).getD k undef = ifv a x k := by
  unfold ifs; simp [List.getD_eq_getElem?_getD, List.getElem?_range h]
theorem if_info : (Try.prog.info? 20).map (fun i => (i.zero, i.size, i.bytes)) = some (some .nilIface, 1, 16) := by kernel_rfl

set_option maxHeartbeats 1600000 in
theorem walk_sampleAll (A : Option Addr) (n c : Nat) (a x : Nat → Int) (hn : n ≤ maxLen) (hb : ∀ k, k < n → (-9223372036854775808 ≤ a k ∧ a k ≤ 9223372036854775807) ∧ (-9223372036854775808 ≤ x k ∧ x k ≤ 9223372036854775807)) (w : World) (hc : Pairs w A n a x) :
    Calls Try.prog 6 #[.slice A n c] w fun e w' => e = .returned (.bool true) ∧ Below w.heap.size w w' := by
  unfold maxLen at hn
  by_cases hs : 300 < n
  · clear hc hb
    go_enter Try.func6, Try.ntmps6
    go_wp2_with (go_at_call 11; refine (smAlive_any _).mono ?_; rintro e w5 ⟨rfl, hb5⟩)
    go_ret
    exact ⟨rfl, hb5⟩
  · obtain ⟨i0, hi, hz0, hz1, hz2⟩ := info_parts rd_info
    obtain ⟨i1, gi, gz0, gz1, gz2⟩ := info_parts if_info
    have HC := Lib.hid hc
    have HB := Lib.hid hb
    clear hc hb
    go_enter Try.func6, Try.ntmps6
    go_wp2_with fail
    go_loopw [3, 4, 5, 18] (fun v u f i wr => ∃ j : Nat, j ≤ n ∧ i = .int .i64 j ∧ f = .int .i64 (fst a (xe x) j) ∧ wr.ownsRow w.heap.size 20 1 v j (ifs a x j) ∧ wr.ownsRow w.heap.size 23 2 u j (flat a (xe x) j) ∧ Below w.heap.size w wr) (fun _ _ _ i _ => n - (intOf i).toNat)
    case atStart => exact ⟨0, by omega, rfl, rfl, World.ownsRow_nil _ _ _ _, World.ownsRow_nil _ _ _ _, Below.refl _ _⟩
    case round =>
      obtain ⟨j, hj, rfl, rfl, hown, hrow, hb⟩ := hrel
      by_cases hlj : j < n
      · obtain ⟨b, o, rfl, hlt, hcell⟩ := HC.out (by omega)
        have c0 : wr.cell? ⟨b, o + j * 2, none⟩ = some (.int .i64 (a j)) := (hb.cell (p := ⟨b, o + j * 2, none⟩) hlt).trans (hcell j hlj).1
        have c1 : wr.cell? ⟨b, o + j * 2 + 1, none⟩ = some (.int .i64 (x j)) := (hb.cell (p := ⟨b, o + j * 2 + 1, none⟩) hlt).trans (hcell j hlj).2
        clear hcell
        have z1 := hb.size
        by_cases hp : j % 2 = 0
        · skip
          have hxe := Lib.hid (show xe x j = 1 by unfold xe; rw [if_pos hp])
          have hiv := Lib.hid (show ifv a x j = Value.iface 3 (.int .i64 (a j)) by unfold ifv; rw [if_pos hp])
          have hq : (((j : Nat) : Int) % 2 == 0) = true := by rw [beq_iff_eq]; omega
          clear hp
          go_wp2_with (at_builtin; refine wpList_append_own _ rfl (.tmp 27) (.tmp 31) 39 rfl w.heap.size 20 i1 .nilIface 1 16 Try.underlying39 gi gz0 gz1 gz2 rfl (by decide) _ _ _ rfl ((hown.alloc _).alloc _) ⟨wr.heap.size + 1, 0, none⟩ 1 1 [Value.iface 3 (.int .i64 (a j))] rfl rfl ?c1 ?c2 ?c3 ?c4 ?c5 ?_)
          case c1 => exact one_new _ _ _ _ (by simp)
          case c2 => exact one_iface _ _
          case c3 => unfold maxLen; omega
          case c4 => omega
          case c5 => simp; omega
          intro v2 w2 hown2 hg2 _
          have hrow2 := ((hrow.alloc (.cells #[.int .i64 (a j), .int .i64 (1)] 23)).alloc (.cells #[Value.iface 3 (.int .i64 (a j))] 20)).kept hg2 (own_apart hrow hown (by decide))
          have k20 : w2.cell? ⟨wr.heap.size, 0, none⟩ = some (.int .i64 (a j)) := by rw [grown_cell hg2 (by simp; omega) (own_far hown (Nat.le_refl _))]; simp
          have k21 : w2.cell? ⟨wr.heap.size, 1, none⟩ = some (.int .i64 (1)) := by rw [grown_cell hg2 (by simp; omega) (own_far hown (Nat.le_refl _))]; simp
          have hb2 : Below w.heap.size w w2 := (((hb.alloc (by omega) _).alloc (by simp; omega) _).grown hg2 (by simp; omega) (fun g hg => (hown.lt g hg).1))
          have y2 := hb2.size
          have x2 : wr.heap.size < w2.heap.size := by have := hg2.size; simp at this; omega
          clear hg2 hown hb c0 c1 hq
          go_wp2_with (at_builtin; refine wpList_append_own _ rfl (.tmp 42) (.tmp 44) 41 rfl w.heap.size 23 i0 (.agg #[.int .i64 0, .int .i64 0]) 2 16 Try.underlying41 hi hz0 hz1 hz2 rfl (by decide) _ _ _ rfl (hrow2.alloc _) ⟨w2.heap.size, 0, none⟩ 1 1 [.int .i64 (a j), .int .i64 (1)] rfl rfl ?d1 ?d2 ?d3 ?d4 ?d5 ?_)
          case d1 => exact two_new _ _ _ _ _ rfl
          case d2 => exact two_cell _ _
          case d3 => unfold maxLen; omega
          case d4 => omega
          case d5 => simp; omega
          intro v3 w3 hrow3 hg3 _
          have hown3 := (hown2.alloc (.cells #[.int .i64 (a j), .int .i64 (1)] 23)).kept hg3 (own_apart hown2 hrow2 (by decide))
          have k30 : w3.cell? ⟨wr.heap.size, 0, none⟩ = some (.int .i64 (a j)) := by rw [grown_cell hg3 (by simp; omega) (own_far hrow (Nat.le_refl _)), World.cell?_alloc_lt _ _ _ x2]; exact k20
          have k31 : w3.cell? ⟨wr.heap.size, 1, none⟩ = some (.int .i64 (1)) := by rw [grown_cell hg3 (by simp; omega) (own_far hrow (Nat.le_refl _)), World.cell?_alloc_lt _ _ _ x2]; exact k21
          have hb3 : Below w.heap.size w w3 := ((hb2.alloc (by omega) _).grown hg3 (by simp; omega) (fun g hg => (hrow.lt g hg).1))
          have y3 := hb3.size
          have hr3 : w3.ownsRow w.heap.size 23 2 v3 (j + 1) (flat a (xe x) (j + 1)) := by rw [flat, hxe.out]; exact hrow3
          have ho3 : w3.ownsRow w.heap.size 20 1 v2 (j + 1) (ifs a x (j + 1)) := by rw [← ifs_app, hiv.out]; exact hown3
          clear hown2 hown3 hrow hrow2 hrow3 hg3 hb2 k20 k21 hiv
          by_cases hfn : fst a (xe x) j < 0
          · by_cases hr : RdC (a j) (xe x j)
            · have hF := Lib.hid (fst_good hr)
              have HR := Lib.hid (fun w => rsRight_any (a j) (1) w)
              have E3 := Lib.hid (show rdB (a j) (1) = true by have := (rd_yes hr).2.2; rwa [hxe.out] at this)
              clear hr hxe
              go_wp2_with fail
              refine (HR.out _).mono ?_
              rw [E3.out]
              rintro e w4 ⟨rfl, hb4⟩
              go_wp2_with fail
              go_roundw
              case rel => exact ⟨j + 1, by omega, by go_num, by rw [hF.out], own_below ho3 hb4, own_below hr3 hb4, hb3.trans (hb4.mono (by omega))⟩
              case measure => simp [intOf]; omega
            · have hF := Lib.hid (fst_hit hfn hr)
              have HR := Lib.hid (fun w => rsRight_any (a j) (1) w)
              have E3 := Lib.hid (show rdB (a j) (1) = false by have := (rd_no hr).2.2; rwa [hxe.out] at this)
              clear hr hxe
              go_wp2_with fail
              refine (HR.out _).mono ?_
              rw [E3.out]
              rintro e w4 ⟨rfl, hb4⟩
              go_wp2_with fail
              go_roundw
              case rel => exact ⟨j + 1, by omega, by go_num, by rw [hF.out], own_below ho3 hb4, own_below hr3 hb4, hb3.trans (hb4.mono (by omega))⟩
              case measure => simp [intOf]; omega
          · have hF := Lib.hid (fst_late hfn)
            clear hxe
            go_wp2_with fail
            go_roundw
            case rel => exact ⟨j + 1, by omega, by go_num, by rw [hF.out], ho3, hr3, hb3⟩
            case measure => simp [intOf]; omega
        · skip
          have hxe := Lib.hid (show xe x j = x j by unfold xe; rw [if_neg hp])
          have hiv := Lib.hid (show ifv a x j = Value.iface 27 (.agg #[.int .i64 (a j), .int .i64 (x j)]) by unfold ifv; rw [if_neg hp])
          have hq : (((j : Nat) : Int) % 2 == 0) = false := by rw [beq_eq_false_iff_ne]; omega
          clear hp
          go_wp2_with (at_builtin; refine wpList_append_own _ rfl (.tmp 33) (.tmp 40) 39 rfl w.heap.size 20 i1 .nilIface 1 16 Try.underlying39 gi gz0 gz1 gz2 rfl (by decide) _ _ _ rfl ((hown.alloc _).alloc _) ⟨wr.heap.size + 1, 0, none⟩ 1 1 [Value.iface 27 (.agg #[.int .i64 (a j), .int .i64 (x j)])] rfl rfl ?c1 ?c2 ?c3 ?c4 ?c5 ?_)
          case c1 => exact one_new _ _ _ _ (by simp)
          case c2 => exact one_iface _ _
          case c3 => unfold maxLen; omega
          case c4 => omega
          case c5 => simp; omega
          intro v2 w2 hown2 hg2 _
          have hrow2 := ((hrow.alloc (.cells #[.int .i64 (a j), .int .i64 (x j)] 23)).alloc (.cells #[Value.iface 27 (.agg #[.int .i64 (a j), .int .i64 (x j)])] 20)).kept hg2 (own_apart hrow hown (by decide))
          have k20 : w2.cell? ⟨wr.heap.size, 0, none⟩ = some (.int .i64 (a j)) := by rw [grown_cell hg2 (by simp; omega) (own_far hown (Nat.le_refl _))]; simp
          have k21 : w2.cell? ⟨wr.heap.size, 1, none⟩ = some (.int .i64 (x j)) := by rw [grown_cell hg2 (by simp; omega) (own_far hown (Nat.le_refl _))]; simp
          have hb2 : Below w.heap.size w w2 := (((hb.alloc (by omega) _).alloc (by simp; omega) _).grown hg2 (by simp; omega) (fun g hg => (hown.lt g hg).1))
          have y2 := hb2.size
          have x2 : wr.heap.size < w2.heap.size := by have := hg2.size; simp at this; omega
          clear hg2 hown hb c0 c1 hq
          go_wp2_with (at_builtin; refine wpList_append_own _ rfl (.tmp 42) (.tmp 44) 41 rfl w.heap.size 23 i0 (.agg #[.int .i64 0, .int .i64 0]) 2 16 Try.underlying41 hi hz0 hz1 hz2 rfl (by decide) _ _ _ rfl (hrow2.alloc _) ⟨w2.heap.size, 0, none⟩ 1 1 [.int .i64 (a j), .int .i64 (x j)] rfl rfl ?d1 ?d2 ?d3 ?d4 ?d5 ?_)
          case d1 => exact two_new _ _ _ _ _ rfl
          case d2 => exact two_cell _ _
          case d3 => unfold maxLen; omega
          case d4 => omega
          case d5 => simp; omega
          intro v3 w3 hrow3 hg3 _
          have hown3 := (hown2.alloc (.cells #[.int .i64 (a j), .int .i64 (x j)] 23)).kept hg3 (own_apart hown2 hrow2 (by decide))
          have k30 : w3.cell? ⟨wr.heap.size, 0, none⟩ = some (.int .i64 (a j)) := by rw [grown_cell hg3 (by simp; omega) (own_far hrow (Nat.le_refl _)), World.cell?_alloc_lt _ _ _ x2]; exact k20
          have k31 : w3.cell? ⟨wr.heap.size, 1, none⟩ = some (.int .i64 (x j)) := by rw [grown_cell hg3 (by simp; omega) (own_far hrow (Nat.le_refl _)), World.cell?_alloc_lt _ _ _ x2]; exact k21
          have hb3 : Below w.heap.size w w3 := ((hb2.alloc (by omega) _).grown hg3 (by simp; omega) (fun g hg => (hrow.lt g hg).1))
          have y3 := hb3.size
          have hr3 : w3.ownsRow w.heap.size 23 2 v3 (j + 1) (flat a (xe x) (j + 1)) := by rw [flat, hxe.out]; exact hrow3
          have ho3 : w3.ownsRow w.heap.size 20 1 v2 (j + 1) (ifs a x (j + 1)) := by rw [← ifs_app, hiv.out]; exact hown3
          clear hown2 hown3 hrow hrow2 hrow3 hg3 hb2 k20 k21 hiv
          by_cases hfn : fst a (xe x) j < 0
          · by_cases hr : RdC (a j) (xe x j)
            · have hF := Lib.hid (fst_good hr)
              have HR := Lib.hid (fun w => rsRight_any (a j) (x j) w)
              have E3 := Lib.hid (show rdB (a j) (x j) = true by have := (rd_yes hr).2.2; rwa [hxe.out] at this)
              clear hr hxe
              go_wp2_with fail
              refine (HR.out _).mono ?_
              rw [E3.out]
              rintro e w4 ⟨rfl, hb4⟩
              go_wp2_with fail
              go_roundw
              case rel => exact ⟨j + 1, by omega, by go_num, by rw [hF.out], own_below ho3 hb4, own_below hr3 hb4, hb3.trans (hb4.mono (by omega))⟩
              case measure => simp [intOf]; omega
            · have hF := Lib.hid (fst_hit hfn hr)
              have HR := Lib.hid (fun w => rsRight_any (a j) (x j) w)
              have E3 := Lib.hid (show rdB (a j) (x j) = false by have := (rd_no hr).2.2; rwa [hxe.out] at this)
              clear hr hxe
              go_wp2_with fail
              refine (HR.out _).mono ?_
              rw [E3.out]
              rintro e w4 ⟨rfl, hb4⟩
              go_wp2_with fail
              go_roundw
              case rel => exact ⟨j + 1, by omega, by go_num, by rw [hF.out], own_below ho3 hb4, own_below hr3 hb4, hb3.trans (hb4.mono (by omega))⟩
              case measure => simp [intOf]; omega
          · have hF := Lib.hid (fst_late hfn)
            clear hxe
            go_wp2_with fail
            go_roundw
            case rel => exact ⟨j + 1, by omega, by go_num, by rw [hF.out], ho3, hr3, hb3⟩
            case measure => simp [intOf]; omega
      · have hjn : j = n := by omega
        subst hjn
        have z1 := hb.size
        obtain ⟨A1, c1, rfl, hcl⟩ := cells_own hown (by decide)
        obtain ⟨A2, c2, rfl, hcr⟩ := cells_own hrow (by decide)
        have hcl' : Cells wr A1 j (ifv a x) := by rw [Nat.mul_one] at hcl; exact hcl.same (fun k hk => ifs_at a x j k hk)
        have HA := Lib.hid (smAll_any A1 j c1 (ifv a x) a (xe x) wr (by omega) hcl' (fun k _ => ifv_comes a x k))
        have HW := Lib.hid hcr
        clear hcl hcl' hcr hown hrow hi hz0 hz1 hz2 gi gz0 gz1 gz2
        go_wp2_with fail
        refine HA.out.mono ?_
        rintro e w1 (⟨V, hg, rfl, hrow1, hb1⟩ | ⟨i, hij, hg, hbad, rfl, hb1⟩)
        · obtain ⟨A3, c3, rfl, hcv⟩ := cells_own hrow1 (by decide)
          have HV := Lib.hid hcv
          rw [fst_none a (xe x) j hg]
          clear hcv hrow1 hg
          have y1 := hb1.size
          go_wp2_with fail
          go_loopw [95] (fun i w2 => ∃ k : Nat, k ≤ j ∧ i = .int .i64 k ∧ Below w1.heap.size w1 w2) (fun i _ => j - (intOf i).toNat)
          case atStart => exact ⟨0, by omega, rfl, Below.refl _ _⟩
          case round =>
            obtain ⟨k, hk, rfl, hb2⟩ := hrel
            have y2 := hb2.size
            by_cases hlk : k < j
            · obtain ⟨b3, o3, rfl, lt3, cl3⟩ := HV.out (by omega)
              obtain ⟨b4, o4, rfl, lt4, cl4⟩ := HW.out (by omega)
              obtain ⟨f0, f1⟩ := flat_at a (xe x) j k hlk
              have p30 : wr.cell? ⟨b3, o3 + k * 2, none⟩ = some (.int .i64 (a k)) := by rw [hb2.cell (p := ⟨b3, o3 + k * 2, none⟩) lt3, cl3 _ (by omega)]; exact congrArg some (by dsimp only; rw [Nat.mul_comm]; exact f0)
              have p31 : wr.cell? ⟨b3, o3 + k * 2 + 1, none⟩ = some (.int .i64 (xe x k)) := by rw [hb2.cell (p := ⟨b3, o3 + k * 2 + 1, none⟩) lt3, Nat.add_assoc, cl3 _ (by omega)]; exact congrArg some (by dsimp only; rw [Nat.mul_comm]; exact f1)
              have p40 : wr.cell? ⟨b4, o4 + k * 2, none⟩ = some (.int .i64 (a k)) := by rw [hb2.cell (p := ⟨b4, o4 + k * 2, none⟩) (by dsimp only; omega), hb1.cell (p := ⟨b4, o4 + k * 2, none⟩) lt4, cl4 _ (by omega)]; exact congrArg some (by dsimp only; rw [Nat.mul_comm]; exact f0)
              have p41 : wr.cell? ⟨b4, o4 + k * 2 + 1, none⟩ = some (.int .i64 (xe x k)) := by rw [hb2.cell (p := ⟨b4, o4 + k * 2 + 1, none⟩) (by dsimp only; omega), hb1.cell (p := ⟨b4, o4 + k * 2 + 1, none⟩) lt4, Nat.add_assoc, cl4 _ (by omega)]; exact congrArg some (by dsimp only; rw [Nat.mul_comm]; exact f1)
              clear cl3 cl4 f0 f1
              have q0 : (0 : Int) ≤ (k : Int) := by omega
              have q1 : (k : Int) < (j : Int) := by omega
              go_wp2_with fail
              go_quiet (fail)
              go_wp2_with fail
              go_roundw
              case rel => exact ⟨k + 1, by omega, by go_num, drewN_below hb2 _⟩
              case measure => simp [intOf]; omega
            · go_wp2_with (go_at_call 11; refine (smAlive_any _).mono ?_; rintro e w5 ⟨rfl, hb5⟩)
              go_ret
              exact ⟨rfl, ((hb.trans (hb1.mono (by omega))).trans (hb2.mono (by omega))).trans (hb5.mono (by omega))⟩
        · rw [fst_same a (xe x) j i hij hg hbad]
          clear hg hbad
          have y1 := hb1.size
          go_wp2_with (go_at_call 11; refine (smAlive_any _).mono ?_; rintro e w5 ⟨rfl, hb5⟩)
          go_ret
          exact ⟨rfl, (hb.trans (hb1.mono (by omega))).trans (hb5.mono (by omega))⟩

end Go.Proofs.Ytondnligmagomaa
