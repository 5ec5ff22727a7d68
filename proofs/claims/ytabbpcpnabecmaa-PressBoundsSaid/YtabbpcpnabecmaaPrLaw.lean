/- What the statements of layer press call: may a pool be tried with a list and is it not too much (few), a pool and the document's (made), and the chapter's examples (alive). -/
import Derived.Test.YtabbpcpnabecmaaPrRef
import Derived.Test.YtabbpcpnabecmaaFoLaw
import Derived.Test.YtabbpcpnabecmaaDsLaw2
namespace Go.Proofs.Ytabbpcpnabecmaa
set_option linter.unusedVariables false
set_option maxRecDepth 100000
open Go.RowKit

/-- .. and is it not too much? -/
def FewP (kd l : Int) (n : Nat) (L : List Nd) : Prop := IsFo kd l n L ∧ l * (n : Int) ≤ 400
instance (kd l : Int) (n : Nat) (L : List Nd) : Decidable (FewP kd l n L) := by unfold FewP; exact inferInstance
theorem prSame_below {P : Program} {f : FuncId} {args : Array Value} {L M : List Nd} {w : World} (h : Calls P f args w (SamePost L M w)) : Calls P f args w fun e w' => e = .returned (.bool (sameB L M)) ∧ Below w.heap.size w w' :=
  h.mono fun _ _ ⟨a, q, b⟩ => ⟨a, by rw [b]; exact drewN_below (Below.refl _ _) q⟩
theorem isFo_uni {kd l : Int} {n : Nat} {L : List Nd} (h : IsFo kd l n L) : 1 ≤ l ∧ l ≤ 48 := by
  have r : RollC l L := of_decide_eq_true h.2.2.2
  exact of_decide_eq_true r.1
theorem po_boxS {w w' : World} {B p g h : Nat} {kd l : Int} {n : Nat} {L : List Nd} (d : PoA w B p g h kd l n L)
    (k : ∀ (base : Nat) (e : TypeId) (size n : Nat) (v : Value) (ys : List Value), e ≠ 28 → w.ownsRow base e size v n ys → w'.ownsRow base e size v n ys) : PoA w' B p g h kd l n L :=
  ⟨d.roll, d.len, d.st.imp (fun ⟨a, b, c, e⟩ => ⟨a, b, k _ _ _ _ _ _ (by decide) c, ds_box e k (by decide) (by decide)⟩)
    (fun ⟨a, c, b, S, e, t, z⟩ => ⟨a, k _ _ _ _ _ _ (by decide) c, b, S, ⟨k _ _ _ _ _ _ (by decide) e.top, k _ _ _ _ _ _ (by decide) e.row, e.ne⟩, t, z⟩)⟩
/-- a pool, and the document's -/
def MadePost (kd l : Int) (A : Option Addr) (n c : Nat) (L : List Nd) (w : World) (e : Ending) (w' : World) : Prop :=
  ∃ p g h, e = .returned (.tuple #[.pointer (some ⟨p, 0, none⟩), .agg #[.int .i64 l, .slice A n c], .bool true]) ∧ PoA w' w.heap.size p g h kd l L.length L ∧ Below w.heap.size w w'
set_option maxHeartbeats 1600000 in
theorem prMade_any (kd l : Int) (A : Option Addr) (n c : Nat) (L : List Nd) (w : World) (h : NodesAt w (.slice A n c) L) (hB : NBds L) (hn : n ≤ 1000) (L0 : -9223372036854775808 ≤ l) (L1 : l ≤ 9223372036854775807) (hp : isP kd l = true) (hr : rollB l L = true) :
    Calls Try.prog 8 #[.int .i64 kd, .int .i64 l, .slice A n c] w (MadePost kd l A n c L w) := by
  have HB0 : Hid (Below w.heap.size w (w.alloc (.cells #[.int .i64 0, .slice none 0 0] 28))) := (Below.refl _ _).alloc (Nat.le_refl _) _
  have XB0 := Lib.hid (foBx2 w 28 (.int .i64 0) (.slice none 0 0))
  have LD := Lib.hid ((poLoad_any kd l A n c L _ (h.below HB0.out) hB hn L0 L1).mono (R' := fun e w' => ∃ p g h, e = .returned (.tuple #[.pointer (some ⟨p, 0, none⟩), .int .i64 0]) ∧ PoA w' (w.alloc (.cells #[.int .i64 0, .slice none 0 0] 28)).heap.size p g h kd l L.length L ∧ Below (w.alloc (.cells #[.int .i64 0, .slice none 0 0] 28)).heap.size (w.alloc (.cells #[.int .i64 0, .slice none 0 0] 28)) w') fun e w' ⟨hb, q⟩ => by
    rcases q with ⟨hi, _⟩ | ⟨_, hi, _⟩ | ⟨_, _, p, g, h, he, hd⟩
    · rw [hp] at hi; cases hi
    · rw [hr] at hi; cases hi
    · exact ⟨p, g, h, he, hd, hb⟩)
  clear h hB hp hr
  go_enter Try.func8, Try.ntmps8
  go_wp2_with fail
  generalize w.alloc (.cells #[.int .i64 0, .slice none 0 0] 28) = W at *
  refine LD.out.mono ?_
  rintro e w1 ⟨p, g, h, rfl, hd, hb1⟩
  have X1 := Lib.hid (own_below XB0.out hb1)
  have HD2 := Lib.hid (po_boxS (hd.low HB0.out.size) (box_set X1.out (.int .i64 l) (.slice A n c)).2.1)
  obtain ⟨y0, y1, h0, h1, hz⟩ := box_cells X1.out
  have HB := Lib.hid (HB0.out.trans (hb1.mono HB0.out.size))
  obtain ⟨q0, q1⟩ := set_two y0 y1
  clear hd hb1
  go_wp2_with fail
  exact bodyPost_ret (v := .tuple #[.pointer (some ⟨p, 0, none⟩), .agg #[.int .i64 l, .slice A n c], .bool true]) (by simp [results, Try.results8, go_sem, q0, q1]) rfl ⟨p, g, h, rfl, HD2.out, (HB.out.setCell (p := ⟨w.heap.size, 0, none⟩) (Nat.le_refl _) _).setCell (p := ⟨w.heap.size, 1, none⟩) (Nat.le_refl _) _⟩
theorem prex : isP 2 2 = true ∧ isP 1 2 = true ∧ rollB 2 [(2, 1), (4, 1), (5, 2)] = true ∧ kIs 1 = true ∧ kIs 2 = true ∧ capW [(2, 1), (4, 1), (5, 2)] 1 = 4 ∧ capW [(2, 1), (4, 1), (5, 2)] 2 = 2 := by decide
theorem prex4 : hasX 2 4 [(2, 1), (4, 1), (5, 2)] = true ∧ hasX 2 4 (preA 2 4 [(2, 1), (4, 1), (5, 2)] 1) = true ∧ hasX 2 4 (preA 2 4 [(2, 1), (4, 1), (5, 2)] 2) = false ∧ sumAt 1 (preA 2 4 [(2, 1), (4, 1), (5, 2)] 2) = 4 := by decide +kernel
theorem prex2 : hasX 2 2 [(2, 1), (4, 1), (5, 2)] = true ∧ hasX 2 2 (preA 2 2 [(2, 1), (4, 1), (5, 2)] 1) = false ∧ sumAt 1 (preA 2 2 [(2, 1), (4, 1), (5, 2)] 1) = 1 ∧ bndN 2 = 7 := by decide +kernel
theorem prlive4 : Live 2 4 [(2, 1), (4, 1), (5, 2)] 2 := fun i hi => by
  match i, hi with
  | 0, _ => exact prex4.1
  | 1, _ => exact prex4.2.1
theorem prlive2 : Live 2 2 [(2, 1), (4, 1), (5, 2)] 1 := fun i hi => by
  match i, hi with
  | 0, _ => exact prex2.1
set_option maxHeartbeats 3200000 in
theorem prAlive_any (w : World) : Calls Try.prog 7 #[] w fun e w' => e = .returned (.bool true) ∧ Below w.heap.size w w' := by
  obtain ⟨x1, x2, x3, x4, x5, x6, x7⟩ := prex
  have HB0 : Hid (Below w.heap.size w (w.alloc (.cells #[.int .i64 2, .int .i64 1, .int .i64 4, .int .i64 1, .int .i64 5, .int .i64 2] 46))) := (Below.refl _ _).alloc (Nat.le_refl _) _
  have NV : Hid (NodesAt (w.alloc (.cells #[.int .i64 2, .int .i64 1, .int .i64 4, .int .i64 1, .int .i64 5, .int .i64 2] 46)) (.slice (some ⟨w.heap.size, 0, none⟩) 3 3) [(2, 1), (4, 1), (5, 2)]) :=
    ownNd_nodes (World.ownsRow_lit (base := w.heap.size) (e := 46) (size := 2) w #[.int .i64 2, .int .i64 1, .int .i64 4, .int .i64 1, .int .i64 5, .int .i64 2] 3 (Nat.le_refl _) (by unfold maxLen; omega) rfl)
  have NB : Hid (NBds [(2, 1), (4, 1), (5, 2)]) := nbds_roll (of_decide_eq_true x3)
  have X1 := Lib.hid x1
  have X2 := Lib.hid x2
  have X3 := Lib.hid x3
  have X4 := Lib.hid x4
  have X5 := Lib.hid x5
  have X6 := Lib.hid x6
  have X7 := Lib.hid x7
  have BD := Lib.hid (fun w => prBound_any 2 w (by omega) (by omega))
  rw [prex2.2.2.2] at BD
  clear x1 x2 x3 x4 x5 x6 x7
  go_enter Try.func7, Try.ntmps7
  go_wp2_with fail
  generalize w.alloc (.cells #[.int .i64 2, .int .i64 1, .int .i64 4, .int .i64 1, .int .i64 5, .int .i64 2] 46) = W at *
  refine (poLoad_any 2 2 _ _ _ [(2, 1), (4, 1), (5, 2)] _ NV.out NB.out (by omega) (by omega) (by omega)).mono ?_
  rintro e w1 ⟨hb1, ⟨hi, _⟩ | ⟨_, hr, _⟩ | ⟨_, _, p, g, h, rfl, hd⟩⟩
  · rw [X1.out] at hi; cases hi
  · rw [X3.out] at hr; cases hr
  have B1 := Lib.hid (HB0.out.trans (hb1.mono HB0.out.size))
  have D1 := Lib.hid (hd.low HB0.out.size)
  have N1 := Lib.hid (NV.out.below hb1)
  clear hb1 hd
  go_wp2_with fail
  refine (poLoad_any 1 2 _ _ _ [(2, 1), (4, 1), (5, 2)] _ N1.out NB.out (by omega) (by omega) (by omega)).mono ?_
  rintro e w2 ⟨hb2, ⟨hi, _⟩ | ⟨_, hr, _⟩ | ⟨_, _, p2, g2, h2, rfl, hd⟩⟩
  · rw [X2.out] at hi; cases hi
  · rw [X3.out] at hr; cases hr
  have B2 := Lib.hid (B1.out.trans (hb2.mono B1.out.size))
  have D2 := Lib.hid (D1.out.below hb2)
  have E2 := Lib.hid (hd.low B1.out.size)
  have GG : Hid (g2 ≠ g) := by have := hd.lt; have := D1.out.lt; show _ ≠ _; omega
  have HH : Hid (h2 ≠ h) := by have := hd.lt; have := D1.out.lt; show _ ≠ _; omega
  clear hb2 hd
  go_wp2_with fail
  refine (prRun_any 1 w2 D2.out (by decide) X4.out).mono ?_
  rw [X6.out]
  rintro e w3 ⟨j, h3, rfl, ⟨hl, hx⟩, hd, hc, hh⟩
  obtain rfl : j = 2 := live_uniq hl prlive4 hx prex4.2.2.1
  have E3 := Lib.hid (E2.out.chg D2.out hc GG.out HH.out)
  have HH3 : Hid (h3 ≠ h2) := by
    have a := E2.out.lt
    have b := HH.out
    show _ ≠ _
    rcases hh with q | q <;> omega
  have D3 := Lib.hid hd
  have lt3 := D2.out.lt
  have B3 := Lib.hid (B2.out.trans (hc.below lt3.2.1 lt3.2.2.2.1 B2.out.size))
  clear hd hc hh hl hx lt3
  go_wp2_with fail
  refine (prRun_any 2 w3 E3.out (by decide) X5.out).mono ?_
  rw [X7.out]
  rintro e w4 ⟨j, h4, rfl, ⟨hl, hx⟩, hd, hc, hh⟩
  obtain rfl : j = 1 := live_uniq hl prlive2 hx prex2.2.1
  have D4 := Lib.hid (D3.out.chg E3.out hc (fun q => GG.out q.symm) HH3.out)
  have E4 := Lib.hid hd
  have lt4 := E3.out.lt
  have B4 := Lib.hid (B3.out.trans (hc.below lt4.2.1 lt4.2.2.2.1 B3.out.size))
  clear hd hc hh hl hx lt4
  have G1 := Lib.hid (poGet_any 1 w4 D4.out (by decide) (by omega) (by omega))
  rw [prex4.2.2.2] at G1
  go_wp2_with fail
  refine (read_below G1.out).mono ?_
  rintro e w5 ⟨rfl, hb5⟩
  have B5 := Lib.hid (B4.out.trans (hb5.mono B4.out.size))
  have G2 := Lib.hid (poGet_any 1 w5 (E4.out.below hb5) (by decide) (by omega) (by omega))
  rw [prex2.2.2.1] at G2
  clear hb5 G1
  go_wp2_with fail
  refine (read_below G2.out).mono ?_
  rintro e w6 ⟨rfl, hb6⟩
  have B6 := Lib.hid (B5.out.trans (hb6.mono B5.out.size))
  clear hb6 G2
  go_wp2_with (go_at_call 22; refine (BD.out _).mono ?_; rintro e w7 ⟨rfl, rfl⟩)
  go_ret
  exact ⟨rfl, B6.out⟩

end Go.Proofs.Ytabbpcpnabecmaa
