/- The document's answer of package dewpondref12: Run. -/
import Derived.Test.YtabbpcpnabecmaaGreatPrRef
namespace Go.Proofs.YtabbpcpnabecmaaGreat
set_option linter.unusedVariables false
set_option maxRecDepth 100000
open Go.RowKit

/-- a list of nodes: the one that came in, or a row of its own -/
def HasL (w W : World) (A0 : Option Addr) (n0 c0 : Nat) (L0 : List Nd) (v : Value) (L : List Nd) : Prop := (v = .slice A0 n0 c0 ∧ L = L0) ∨ OwnNd 49 W 0 v L
theorem HasL.nodes {w W : World} {A0 A : Option Addr} {n0 c0 n c : Nat} {L0 L : List Nd} (h : HasL w W A0 n0 c0 L0 (.slice A n c) L) (h0 : NodesAt w (.slice A0 n0 c0) L0) (hb : Below w.heap.size w W) : NodesAt W (.slice A n c) L := by
  rcases h with ⟨e, e2⟩ | o
  · rw [e, e2]; exact h0.below hb
  · exact ownNd_nodes o
theorem HasL.below {w W W' : World} {A0 : Option Addr} {n0 c0 : Nat} {L0 L : List Nd} {v : Value} (h : HasL w W A0 n0 c0 L0 v L) (hb : Below W.heap.size W W') : HasL w W' A0 n0 c0 L0 v L := h.imp (fun q => q) fun o => own_below o hb
/-- what Run leaves -/
def RunPostR (l : Int) (L : List Nd) (cap : Int) (w : World) (e : Ending) (w' : World) : Prop :=
  ∃ (j : Nat) (A : Option Addr) (m c : Nat) (A2 : Option Addr) (m2 c2 : Nat), e = .returned (.tuple #[.agg #[.int .i64 l, .slice A m c], .slice A2 m2 c2]) ∧ (Live l cap L j ∧ hasX l cap (preA l cap L j) = false) ∧ NodesAt w' (.slice A m c) (preA l cap L j) ∧ OwnI 3 w' w.heap.size (.slice A2 m2 c2) (preS l cap L j) ∧ Below w.heap.size w w'
theorem cap_pre {l : Int} {L : List Nd} (h : RollC l L) {k : Int} (hk : kIs k = true) {j : Nat} (hl : Live l (capW L k) L j) : quoN (sumC (preA l (capW L k) L j)) k = capW L k := by
  have q := pre_inv h hl
  rw [cap_quo q.roll hk]
  unfold capW
  have z := q.tot
  unfold capW at z
  rw [z]
theorem HasL.set {w W W' : World} {A0 : Option Addr} {n0 c0 : Nat} {L0 L : List Nd} {v : Value} (h : HasL w W A0 n0 c0 L0 v L)
    (k : ∀ (base : Nat) (e : TypeId) (size n : Nat) (v : Value) (ys : List Value), e ≠ 27 → W.ownsRow base e size v n ys → W'.ownsRow base e size v n ys) : HasL w W' A0 n0 c0 L0 v L := h.imp (fun q => q) fun o => k _ _ _ _ _ _ (by decide) o
set_option maxHeartbeats 6400000 in
theorem rPrRun_any (l k : Int) (A : Option Addr) (n c : Nat) (L : List Nd) (w : World) (h : NodesAt w (.slice A n c) L) (hr : RollC l L) (hn : n ≤ 100) (hk : kIs k = true) :
    Calls Tryz.prog 14 #[.agg #[.int .i64 l, .slice A n c], .int .i64 k] w (RunPostR l L (capW L k) w) := by
  have I0 := Lib.hid (doI_new w l (.slice A n c))
  have HN := Lib.hid h
  have HL := Lib.hid (nodes_cells h).1
  have HR := Lib.hid hr
  have kb := of_decide_eq_true hk
  have u : 1 ≤ l ∧ l ≤ 48 := of_decide_eq_true hr.1
  have CQ := Lib.hid (fun (j : Nat) hl => cap_pre (j := j) hr hk hl)
  have LLE := Lib.hid (fun (j : Nat) hl => live_le (cap := capW L k) (j := j) hr hl)
  have PIN := Lib.hid (fun (j : Nat) hl => pre_inv (cap := capW L k) (j := j) hr hl)
  have hN : Hid (l * (L.length : Int) ≤ 4800) := by
    have a1 := (nodes_cells h).1
    have a2 : l * (L.length : Int) ≤ 48 * (L.length : Int) := Int.mul_le_mul_of_nonneg_right u.2 (by omega)
    show _ ≤ _
    omega
  clear h hr hk
  generalize hcp : capW L k = cap at *
  clear hcp
  obtain ⟨N, hNN⟩ : ∃ N : Nat, N = (l * (L.length : Int)).toNat + 1 := ⟨_, rfl⟩
  have HNN := Lib.hid hNN
  clear hNN
  obtain ⟨i0, hi, hz0, hz1, hz2⟩ := info_parts foInt_info
  go_enter Tryz.func14, Tryz.ntmps14
  go_wp2_with fail
  generalize (w.alloc (.cells #[.int .i64 l, .slice A n c] 27)).alloc (.cells #[.int .i64 0, .slice none 0 0] 27) = W0 at *
  go_loopw [6] (fun x wr => ∃ (j : Nat) (A1 : Option Addr) (m1 c1 : Nat) (A2 : Option Addr) (m2 c2 : Nat), x = .slice A2 m2 c2 ∧ DoI w wr l (.slice A1 m1 c1) (.int .i64 0) (.slice none 0 0) ∧ HasL w wr A n c L (.slice A1 m1 c1) (preA l cap L j) ∧ OwnI 3 wr w.heap.size (.slice A2 m2 c2) (preS l cap L j) ∧ Live l cap L j) (fun x _ => N - lenV x)
  case atStart => exact ⟨0, A, n, c, none, 0, 0, rfl, I0.out, .inl ⟨rfl, rfl⟩, ownI_nil _ _ _, fun i hi => absurd hi (Nat.not_lt_zero i)⟩
  case round =>
    obtain ⟨j, A1, m1, c1, A2, m2, c2, rfl, hi1, hl1, ho1, hlv⟩ := hrel
    have P := Lib.hid (PIN.out j hlv)
    have I1 := Lib.hid hi1
    have L1 := Lib.hid hl1
    have O1 := Lib.hid ho1
    have LV := Lib.hid hlv
    have NV := Lib.hid (hl1.nodes HN.out hi1.b)
    have hm1 : m1 ≤ 100 := by have a := (nodes_cells NV.out).1; have b := P.out.len; have := HL.out; omega
    have hm2 : Hid (m2 = j) := by show _ = _; have a := (ints_cells (ownI_ints ho1)).1; rw [preS_len] at a; exact a
    have CP := Lib.hid (fun w1 (hb : Below wr.heap.size wr w1) => rPrCap_any l k A1 m1 c1 _ w1 (NV.out.below hb) P.out.roll (by omega) (by omega) (by omega))
    rw [CQ.out j hlv] at CP
    have FI := Lib.hid (fun w1 (hb : Below wr.heap.size wr w1) => rFirst_any l cap A1 m1 c1 _ w1 (NV.out.below hb) P.out.roll (by omega))
    obtain ⟨x0, x1, _, _, hz⟩ := box_cells hi1.s
    have HZ := Lib.hid hz
    have hp := has_pair (cap := cap) P.out.roll
    have HX := Lib.hid hp
    have PA := preA.eq_2 l cap L j
    have PS := preS.eq_2 l cap L j
    have HPA := Lib.hid PA
    have HPS := Lib.hid PS
    clear hi1 hl1 ho1 hlv hz hp PA PS
    change Hid (∀ w1, Below wr.heap.size wr w1 → Calls Tryz.prog 33 _ _ fun e w' => e = .returned (.tuple #[.int .i64 (fstX l cap (preA l cap L j)), .bool (hasX l cap (preA l cap L j))]) ∧ _) at FI
    generalize fstX l cap (preA l cap L j) = fx at *
    cases hx : hasX l cap (preA l cap L j)
    · have HXF := Lib.hid hx
      rw [hx] at FI
      clear hx HX
      go_wp2_with fail
      go_region_held3 (fun w' => w'.cell? ⟨w.heap.size, 0, none⟩ = some (.int .i64 l) ∧ w'.cell? ⟨w.heap.size, 1, none⟩ = some (.slice A1 m1 c1) ∧ Below wr.heap.size wr w')
        (first | assumption | (exact keep_two (by assumption) (by assumption) HZ.out HZ.out) | (exact ⟨x0, x1, below_drew _⟩))
        (first
          | ((with_reducible refine (CP.out _ (below_of (p := ⟨w.heap.size, 0, none⟩) (q := ⟨w.heap.size, 1, none⟩) (x := .int .i64 l) (y := .slice A1 m1 c1) (by assumption))).mono ?_); rintro e w7 ⟨rfl, hb7⟩)
          | ((with_reducible refine (FI.out _ (below_of (p := ⟨w.heap.size, 0, none⟩) (q := ⟨w.heap.size, 1, none⟩) (x := .int .i64 l) (y := .slice A1 m1 c1) (by assumption))).mono ?_); rintro e w8 ⟨rfl, hb8⟩))
      rename_i hH
      rename_i w8 _
      have hb8 : Below wr.heap.size wr w8 := hH.2.2
      have I8 := Lib.hid (I1.out.below hb8)
      have O8 := Lib.hid (own_below O1.out hb8)
      have N8 := Lib.hid (NV.out.below hb8)
      obtain ⟨s0, s1, _, _, _⟩ := box_cells I8.out.s
      obtain ⟨y0, y1, h0, h1, _⟩ := box_cells I8.out.r
      obtain ⟨q0, q1⟩ := set_two y0 y1
      have S8 := Lib.hid (box_set I8.out.r (.int .i64 l) (.slice A1 m1 c1))
      have L8 := Lib.hid ((L1.out.below hb8).set S8.out.2.1)
      have O9 := Lib.hid (S8.out.2.1 _ _ _ _ _ _ (by decide) O8.out)
      have BB := Lib.hid (I8.out.b.trans (S8.out.2.2.1.mono (Nat.le_refl _)))
      clear x0 x1 hH hb8
      go_wp2_with fail
      exact bodyPost_ret (v := .tuple #[.agg #[.int .i64 l, .slice A1 m1 c1], .slice A2 m2 c2]) (by simp [results, Tryz.results14, go_sem, q0, q1]) rfl ⟨j, A1, m1, c1, A2, m2, c2, rfl, ⟨LV.out, HXF.out⟩, L8.out.nodes HN.out BB.out, O9.out, BB.out⟩
    · have HXT := Lib.hid hx
      rw [hx] at FI HX
      have hp := HX.out rfl
      have kb1 := hp.2.2
      have HPW := Lib.hid hp
      clear hx HX hp
      go_wp2_with fail
      go_region_held3 (fun w' => w'.cell? ⟨w.heap.size, 0, none⟩ = some (.int .i64 l) ∧ w'.cell? ⟨w.heap.size, 1, none⟩ = some (.slice A1 m1 c1) ∧ Below wr.heap.size wr w')
        (first | assumption | (exact keep_two (by assumption) (by assumption) HZ.out HZ.out) | (exact ⟨x0, x1, below_drew _⟩))
        (first
          | ((with_reducible refine (CP.out _ (below_of (p := ⟨w.heap.size, 0, none⟩) (q := ⟨w.heap.size, 1, none⟩) (x := .int .i64 l) (y := .slice A1 m1 c1) (by assumption))).mono ?_); rintro e w7 ⟨rfl, hb7⟩)
          | ((with_reducible refine (FI.out _ (below_of (p := ⟨w.heap.size, 0, none⟩) (q := ⟨w.heap.size, 1, none⟩) (x := .int .i64 l) (y := .slice A1 m1 c1) (by assumption))).mono ?_); rintro e w8 ⟨rfl, hb8⟩))
      rename_i hH
      rename_i w8 _
      have hb8 : Below wr.heap.size wr w8 := hH.2.2
      have I8 := Lib.hid (I1.out.below hb8)
      have O8 := Lib.hid (own_below O1.out hb8)
      have N8 := Lib.hid (NV.out.below hb8)
      have L8 := Lib.hid (L1.out.below hb8)
      obtain ⟨s0, s1, f0, f1, _⟩ := box_cells I8.out.s
      clear x0 x1 hH hb8
      go_wp2_with fail
      have RD := Lib.hid (rDo_any l fx A1 m1 c1 _ w8 N8.out P.out.roll (by omega) (by omega) kb1.2)
      rw [← HPA.out] at RD
      generalize hpw : pairW l (preA l cap L j) fx = pw at *
      clear hpw HPW
      refine RD.out.mono ?_
      rintro e w9 ⟨A3, m3, c3, rfl, hv9, hb9⟩
      have I9 := Lib.hid (I8.out.below hb9)
      have O9 := Lib.hid (own_below O8.out hb9)
      have V9 : Hid (HasL w w9 A n c L (.slice A3 m3 c3) (preA l cap L j.succ)) := by
        rcases hv9 with ⟨e1, e2⟩ | ⟨o, _⟩
        · rw [e1, e2]; exact L8.out.below hb9
        · exact .inr o
      obtain ⟨t0, t1, g0, g1, _⟩ := box_cells I9.out.s
      have S9 := Lib.hid (box_set I9.out.s (.int .i64 l) (.slice A3 m3 c3))
      have I10 := Lib.hid (I9.out.set (.slice A3 m3 c3))
      have O10 : Hid (OwnI 3 ((w9.setCell ⟨w.heap.size, 0, none⟩ (.int .i64 l)).setCell ⟨w.heap.size, 1, none⟩ (.slice A3 m3 c3)) w.heap.size (.slice A2 m2 c2) (preS l cap L j)) := S9.out.2.1 _ _ _ _ _ _ (by decide) O9.out
      have V10 := Lib.hid (V9.out.set S9.out.2.1)
      clear s0 s1 f0 f1 hb9 hv9 RD
      have HBW := Lib.hid I10.out.b.size
      have hBz : w.heap.size ≤ (((w9.setCell ⟨w.heap.size, 0, none⟩ (.int .i64 l)).setCell ⟨w.heap.size, 1, none⟩ (.slice A3 m3 c3)).alloc (.cells #[.int .i64 fx] 3)).heap.size := by have := HBW.out; simp at this ⊢; omega
      have HLS : Hid (j < N) := by
        have a1 := LLE.out j LV.out
        have a2 := HNN.out
        show _ < _
        omega
      have hpl : (preS l cap L j).length ≤ 5000 := by
        have a1 := LLE.out j LV.out
        have a2 := hN.out
        rw [preS_len]
        omega
      go_wp2_with (at_builtin; refine wpList_append_own_at _ rfl _ _ 30 rfl w.heap.size 3 i0 (.int .i64 0) 1 8 Tryz.underlying30 hi hz0 hz1 hz2 rfl (by decide) _ (preS l cap L j).length (ints (preS l cap L j)) rfl (World.ownsRow.alloc O10.out _) ⟨w9.heap.size, 0, none⟩ 1 1 [.int .i64 fx] rfl rfl (one_new _ _ _ _ (by simp)) (one_int _) (by unfold maxLen; omega) (by omega) hBz ?_)
      intro v4 w4 hown4 hgrow4 _ hat4
      obtain ⟨A4, m4, c4, rfl⟩ := own_slice hown4
      have HR4 : Hid (OwnI 3 w4 w.heap.size (.slice A4 m4 c4) (preS l cap L j.succ)) := by rw [HPS.out]; exact ownI_snoc rfl hown4
      have HK4 : Hid (∀ (base : Nat) (e : TypeId) (size n : Nat) (v : Value) (ys : List Value), e ≠ 3 → ((w9.setCell ⟨w.heap.size, 0, none⟩ (.int .i64 l)).setCell ⟨w.heap.size, 1, none⟩ (.slice A3 m3 c3)).ownsRow base e size v n ys → w4.ownsRow base e size v n ys) := fun base e size n v ys he o =>
        (World.ownsRow.alloc o _).kept hgrow4 (own_apart o O10.out he)
      have BW4 : Hid (Below w.heap.size w w4) := by
        refine I10.out.b.trans (Kp.below (F := fun k => (Value.slice A2 m2 c2).ownBlock = some k) ((Kp.of (below_one _ _)).trans (Kp.grown hgrow4) (fun k _ h => h.symm)) (fun i hi f => ?_) HBW.out)
        have := (World.ownsRow.lt O10.out i f).1
        omega
      have I4 : Hid (DoI w w4 l (.slice A3 m3 c3) (.int .i64 0) (.slice none 0 0)) := ⟨HK4.out _ _ _ _ _ _ (by decide) I10.out.s, HK4.out _ _ _ _ _ _ (by decide) I10.out.r, BW4.out⟩
      have V4 : Hid (HasL w w4 A n c L (.slice A3 m3 c3) (preA l cap L j.succ)) := V10.out.imp (fun q => q) fun o => HK4.out _ _ _ _ _ _ (by decide) o
      have LV4 : Hid (Live l cap L (j + 1)) := live_step LV.out HXT.out
      have M4 : Hid (m4 = j + 1) := by
        have a := (ints_cells (ownI_ints HR4.out)).1
        rw [preS_len] at a
        exact a
      clear hown4 hgrow4 hat4 HK4
      go_wp2_with fail
      go_roundw
      case rel => exact ⟨j + 1, A3, m3, c3, A4, m4, c4, rfl, I4.out, V4.out, HR4.out, LV4.out⟩
      case measure =>
        have a1 := M4.out
        have a2 := hm2.out
        have a3 := HLS.out
        simp [lenV]
        omega

end Go.Proofs.YtabbpcpnabecmaaGreat
