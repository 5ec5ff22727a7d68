/- Texts laid together: Ro, Ro2, Ro3, Ro4, Ro5, TwRef, RoRef, RoRef2, RoRef3, Ds, Ds2, Ds3, K4, DsRef, DsRef2, DsRefN, DsLaw, Open5, DsLaw2. -/
import Derived.Test.YtelekchdbiimiaaGreatRkT
import Derived.Test.YtelekchdbiimiaaGreatPln
import Derived.Test.YtelekchdbiimiaaGreatMmy
import Derived.Deep.QuietTactic
import Derived.BigQuiet
import Derived.Laws.StructEq
import Derived.Lib.SliceRun
import Derived.Deep.RegionHeld3
import Derived.Deep.RegionWith
import Derived.Deep.DrawnRows
import Derived.WalkSpells
import Derived.StillTactics
import Derived.Laws.AppendOwnNone
import Derived.StillTailTactics
import Derived.Laws.MakeOwn
import Derived.Laws.CopyOwn
import Derived.RegionTactic
import Derived.WalkKit
import Derived.ProofKit
import Derived.OpenShut
import Derived.Lib.SmallJoins
import Derived.Laws.Cover2
import Derived.ChangeMaps5
import Derived.Deep.Slices
import Derived.ChangeSame
import Derived.WideShapes
import Derived.Deep.Strs
namespace Go.Proofs.YtelekchdbiimiaaGreat
set_option linter.unusedVariables false
open Go.RowKit
/-- one round more: the box of the round's node, and what was called -/
theorem round_below {W wr w1 : World} {o : Obj} (hb : Below W.heap.size W wr) (hb1 : Below (wr.alloc o).heap.size (wr.alloc o) w1) : Below W.heap.size W w1 :=
  (hb.alloc hb.size _).trans (hb1.mono (by have := hb.size; simp; omega))
def TotPost (L : List Nd) (w : World) (e : Ending) (w' : World) : Prop := e = .returned (.tuple #[.int .i64 (totN L), .bool (totB L)]) ∧ Below w.heap.size w w'
theorem tot_post {L : List Nd} {w w' : World} {n : Int} {b : Bool} (h : totN L = n ∧ totB L = b) (hb : Below w.heap.size w w') : TotPost L w (.returned (.tuple #[.int .i64 n, .bool b])) w' := by
  obtain ⟨rfl, rfl⟩ := h
  exact ⟨rfl, hb⟩
theorem tot_nil : TotC ([] : List Nd) := ⟨fun n h => by simp at h, by simp [sumC]⟩
set_option maxHeartbeats 1600000 in
theorem total_any (A : Option Addr) (n c : Nat) (L : List Nd) (w : World) (h : NodesAt w (.slice A n c) L) (hB : NBds L) (hn : n ≤ 1000000) :
    Calls Tryz.prog 132 #[.slice A n c] w (TotPost L w) := by
  obtain ⟨hlen, hlc, hcm, hat⟩ := nodes_cells h
  have HL := Lib.hid hlen
  have HA := Lib.hid hat
  have HB := Lib.hid hB
  clear hlen hat hB h hlc hcm
  go_enter Tryz.func132, Tryz.ntmps132
  go_wp2_with fail
  go_loopw [4, 11] (fun t i wr => ∃ k : Nat, k ≤ n ∧ i = .int .i64 k ∧ t = .int .i64 (sumC (L.take k)) ∧ TotC (L.take k) ∧ Below w.heap.size w wr) (fun _ i _ => n - (intOf i).toNat)
  case atStart => exact ⟨0, by omega, rfl, rfl, tot_nil, Below.refl ..⟩
  case round =>
    rename_i wr
    obtain ⟨k, hk, rfl, rfl, htot, hb⟩ := hrel
    have TC := Lib.hid htot
    have t0 : 0 ≤ sumC (L.take k) := sumC_nonneg htot.1
    have t1 : sumC (L.take k) ≤ 72057594037927935 := htot.2
    clear htot
    by_cases hlt : k < n
    · have hk2 : k < L.length := by have := HL.out; omega
      obtain ⟨b, o, rfl, hin⟩ := HA.out (by omega)
      obtain ⟨e0, e1⟩ := (hin.below hb hin.1).2 k hk2
      have hbd := nbds_at HB.out hk2
      obtain ⟨⟨b0, b1⟩, b2, b3⟩ := hbd
      have hst := Lib.hid (fun q0 q1 => tot_step hk2 TC.out q0 q1)
      have hno := Lib.hid (fun q => tot_stop (L := L) hk2 q)
      have hbl := hin.1
      have hsz := hb.size
      clear hin
      generalize L.getD k nz = r at *
      obtain ⟨id, x⟩ := r
      simp only at e0 e1 b0 b1 b2 b3
      generalize hT : sumC (L.take k) = T at *
      have HT := Lib.hid hT
      clear hT
      by_cases q : 0 ≤ x ∧ T + x ≤ 72057594037927935
      · obtain ⟨q0, q1⟩ := q
        obtain ⟨s1, s2⟩ := sum_yes (a := T) (b := x) (by omega)
        go_wp2_with (go_at_call 117; refine (add_any _ _ _ (by omega) (by omega) (by omega) (by omega)).mono ?_; rintro e w1 ⟨rfl, hb1⟩)
        go_roundw
        case rel => exact ⟨k + 1, by omega, by go_num, by rw [(hst.out q0 q1).2], (hst.out q0 q1).1, round_below hb hb1⟩
        case measure => simp [intOf]; omega
      · have NO := Lib.hid (tot_no (hno.out (by omega)))
        by_cases q0 : 0 ≤ x ∧ T + x ≤ 9223372036854775807
        · obtain ⟨s1, s2⟩ := sum_yes (a := T) (b := x) (by omega)
          have q1 : 72057594037927935 < T + x := by omega
          clear q hst hno
          go_wp2_with (go_at_call 117; refine (add_any _ _ _ (by omega) (by omega) (by omega) (by omega)).mono ?_; rintro e w1 ⟨rfl, hb1⟩)
          go_ret2
          exact tot_post NO.out (round_below hb hb1)
        · obtain ⟨s1, s2⟩ := sum_no (a := T) (b := x) (by omega)
          clear q q0 hst hno
          go_wp2_with (go_at_call 117; refine (add_any _ _ _ (by omega) (by omega) (by omega) (by omega)).mono ?_; rintro e w1 ⟨rfl, hb1⟩)
          go_ret2
          exact tot_post NO.out (round_below hb hb1)
    · have hd : Hid (L.take k = L) := List.take_of_length_le (by have := HL.out; omega)
      have YES := Lib.hid (tot_yes (L := L) (by have q := TC.out; rw [hd] at q; exact q))
      go_wp2_with fail
      go_ret2
      exact tot_post ⟨by rw [YES.out.1, hd], YES.out.2⟩ hb
def RightPost (l : Int) (L : List Nd) (w : World) (e : Ending) (w' : World) : Prop := e = .returned (.bool (rollB l L)) ∧ Below w.heap.size w w'
theorem right_post {l : Int} {L : List Nd} {b : Bool} {w w' : World} (h : rollB l L = b) (hb : Below w.heap.size w w') : RightPost l L w (.returned (.bool b)) w' := by
  subst h
  exact ⟨rfl, hb⟩
set_option maxHeartbeats 1600000 in
theorem rollRight_any (l : Int) (A : Option Addr) (n c : Nat) (L : List Nd) (w : World) (h : NodesAt w (.slice A n c) L) (hB : NBds L) (hn : n ≤ 1000000) (L0 : -9223372036854775808 ≤ l) (L1 : l ≤ 9223372036854775807) :
    Calls Tryz.prog 91 #[.int .i64 l, .slice A n c] w (RightPost l L w) := by
  have HN := Lib.hid h
  obtain ⟨hlen, hlc, hcm, hat⟩ := nodes_cells h
  have HL := Lib.hid hlen
  have HA := Lib.hid hat
  have HB := Lib.hid hB
  clear hlen hat hB h hlc hcm
  have r1 := right_one l
  have R1 := Lib.hid r1
  clear r1
  go_enter Tryz.func91, Tryz.ntmps91
  go_wp2_with fail
  go_loopw [5, 12] (fun t i wr => ∃ k : Nat, k ≤ n ∧ i = .int .i64 k ∧ t = .int .i64 (lastN L k) ∧ RInv l L k ∧ Below w.heap.size w wr) (fun _ i _ => n - (intOf i).toNat)
  case atStart => exact ⟨0, by omega, rfl, rfl, rinv_zero l L, Below.refl ..⟩
  case round =>
    rename_i wr
    obtain ⟨k, hk, rfl, rfl, hinv, hb⟩ := hrel
    have INV := Lib.hid hinv
    clear hinv
    by_cases hlt : k < n
    · have hk2 : k < L.length := by have := HL.out; omega
      obtain ⟨b, o, rfl, hin⟩ := HA.out (by omega)
      obtain ⟨e0, e1⟩ := (hin.below hb hin.1).2 k hk2
      have hbd := nbds_at HB.out hk2
      obtain ⟨⟨b0, b1⟩, b2, b3⟩ := hbd
      have hst := Lib.hid (fun q0 q1 q2 => rinv_step hk2 INV.out q0 q1 q2)
      have hno := Lib.hid (fun q => rinv_stop (l := l) (L := L) hk2 q)
      have hla : Hid (lastN L (k + 1) = (L.getD k nz).1) := rfl
      have hbl := hin.1
      have hsz := hb.size
      clear hin
      generalize L.getD k nz = r at *
      obtain ⟨id, x⟩ := r
      simp only at e0 e1 b0 b1 b2 b3
      generalize lastN L k = T at *
      by_cases q0 : id ≤ T
      · have NO := Lib.hid (roll_no (hno.out (.inl q0)))
        clear hno hst
        go_wp2_with fail
        go_ret
        exact right_post NO.out (hb.alloc hb.size _)
      · by_cases q1 : x < 1
        · have NO := Lib.hid (roll_no (hno.out (.inr (.inl q1))))
          clear hno hst
          go_wp2_with fail
          go_ret
          exact right_post NO.out (hb.alloc hb.size _)
        · cases q2 : rightB l id
          · have NO := Lib.hid (roll_no (hno.out (.inr (.inr q2))))
            clear hno hst
            go_wp2_with (go_at_call 131; refine (right_any _ _ _ L0 L1 b0 b1).mono ?_; rintro e w1 ⟨rfl, rfl⟩)
            go_ret
            exact right_post NO.out (hb.alloc hb.size _)
          · have ST := Lib.hid (hst.out (by omega) (by omega) q2)
            clear hno hst
            go_wp2_with (go_at_call 131; refine (right_any _ _ _ L0 L1 b0 b1).mono ?_; rintro e w1 ⟨rfl, rfl⟩)
            go_roundw
            case rel => exact ⟨k + 1, by omega, by go_num, by rw [hla.out], ST.out, hb.alloc hb.size _⟩
            case measure => simp [intOf]; omega
    · have INV2 := Lib.hid (show RInv l L L.length from by have q := INV.out; rwa [show k = L.length by have := HL.out; omega] at q)
      have HN2 := Lib.hid (HN.out.below hb)
      cases ht : totB L
      · go_wp2_with (go_at_call 132; refine (total_any _ _ _ _ _ HN2.out HB.out hn).mono ?_; rintro e w1 ⟨rfl, hb1⟩)
        go_ret
        exact right_post (by rw [roll_ends INV2.out _ _ rfl rfl, ht]; rfl) (hb.trans (hb1.mono hb.size))
      · go_wp2_with (first | (go_at_call 132; refine (total_any _ _ _ _ _ HN2.out HB.out hn).mono ?_; rintro e w1 ⟨rfl, hb1⟩) | (go_at_call 131; refine (right_any _ _ _ L0 L1 (by omega) (by omega)).mono ?_; rintro e w1 ⟨rfl, rfl⟩))
        go_ret
        exact right_post (by rw [roll_ends INV2.out _ _ rfl R1.out, ht]; rfl) (hb.trans (hb1.mono hb.size))
end Go.Proofs.YtelekchdbiimiaaGreat
namespace Go.Proofs.YtelekchdbiimiaaGreat
set_option linter.unusedVariables false
open Go.RowKit
attribute [local go_sem ↓] Go.wp_at_zero Go.wp_at_succ
theorem node_info : (Tryz.prog.info? 77).map (fun i => (i.zero, i.size, i.bytes)) = some (some (.agg #[.int .i64 0, .int .i64 0]), 2, 16) := by kernel_rfl
/-- .. a row of its own -/
def RowOwn (S : List Nd) (w : World) (e : Ending) (w' : World) : Prop := ∃ v, e = .returned v ∧ OwnNd 77 w' w.heap.size v S ∧ Below w.heap.size w w'
theorem sortedLess_any (a b : Nd) (w : World) :
    Calls Tryz.prog 215 #[.agg #[.int .i64 a.1, .int .i64 a.2], .agg #[.int .i64 b.1, .int .i64 b.2]] w fun e w' => e = .returned (.bool (idA a b)) ∧ Below w.heap.size w w' := by
  obtain ⟨a1, a2⟩ := a
  obtain ⟨b1, b2⟩ := b
  by_cases h : a1 < b1
  · have H := Lib.hid (idA_yes (a := (a1, a2)) (b := (b1, b2)) h)
    go_enter Tryz.func215, Tryz.ntmps215
    go_wp2_with fail
    go_ret
    exact ⟨by rw [H.out]; rfl, ((Below.refl _ _).alloc (Nat.le_refl _) _).alloc (by simp) _⟩
  · have H := Lib.hid (idA_no (a := (a1, a2)) (b := (b1, b2)) h)
    go_enter Tryz.func215, Tryz.ntmps215
    go_wp2_with fail
    go_ret
    exact ⟨by rw [H.out]; rfl, ((Below.refl _ _).alloc (Nat.le_refl _) _).alloc (by simp) _⟩
set_option maxHeartbeats 1600000 in
theorem cloneNd_own (A : Option Addr) (n c : Nat) (L : List Nd) (w : World) (h : NodesAt w (.slice A n c) L) (hn : n ≤ 1000000) :
    Calls Tryz.prog 221 #[.slice A n c] w (RowOwn L w) := by
  obtain ⟨hlen, hlc, hcm, hat⟩ := nodes_cells h
  have HL := Lib.hid hlen
  have HA := Lib.hid hat
  clear hlen hat h hlc hcm
  obtain ⟨i0, hi, hz0, hz1, hz2⟩ := info_parts node_info
  have q22 : ∀ (w : World) (a : Option Addr) (n c n' c' : Nat), (binOp .eql 24 (.slice a n c) (.slice none n' c')).run Tryz.prog w = .ok (.bool a.isNone) w := fun w a n c n' c' => Lib.run_eql_slice_nil w _ _ a n c n' c' Tryz.underlying24
  rcases Nat.eq_zero_or_pos n with h0 | h0
  · have hL0 : L = [] := List.eq_nil_of_length_eq_zero (by rw [← HL.out]; exact h0)
    subst hL0
    cases A with
    | none =>
      go_enter Tryz.func221, Tryz.ntmps221
      go_wp2_with fail
      go_ret
      exact ⟨_, rfl, ownNd_nil .., Below.refl ..⟩
    | some a =>
      subst h0
      go_enter Tryz.func221, Tryz.ntmps221
      go_wp2_with (at_builtin; refine wpList_append_own _ rfl _ _ 24 rfl w.heap.size 77 i0 (.agg #[.int .i64 0, .int .i64 0]) 2 16 Tryz.underlying24 hi hz0 hz1 hz2 rfl (by decide) _ _ _ rfl (World.ownsRow_made w #[] 0 (Nat.le_refl _) (Nat.zero_le _) rfl) a 0 c [] rfl rfl ?qc1 ?qc2 ?qc3 ?qc4 ?qc5 ?qc6)
      case qc1 => intro j u hj; simp at hj
      case qc2 => intro u hu; simp at hu
      case qc3 => unfold maxLen; omega
      case qc4 => omega
      case qc5 => simp
      intro v' w1 hown hgrow hnil
      go_wp2
      go_ret
      exact ⟨v', rfl, (by simpa [OwnNd, nods] using hown), ((Below.refl _ w).alloc (Nat.le_refl _) _).grown hgrow (by simp) (by intro k hk; simp [Value.ownBlock] at hk; omega)⟩
  · obtain ⟨b, o, rfl, hin⟩ := HA.out (by have := HL.out; omega)
    have HI := Lib.hid hin
    have hbl := hin.1
    have NL := Lib.hid (show (nods L).length = n * 2 by rw [nods_len]; have := HL.out; omega)
    clear hin
    go_enter Tryz.func221, Tryz.ntmps221
    go_wp2_with (at_builtin; refine wpList_append_own _ rfl _ _ 24 rfl w.heap.size 77 i0 (.agg #[.int .i64 0, .int .i64 0]) 2 16 Tryz.underlying24 hi hz0 hz1 hz2 rfl (by decide) _ _ _ rfl (World.ownsRow_made w #[] 0 (Nat.le_refl _) (Nat.zero_le _) rfl) ⟨b, o, none⟩ n c (nods L) rfl NL.out ?pc1 ?pc2 ?pc3 ?pc4 ?pc5 ?pc6)
    case pc1 => exact (HI.out.below ((Below.refl _ w).alloc (Nat.le_refl _) _) hbl).news
    case pc2 => exact nods_one L
    case pc3 => unfold maxLen; omega
    case pc4 => omega
    case pc5 => simp
    intro v' w1 hown hgrow hnil
    go_wp2
    go_ret
    exact ⟨v', rfl, (by have q := hown; rw [HL.out] at q; simpa [OwnNd] using q), ((Below.refl _ w).alloc (Nat.le_refl _) _).grown hgrow (by simp) (by intro k hk; simp [Value.ownBlock] at hk; omega)⟩
end Go.Proofs.YtelekchdbiimiaaGreat
namespace Go.Proofs.YtelekchdbiimiaaGreat
set_option linter.unusedVariables false
open Go.RowKit
attribute [local go_sem ↓] Go.wp_at_zero Go.wp_at_succ
/-- how far the merging has come -/
structure MInv (B : Nat) (w wr : World) (ad bd : Addr) (ca cb : Nat) (v : Value) (P Q R LM : List Nd) : Prop where
  a : NdAt w (some ad) P
  b : NdAt w (some bd) Q
  ca : P.length ≤ ca
  cb : Q.length ≤ cb
  own : OwnNd 77 wr B v R
  goes : R ++ mrg idA P Q = LM
  below : Below w.heap.size w wr
theorem minv_len {B : Nat} {w wr : World} {ad bd : Addr} {ca cb : Nat} {v : Value} {P Q R LM : List Nd} (h : MInv B w wr ad bd ca cb v P Q R LM) : R.length + (P.length + Q.length) = LM.length := by
  have := congrArg List.length h.goes
  rw [List.length_append, (mrg_perm idA P Q).length_eq, List.length_append] at this
  exact this
theorem minv_b {w wr w2 : World} {ad bd : Addr} {ca cb : Nat} {v v' : Value} {x y : Nd} {P Q R LM : List Nd} (h : MInv w.heap.size w wr ad bd ca cb v (x :: P) (y :: Q) R LM) (hlt : idA y x = true) (hown : OwnNd 77 w2 w.heap.size v' (R ++ [y])) (hb : Below w.heap.size w w2) :
    MInv w.heap.size w w2 ad (advA bd cb 1 2) ca (cb - 1) v' (x :: P) Q (R ++ [y]) LM :=
  ⟨h.a, by have := h.b.adv (k := 1) h.cb; simpa using this, h.ca, by have := h.cb; simp at this; omega, hown, by rw [← h.goes, mrg_b hlt]; simp, hb⟩
theorem minv_a {w wr w2 : World} {ad bd : Addr} {ca cb : Nat} {v v' : Value} {x y : Nd} {P Q R LM : List Nd} (h : MInv w.heap.size w wr ad bd ca cb v (x :: P) (y :: Q) R LM) (hlt : idA y x = false) (hown : OwnNd 77 w2 w.heap.size v' (R ++ [x])) (hb : Below w.heap.size w w2) :
    MInv w.heap.size w w2 (advA ad ca 1 2) bd (ca - 1) cb v' P (y :: Q) (R ++ [x]) LM :=
  ⟨by have := h.a.adv (k := 1) h.ca; simpa using this, h.b, by have := h.ca; simp at this; omega, h.cb, hown, by rw [← h.goes, mrg_a hlt]; simp, hb⟩
theorem minv_end {B : Nat} {w wr : World} {ad bd : Addr} {ca cb : Nat} {v : Value} {P Q R LM : List Nd} (h : MInv B w wr ad bd ca cb v P Q R LM) (hd : P = [] ∨ Q = []) : R ++ P ++ Q = LM := by
  rw [← h.goes]
  rcases hd with rfl | rfl
  · rw [nil_mrg]; simp
  · rw [mrg_nil]; simp
set_option maxHeartbeats 6400000 in
set_option maxRecDepth 100000 in
theorem merge_own (ad bd : Addr) (n c n2 c2 : Nat) (L M : List Nd) (w : World) (h : NodesAt w (.slice (some ad) n c) L) (h2 : NodesAt w (.slice (some bd) n2 c2) M) (hn : n ≤ 1000000) (hn2 : n2 ≤ 1000000) :
    Calls Tryz.prog 222 #[.slice (some ad) n c, .slice (some bd) n2 c2, .func (.func 215) #[] #[]] w (RowOwn (mrg idA L M) w) := by
  obtain ⟨hlen, hlc, hcm, hat⟩ := nodes_cells h
  obtain ⟨hlen2, hlc2, hcm2, hat2⟩ := nodes_cells h2
  obtain ⟨i0, hi, hz0, hz1, hz2⟩ := info_parts node_info
  have hlm : Hid ((mrg idA L M).length = n + n2) := by show _ = _; rw [(mrg_perm idA L M).length_eq, List.length_append]; omega
  have INV0 := Lib.hid (fun (v : Value) (w1 : World) (q : OwnNd 77 w1 w.heap.size v []) (hb : Below w.heap.size w w1) => (show MInv w.heap.size w w1 ad bd c c2 v L M [] (mrg idA L M) from ⟨hat, hat2, hlc, hlc2, q, rfl, hb⟩))
  have HL := Lib.hid hlen
  have HL2 := Lib.hid hlen2
  clear hlen hat h hlc hcm hlen2 hat2 h2 hlc2 hcm2
  have hmk := make_room (P := Tryz.prog) Tryz.underlying24 hi hz0 hz1 hz2 (n + n2) (by omega) (by omega) w
  rw [Int.natCast_add] at hmk
  go_enter Tryz.func222, Tryz.ntmps222
  go_wp2_with fail
  clear hmk
  go_loopw [0, 1, 7] (fun a b v wr => ∃ (P Q R : List Nd) (ad' bd' : Addr) (m p ca cb : Nat), a = .slice (some ad') m ca ∧ b = .slice (some bd') p cb ∧ m = P.length ∧ p = Q.length ∧ m ≤ n ∧ p ≤ n2 ∧ MInv w.heap.size w wr ad' bd' ca cb v P Q R (mrg idA L M)) (fun a b _ _ => (match a with | .slice _ m _ => m | _ => 0) + (match b with | .slice _ m _ => m | _ => 0))
  case atStart => exact ⟨L, M, [], ad, bd, n, n2, c, c2, rfl, rfl, HL.out, HL2.out, Nat.le_refl _, Nat.le_refl _, INV0.out _ _ (room_own (Nat.le_refl _) (by unfold maxLen; omega)) ((Below.refl _ _).alloc (Nat.le_refl _) _)⟩
  case round =>
    rename_i wr
    obtain ⟨P, Q, R, ad', bd', m, p, ca, cb, rfl, rfl, hm, hp, hmn, hpn, hinv⟩ := hrel
    have HM := Lib.hid hm
    have HP := Lib.hid hp
    have INV := Lib.hid hinv
    have hlen : R.length + (m + p) = n + n2 := by have := minv_len hinv; rw [hlm.out] at this; omega
    have zs := hinv.below.size
    obtain ⟨A3, m3, c3, rfl⟩ := ownNd_slice hinv.own
    clear hm hp hinv
    by_cases hmp : 0 < m ∧ 0 < p
    · obtain ⟨hm0, hp0⟩ := hmp
      obtain ⟨⟨x1, x2⟩, P, rfl⟩ : ∃ x P', P = x :: P' := by
        cases P with
        | nil => have := HM.out; simp at this; omega
        | cons x P => exact ⟨x, P, rfl⟩
      obtain ⟨⟨y1, y2⟩, Q, rfl⟩ : ∃ x P', Q = x :: P' := by
        cases Q with
        | nil => have := HP.out; simp at this; omega
        | cons x P => exact ⟨x, P, rfl⟩
      obtain ⟨b1, o1, rfl, hb1, e0, e1⟩ := INV.out.a.first INV.out.below
      obtain ⟨b2, o2, rfl, hb2, e2, e3⟩ := INV.out.b.first INV.out.below
      dsimp only at e0 e1 e2 e3
      have hsa := sl_one (P := Tryz.prog) Tryz.underlying24 hi hz1 ⟨b1, o1, none⟩ m ca hm0
      have hsb := sl_one (P := Tryz.prog) Tryz.underlying24 hi hz1 ⟨b2, o2, none⟩ p cb hp0
      have hm1 : Hid (m - 1 = P.length) := by have := HM.out; show _ = _; simp at this; omega
      have hp1 : Hid (p - 1 = Q.length) := by have := HP.out; show _ = _; simp at this; omega
      cases q : idA (y1, y2) (x1, x2)
      · have Q0 := Lib.hid q
        go_wp2_with fail
        go_region_held3 (fun w' => w'.cell? ⟨b1, o1, none⟩ = some (.int .i64 x1) ∧ w'.cell? ⟨b1, o1 + 1, none⟩ = some (.int .i64 x2) ∧ w'.cell? ⟨b2, o2, none⟩ = some (.int .i64 y1) ∧ w'.cell? ⟨b2, o2 + 1, none⟩ = some (.int .i64 y2) ∧ Below wr.heap.size wr w')
          (first | (exact keep4 (by assumption) (by assumption) (by dsimp only; omega) (by dsimp only; omega) (by dsimp only; omega) (by dsimp only; omega)) | (exact ⟨e0, e1, e2, e3, below_drew _⟩))
          (first | (go_at_call 215; refine (sortedLess_any (y1, y2) (x1, x2) _).mono ?_; rintro e w1 ⟨rfl, hbc⟩))
        rename_i hH
        obtain ⟨f0, f1, f2, f3, hbr⟩ := hH
        have hzr := hbr.size
        have hown1 := own_below INV.out.own hbr
        clear hbc e0 e1 e2 e3
        go_wp2_with fail
        clear q
        go_region_held3 (fun w' => w'.cell? ⟨b1, o1, none⟩ = some (.int .i64 x1) ∧ w'.cell? ⟨b1, o1 + 1, none⟩ = some (.int .i64 x2))
          (first | go_keep | (exact keep2g (by simp [*]) (by simp [*]) hown1 hgrow (by dsimp only; omega) (by dsimp only; omega) (by simp; omega)))
          ((refine step_append_lies _ (by rfl) _ _ _ (by rfl) w.heap.size 77 i0 _ 2 16 Tryz.underlying24 hi hz0 hz1 hz2 rfl (by omega) (.slice A3 m3 c3) R.length (nods R) (by rfl) ((hown1.alloc _).drew) ⟨w1.heap.size, 0, none⟩ 1 1 [.int .i64 x1, .int .i64 x2] (by rfl) (by rfl) (World.news_of_block (cs := #[.int .i64 x1, .int .i64 x2]) (t := 77) (fr := (0, 0)) (heap_alloc_new w1 _)) (two_cell _ _) (by omega) (by unfold maxLen; omega) (by omega) (by simp; omega) (w1.heap.size + 1) (by simp) ?_; intro gg cap w2 hown2 hgrow hat2 hlt2))
        go_wp2_with fail
        clear f0 f1 f2 f3
        have hown3 := Lib.hid (ownNd_snoc hown2)
        have hb2w : Below w.heap.size w w2 := (((INV.out.below.trans (hbr.mono zs)).alloc (by omega) _).drew).grown hgrow (by simp; omega) (fun g hg => (hown1.lt g hg).1)
        have INV3 := Lib.hid (minv_a INV.out Q0.out hown3.out hb2w)
        clear hown2 hgrow hat2 hown1 hbr
        go_roundw
        case rel => exact ⟨P, (y1, y2) :: Q, R ++ [(x1, x2)], _, _, m - 1, p, ca - 1, cb, rfl, rfl, hm1.out, HP.out, by omega, by omega, INV3.out⟩
        case measure => simp; omega
      · have Q0 := Lib.hid q
        go_wp2_with fail
        go_region_held3 (fun w' => w'.cell? ⟨b1, o1, none⟩ = some (.int .i64 x1) ∧ w'.cell? ⟨b1, o1 + 1, none⟩ = some (.int .i64 x2) ∧ w'.cell? ⟨b2, o2, none⟩ = some (.int .i64 y1) ∧ w'.cell? ⟨b2, o2 + 1, none⟩ = some (.int .i64 y2) ∧ Below wr.heap.size wr w')
          (first | (exact keep4 (by assumption) (by assumption) (by dsimp only; omega) (by dsimp only; omega) (by dsimp only; omega) (by dsimp only; omega)) | (exact ⟨e0, e1, e2, e3, below_drew _⟩))
          (first | (go_at_call 215; refine (sortedLess_any (y1, y2) (x1, x2) _).mono ?_; rintro e w1 ⟨rfl, hbc⟩))
        rename_i hH
        obtain ⟨f0, f1, f2, f3, hbr⟩ := hH
        have hzr := hbr.size
        have hown1 := own_below INV.out.own hbr
        clear hbc e0 e1 e2 e3
        go_wp2_with fail
        clear q
        go_region_held3 (fun w' => w'.cell? ⟨b2, o2, none⟩ = some (.int .i64 y1) ∧ w'.cell? ⟨b2, o2 + 1, none⟩ = some (.int .i64 y2))
          (first | go_keep | (exact keep2g (by simp [*]) (by simp [*]) hown1 hgrow (by dsimp only; omega) (by dsimp only; omega) (by simp; omega)))
          ((refine step_append_lies _ (by rfl) _ _ _ (by rfl) w.heap.size 77 i0 _ 2 16 Tryz.underlying24 hi hz0 hz1 hz2 rfl (by omega) (.slice A3 m3 c3) R.length (nods R) (by rfl) ((hown1.alloc _).drew) ⟨w1.heap.size, 0, none⟩ 1 1 [.int .i64 y1, .int .i64 y2] (by rfl) (by rfl) (World.news_of_block (cs := #[.int .i64 y1, .int .i64 y2]) (t := 77) (fr := (0, 0)) (heap_alloc_new w1 _)) (two_cell _ _) (by omega) (by unfold maxLen; omega) (by omega) (by simp; omega) (w1.heap.size + 1) (by simp) ?_; intro gg cap w2 hown2 hgrow hat2 hlt2))
        go_wp2_with fail
        clear f0 f1 f2 f3
        have hown3 := Lib.hid (ownNd_snoc hown2)
        have hb2w : Below w.heap.size w w2 := (((INV.out.below.trans (hbr.mono zs)).alloc (by omega) _).drew).grown hgrow (by simp; omega) (fun g hg => (hown1.lt g hg).1)
        have INV3 := Lib.hid (minv_b INV.out Q0.out hown3.out hb2w)
        clear hown2 hgrow hat2 hown1 hbr
        go_roundw
        case rel => exact ⟨(x1, x2) :: P, Q, R ++ [(y1, y2)], _, _, m, p - 1, ca, cb - 1, rfl, rfl, HM.out, hp1.out, by omega, by omega, INV3.out⟩
        case measure => simp; omega
    · have hd : P = [] ∨ Q = [] := by
        rcases Nat.eq_zero_or_pos m with q | q
        · exact .inl (List.eq_nil_of_length_eq_zero (by rw [← HM.out]; exact q))
        · exact .inr (List.eq_nil_of_length_eq_zero (by rw [← HP.out]; omega))
      have HE := Lib.hid (minv_end INV.out hd)
      have NM := Lib.hid (show (nods P).length = m * 2 by rw [nods_len, HM.out])
      have NP := Lib.hid (show (nods Q).length = p * 2 by rw [nods_len, HP.out])
      clear hd
      by_cases hm0 : 0 < m
      all_goals
        have hown := INV.out.own
        go_wp2_with (first
          | (at_builtin; refine wpList_append_own _ rfl (.tmp 46) (.tmp 47) 24 rfl w.heap.size 77 i0 (.agg #[.int .i64 0, .int .i64 0]) 2 16 Tryz.underlying24 hi hz0 hz1 hz2 rfl (by decide) (.slice A3 m3 c3) R.length (nods R) rfl hown ad' m ca (nods P) rfl NM.out (INV.out.a.news INV.out.below) (nods_one P) (by unfold maxLen; omega) (by omega) zs ?_; intro v1 w1 hown1 hgrow1 _; obtain ⟨A4, m4, c4, rfl⟩ := ownNd_slice hown1; have hb1 := INV.out.below.grown hgrow1 zs (fun g hg => (hown.lt g hg).1); have zs1 := hb1.size)
          | (at_builtin; refine wpList_append_own _ rfl (.tmp 48) (.tmp 49) 24 rfl w.heap.size 77 i0 (.agg #[.int .i64 0, .int .i64 0]) 2 16 Tryz.underlying24 hi hz0 hz1 hz2 rfl (by decide) (.slice A4 m4 c4) (R.length + m) (nods R ++ nods P) rfl hown1 bd' p cb (nods Q) rfl NP.out (INV.out.b.news hb1) (nods_one Q) (by unfold maxLen; omega) (by omega) zs1 ?_; intro v2 w2 hown2 hgrow2 _))
        have hb2 := hb1.grown hgrow2 zs1 (fun g hg => (hown1.lt g hg).1)
        go_ret
        exact ⟨v2, rfl, (by
          have q := hown2
          rw [HM.out, HP.out, ← nods_app, ← nods_app, HE.out] at q
          have e : R.length + P.length + Q.length = (mrg idA L M).length := by rw [← HE.out, List.length_append, List.length_append]
          rw [e] at q
          exact q), hb2⟩
end Go.Proofs.YtelekchdbiimiaaGreat
namespace Go.Proofs.YtelekchdbiimiaaGreat
set_option linter.unusedVariables false
open Go.RowKit
attribute [local go_sem ↓] Go.wp_at_zero Go.wp_at_succ
/-- .. in a row of its own -/
def OrdOwn (L : List Nd) (w : World) (e : Ending) (w' : World) : Prop :=
  ∃ S A c, e = .returned (.slice A (List.length S) c) ∧ Srt idA L S ∧ OwnNd 77 w' w.heap.size (.slice A S.length c) S ∧ (0 < S.length → ∃ a, A = some a) ∧ Below w.heap.size w w'
theorem ordOwn_of {L S : List Nd} {w w' : World} {e : Ending} (h : RowOwn S w e w') (hs : Srt idA L S) : OrdOwn L w e w' := by
  obtain ⟨v, rfl, ho, hb⟩ := h
  have hn := ownNd_nodes ho
  obtain ⟨A, c, rfl, _, _, _, hat⟩ := hn
  exact ⟨S, A, c, rfl, hs, ho, fun h0 => by obtain ⟨b, o, e, _⟩ := hat h0; exact ⟨_, e⟩, hb⟩
theorem nodes_cut {w : World} {a : Addr} {n c k : Nat} {L : List Nd} (h : NodesAt w (.slice (some a) n c) L) (hk : k ≤ n) :
    NodesAt w (.slice (some a) k c) (L.take k) ∧ NodesAt w (.slice (some (advA a c k 2)) (n - k) (c - k)) (L.drop k) := by
  obtain ⟨hl, hlc, hcm, hat⟩ := nodes_cells h
  refine ⟨⟨_, c, by rw [List.length_take, Nat.min_eq_left (by omega)], by rw [List.length_take]; omega, hcm, fun e => by simp at e, hat.take⟩, ⟨_, c - k, by rw [List.length_drop, hl], by rw [List.length_drop]; omega, by omega, fun e => by simp at e, hat.adv hlc⟩⟩
set_option maxHeartbeats 3200000 in
set_option maxRecDepth 100000 in
theorem inOrder_own (k : Nat) : ∀ (A : Option Addr) (n c : Nat) (L : List Nd) (w : World), n ≤ k → NodesAt w (.slice A n c) L → n ≤ 1000000 →
    Calls Tryz.prog 214 #[.slice A n c, .func (.func 215) #[] #[]] w (OrdOwn L w) := by
  induction k with
  | zero =>
    intro A n c L w hk h hn
    have HN := Lib.hid h
    have hs := Lib.hid (Srt.small idA (L := L) (by rw [← (nodes_cells h).1]; omega))
    clear h
    go_enter Tryz.func214, Tryz.ntmps214
    go_wp2_with (go_at_call 221; refine (cloneNd_own _ _ _ _ _ HN.out hn).mono ?_; rintro e w1 ⟨v, rfl, hv, hb⟩)
    go_ret
    exact ordOwn_of ⟨v, rfl, hv, hb⟩ hs.out
  | succ k ih =>
    intro A n c L w hk h hn
    have HN := Lib.hid h
    by_cases h2 : n < 2
    · have hs := Lib.hid (Srt.small idA (L := L) (by rw [← (nodes_cells h).1]; omega))
      clear h ih
      go_enter Tryz.func214, Tryz.ntmps214
      go_wp2_with (go_at_call 221; refine (cloneNd_own _ _ _ _ _ HN.out hn).mono ?_; rintro e w1 ⟨v, rfl, hv, hb⟩)
      go_ret
      exact ordOwn_of ⟨v, rfl, hv, hb⟩ hs.out
    · obtain ⟨hl, hlc, hcm, hat⟩ := nodes_cells h
      obtain ⟨b, o, rfl, _⟩ := hat (by omega)
      obtain ⟨i0, hi, hz0, hz1, hz2⟩ := info_parts node_info
      have IH := Lib.hid ih
      have hc := Lib.hid (nodes_cut h (k := n / 2) (by omega))
      have e2 : ((n / 2 : Nat) : Int) = (n : Int) / 2 := by omega
      have hsa := sl_to (P := Tryz.prog) Tryz.underlying24 hi hz1 (some ⟨b, o, none⟩) n c (n / 2) (by omega)
      have hsb := sl_from (P := Tryz.prog) Tryz.underlying24 hi hz1 ⟨b, o, none⟩ n c (n / 2) (by omega)
      rw [e2] at hsa hsb
      have l1 : Hid ((L.take (n / 2)).length = n / 2) := by show _ = _; rw [List.length_take]; omega
      have l2 : Hid ((L.drop (n / 2)).length = n - n / 2) := by show _ = _; rw [List.length_drop]; omega
      clear h ih hl hat e2
      have hb0 := Lib.hid (Below.refl w.heap.size w)
      go_enter Tryz.func214, Tryz.ntmps214
      go_wp2_with fail
      go_region_held3 (fun w' => Below w.heap.size w w')
        (first | (exact below_drew _) | (exact Below.trans (by assumption) (Below.mono (by assumption) (Below.size (by assumption)))))
        (first
          | ((with_reducible refine (IH.out _ _ _ _ _ (by omega) (hc.out.1.below (by assumption)) (by omega)).mono ?_); rintro e w1 ⟨S1, A1, c1, rfl, hs1, ho1, hA1, hb1⟩; have hn1 := ownNd_nodes ho1; obtain ⟨a1, rfl⟩ := hA1 (by rw [hs1.len, l1.out]; omega); have z1 : S1.length ≤ 1000000 := by (rw [hs1.len, l1.out]; omega))
          | ((with_reducible refine (IH.out _ _ _ _ _ (by omega) (hc.out.2.below (by assumption)) (by omega)).mono ?_); rintro e w2 ⟨S2, A2, c2, rfl, hs2, ho2, hA2, hb2⟩; have hn2 := ownNd_nodes ho2; obtain ⟨a2, rfl⟩ := hA2 (by rw [hs2.len, l2.out]; omega); have z2 : S2.length ≤ 1000000 := by (rw [hs2.len, l2.out]; omega))
          | (go_at_call 222; refine (merge_own a1 a2 _ _ _ _ S1 S2 _ (by first | exact hn1 | exact hn1.below hb2) (by first | exact hn2 | exact hn2.below hb1) z1 z2).mono ?_; rintro e w3 ⟨v3, rfl, hn3, hb3⟩))
      all_goals
        go_wp2_with fail
        go_ret
        exact ordOwn_of ⟨v3, rfl, own_low hn3 (by first | exact Nat.le_trans (show w.heap.size ≤ w1.heap.size from hb1.size) hb2.size | exact Nat.le_trans (show w.heap.size ≤ w2.heap.size from hb2.size) hb1.size), by assumption⟩ (srt_mrg_cut idA_ahd (n / 2) hs1 hs2)
set_option maxHeartbeats 400000 in
set_option maxRecDepth 100000 in
theorem sorted_own (A : Option Addr) (n c : Nat) (L : List Nd) (w : World) (h : NodesAt w (.slice A n c) L) (hn : n ≤ 1000000) :
    Calls Tryz.prog 199 #[.slice A n c] w (OrdOwn L w) := by
  have H := Lib.hid h
  clear h
  go_enter Tryz.func199, Tryz.ntmps199
  go_wp2_with (go_at_call 214; refine (inOrder_own n _ _ _ _ _ (Nat.le_refl _) H.out hn).mono ?_; rintro e w1 ⟨S1, A1, c1, rfl, hs1, hn1, hA1, hb1⟩)
  go_ret
  exact ⟨S1, A1, c1, rfl, hs1, hn1, hA1, hb1⟩
end Go.Proofs.YtelekchdbiimiaaGreat
namespace Go.Proofs.YtelekchdbiimiaaGreat
set_option linter.unusedVariables false
open Go.RowKit
end Go.Proofs.YtelekchdbiimiaaGreat
namespace Go.Proofs.YtelekchdbiimiaaGreat
set_option linter.unusedVariables false
open Go.RowKit
theorem rIs_any (l : Int) (w : World) (L0 : -9223372036854775808 ≤ l) (L1 : l ≤ 9223372036854775807) :
    Calls Tryz.prog 125 #[.int .i64 l] w fun e w' => e = .returned (.bool (uniB l)) ∧ w = w' := by
  rcases (show l < 1 ∨ (1 ≤ l ∧ 48 < l) ∨ (1 ≤ l ∧ l ≤ 48) by omega) with h | h | h
  · have H := Lib.hid (uni_no (l := l) (by omega))
    go_enter Tryz.func125, Tryz.ntmps125
    go_wp2_with fail
    go_ret
    exact ⟨by rw [H.out]; rfl, rfl⟩
  · have H := Lib.hid (uni_no (l := l) (by omega))
    obtain ⟨h1, h2⟩ := h
    go_enter Tryz.func125, Tryz.ntmps125
    go_wp2_with fail
    go_ret
    exact ⟨ret_b (by rw [H.out]; exact decide_eq_false (by omega)), rfl⟩
  · have H := Lib.hid (uni_yes (l := l) (by omega))
    obtain ⟨h1, h2⟩ := h
    go_enter Tryz.func125, Tryz.ntmps125
    go_wp2_with fail
    go_ret
    exact ⟨by rw [H.out]; rfl, rfl⟩
set_option maxHeartbeats 400000 in
theorem rpower_any (n : Int) (w : World) (h1 : 0 ≤ n) (h2 : n ≤ 62) :
    Calls Tryz.prog 78 #[.int .i64 n] w fun e w' => e = .returned (.int .i64 (2 ^ n.toNat)) ∧ w = w' := by
  go_enter Tryz.func78, Tryz.ntmps78
  go_wp2_with fail
  go_loop [3, 4] (fun nv iv => ∃ (p : Int) (i : Nat), nv = .int .i64 p ∧ iv = .int .i64 i ∧ (i : Int) ≤ n ∧ 1 ≤ p ∧ Hid (p = 2 ^ i)) (fun _ iv => (n - intOf iv).toNat)
  case atStart => exact ⟨1, 0, rfl, rfl, h1, by decide, by show _ = _; rfl⟩
  case round =>
    obtain ⟨p, i, rfl, rfl, i1, p0, HP⟩ := hrel
    by_cases hi : (i : Int) < n
    · have b1 : p ≤ 2305843009213693952 := by rw [HP.out]; exact two_le i 61 (by omega)
      have HN : Hid (2 * p = 2 ^ (i + 1)) := by show _ = _; rw [two_succ, ← HP.out]
      go_wp2_with fail
      go_round
      case rel => exact ⟨2 * p, i + 1, by go_num, by go_num, by omega, by omega, HN.out⟩
      case measure => simp [intOf]; omega
    · have HF : Hid (2 ^ n.toNat = p) := by
        have e2 : i = n.toNat := by omega
        show _ = _; rw [HP.out, e2]
      go_wp2_with fail
      go_ret
      exact ⟨by rw [HF.out]; rfl, rfl⟩
set_option maxHeartbeats 400000 in
theorem rdepth_any (n : Int) (w : World) (N0 : -9223372036854775808 ≤ n) (N1 : n ≤ 9223372036854775807) :
    Calls Tryz.prog 115 #[.int .i64 n] w fun e w' => e = .returned (.tuple #[.int .i64 (logN n), .bool (logB n)]) ∧ w = w' := by
  by_cases h : 1 ≤ n
  · have H := Lib.hid (log_yes h)
    go_enter Tryz.func115, Tryz.ntmps115
    go_wp2_with fail
    go_loop [0, 4] (fun mv ev => ∃ m e : Int, mv = .int .i64 m ∧ ev = .int .i64 e ∧ 1 ≤ m ∧ m ≤ 9223372036854775807 ∧ 0 ≤ e ∧ e ≤ 64 ∧ Hid ((Lib.bitLen n.toNat : Int) = Lib.bitLen m.toNat + e)) (fun mv _ => (intOf mv).toNat)
    case atStart => exact ⟨n, 0, rfl, rfl, h, N1, by decide, by decide, by show _ = _; omega⟩
    case round =>
      obtain ⟨m, e, rfl, rfl, m0, m1, e0, e1, HE⟩ := hrel
      by_cases hm : 1 < m
      · have hf := Lib.bitLen_half m.toNat (by omega) (by omega)
        have hbn := Lib.bitLen_le n.toNat 64 (by omega) (by omega)
        have e2 : (m / 2).toNat = m.toNat / 2 := by omega
        have HN : Hid ((Lib.bitLen n.toNat : Int) = Lib.bitLen (m / 2).toNat + (e + 1)) := by
          have := HE.out; show _ = _; rw [e2]; omega
        have e3 : e + 1 ≤ 64 := by have := HE.out; omega
        clear hf e2 hbn
        go_wp2_with fail
        go_round
        case rel => exact ⟨m / 2, e + 1, rfl, rfl, by omega, by omega, by omega, by omega, HN.out⟩
        case measure => simp [intOf]; omega
      · have hm1 : m = 1 := by omega
        have HF : Hid (logN n = e ∧ logB n = true) := by
          have := HE.out; rw [hm1] at this
          have h1 : Lib.bitLen (1 : Int).toNat = 1 := by decide
          rw [h1] at this
          exact ⟨by rw [H.out.1]; omega, H.out.2⟩
        clear hm1
        go_wp2_with fail
        go_ret2
        exact ⟨by rw [HF.out.1, HF.out.2]; rfl, rfl⟩
  · have H := Lib.hid (log_no h)
    go_enter Tryz.func115, Tryz.ntmps115
    go_wp2_with fail
    go_ret2
    exact ⟨by rw [H.out.1, H.out.2]; rfl, rfl⟩
set_option maxHeartbeats 800000 in
theorem rright_any (l id : Int) (w : World) (L0 : -9223372036854775808 ≤ l) (L1 : l ≤ 9223372036854775807) (N0 : -9223372036854775808 ≤ id) (N1 : id ≤ 9223372036854775807) :
    Calls Tryz.prog 114 #[.int .i64 l, .int .i64 id] w fun e w' => e = .returned (.bool (rightB l id)) ∧ w = w' := by
  rcases (show ¬ (1 ≤ l ∧ l ≤ 48) ∨ ((1 ≤ l ∧ l ≤ 48) ∧ ¬ 1 ≤ id) ∨ ((1 ≤ l ∧ l ≤ 48) ∧ 1 ≤ id ∧ l < logN id) ∨ ((1 ≤ l ∧ l ≤ 48) ∧ 1 ≤ id ∧ logN id ≤ l) by omega) with h | h | h | h
  · have H := Lib.hid (right_no (l := l) (id := id) (by unfold RightC; omega))
    have hu := uni_no h
    clear h
    go_enter Tryz.func114, Tryz.ntmps114
    go_wp2_with (first | (go_at_call 115; refine (rdepth_any _ _ (by omega) (by omega)).mono ?_; rintro e w1 ⟨rfl, rfl⟩) | (go_at_call 125; refine (rIs_any _ _ (by omega) (by omega)).mono ?_; rintro e w1 ⟨rfl, rfl⟩))
    go_ret
    exact ⟨by rw [H.out]; rfl, rfl⟩
  · have H := Lib.hid (right_no (l := l) (id := id) (by unfold RightC; omega))
    have hu := uni_yes h.1
    have hb := (log_no h.2).2
    clear h
    go_enter Tryz.func114, Tryz.ntmps114
    go_wp2_with (first | (go_at_call 115; refine (rdepth_any _ _ (by omega) (by omega)).mono ?_; rintro e w1 ⟨rfl, rfl⟩) | (go_at_call 125; refine (rIs_any _ _ (by omega) (by omega)).mono ?_; rintro e w1 ⟨rfl, rfl⟩))
    go_ret
    exact ⟨by rw [H.out]; rfl, rfl⟩
  · have H := Lib.hid (right_no (l := l) (id := id) (by unfold RightC; omega))
    have hu := uni_yes h.1
    have hb := (log_yes h.2.1).2
    have hd := h.2.2
    clear h
    go_enter Tryz.func114, Tryz.ntmps114
    go_wp2_with (first | (go_at_call 115; refine (rdepth_any _ _ (by omega) (by omega)).mono ?_; rintro e w1 ⟨rfl, rfl⟩) | (go_at_call 125; refine (rIs_any _ _ (by omega) (by omega)).mono ?_; rintro e w1 ⟨rfl, rfl⟩))
    go_ret
    exact ⟨ret_b (by rw [H.out]; exact decide_eq_false (by omega)), rfl⟩
  · have H := Lib.hid (right_yes (l := l) (id := id) (by unfold RightC; omega))
    have hu := uni_yes h.1
    have hb := (log_yes h.2.1).2
    have hd := h.2.2
    clear h
    go_enter Tryz.func114, Tryz.ntmps114
    go_wp2_with (first | (go_at_call 115; refine (rdepth_any _ _ (by omega) (by omega)).mono ?_; rintro e w1 ⟨rfl, rfl⟩) | (go_at_call 125; refine (rIs_any _ _ (by omega) (by omega)).mono ?_; rintro e w1 ⟨rfl, rfl⟩))
    go_ret
    exact ⟨by rw [H.out]; rfl, rfl⟩
set_option maxHeartbeats 1600000 in
theorem rends_any (l id : Int) (w : World) (L0 : -9223372036854775808 ≤ l) (L1 : l ≤ 9223372036854775807) (N0 : -9223372036854775808 ≤ id) (N1 : id ≤ 9223372036854775807) :
    Calls Tryz.prog 69 #[.int .i64 l, .int .i64 id] w fun e w' => e = .returned (.tuple #[.int .i64 (loN l id), .int .i64 (hiN l id), .bool (endB l id)]) ∧ w = w' := by
  by_cases h : RightC l id
  · have H := Lib.hid (end_yes h)
    have hu := right_yes h
    have hl := log_bd N1
    have HR := Lib.hid (right_dep h N1)
    obtain ⟨h1, h2, h3, h4⟩ := h
    have b1 : (2 : Int) ^ l.toNat ≤ 281474976710656 := two_le l.toNat 48 (by omega)
    have b0 : (0 : Int) < 2 ^ l.toNat := two_pos _
    go_enter Tryz.func69, Tryz.ntmps69
    go_wp2_with (first | (go_at_call 115; refine (rdepth_any _ _ (by omega) (by omega)).mono ?_; rintro e w1 ⟨rfl, rfl⟩) | (go_at_call 114; refine (rright_any _ _ _ (by omega) (by omega) (by omega) (by omega)).mono ?_; rintro e w1 ⟨rfl, rfl⟩))
    go_loop [7, 8, 9] (fun lv hv dv => ∃ (x y : Int) (i : Nat), lv = .int .i64 x ∧ hv = .int .i64 y ∧ dv = .int .i64 (logN id + i) ∧ logN id + i ≤ l ∧ 0 ≤ x ∧ x ≤ y ∧ y ≤ 562949953421312 ∧ Hid (x = id * 2 ^ i ∧ y = id * 2 ^ i + 2 ^ i - 1)) (fun _ _ dv => (l - intOf dv).toNat)
    case atStart => exact ⟨id, id, 0, rfl, rfl, by simp, by omega, by omega, by omega, by obtain ⟨k, j, _, _, hkj, _, hd, _⟩ := HR.out; have := two_le k 48 (by omega); have := hd.2; omega, by simp, by simp⟩
    case round =>
      obtain ⟨x, y, i, rfl, rfl, rfl, hi, x0, x1, y1, HX⟩ := hrel
      by_cases hlt : logN id + i < l
      · have HN : Hid ((2 * x = id * 2 ^ (i + 1) ∧ 2 * y + 1 = id * 2 ^ (i + 1) + 2 ^ (i + 1) - 1) ∧ 2 * y + 1 ≤ 562949953421312) := by
          obtain ⟨ex, ey⟩ := HX.out
          have e1 : id * 2 ^ (i + 1) = 2 * (id * 2 ^ i) := by rw [two_succ, Int.mul_left_comm]
          refine ⟨⟨by rw [e1, ← ex], by rw [e1, two_succ]; omega⟩, ?_⟩
          obtain ⟨k, j, ek, el, hkj, _, hd, _⟩ := HR.out
          have g1 := Int.mul_le_mul_of_nonneg_right (show id + 1 ≤ 2 * 2 ^ k by have := hd.2; omega) (Int.le_of_lt (two_pos (i + 1)))
          rw [Int.add_mul, Int.mul_assoc, ← two_add, e1] at g1
          have := two_le (k + (i + 1)) 48 (by omega)
          omega
        have hy2 := HN.out.2
        go_wp2_with fail
        go_round
        case rel => exact ⟨2 * x, 2 * y + 1, i + 1, rfl, rfl, by go_num, by omega, by omega, by omega, hy2, HN.out.1⟩
        case measure => simp [intOf]; omega
      · have HF : Hid (loN l id = x - 2 ^ l.toNat ∧ hiN l id = y - 2 ^ l.toNat ∧ endB l id = true) := by
          obtain ⟨ex, ey⟩ := HX.out
          have e : wid l id = 2 ^ i := by unfold wid; congr 1; omega
          have hh := H.out
          rw [e] at hh
          exact ⟨by omega, by omega, hh.2.2⟩
        go_wp2_with (go_at_call 78; refine (rpower_any _ _ (by omega) (by omega)).mono ?_; rintro e w1 ⟨rfl, rfl⟩)
        go_ret3
        exact ⟨by rw [HF.out.1, HF.out.2.1, HF.out.2.2]; rfl, rfl⟩
  · have H := Lib.hid (end_no h)
    have hu := right_no h
    clear h
    go_enter Tryz.func69, Tryz.ntmps69
    go_wp2_with (go_at_call 114; refine (rright_any _ _ _ (by omega) (by omega) (by omega) (by omega)).mono ?_; rintro e w1 ⟨rfl, rfl⟩)
    go_ret3
    exact ⟨by rw [H.out.1, H.out.2.1, H.out.2.2]; rfl, rfl⟩
set_option maxHeartbeats 400000 in
theorem rkids_any (l id : Int) (w : World) (L0 : -9223372036854775808 ≤ l) (L1 : l ≤ 9223372036854775807) (N0 : -9223372036854775808 ≤ id) (N1 : id ≤ 9223372036854775807) :
    Calls Tryz.prog 126 #[.int .i64 l, .int .i64 id] w fun e w' => e = .returned (.tuple #[.int .i64 (kidN l id), .int .i64 (kid2N l id), .bool (kidB l id)]) ∧ w = w' := by
  by_cases h : RightC l id
  · have hu := right_yes h
    by_cases h2 : logN id = l
    · have H := Lib.hid (kid_no (l := l) (id := id) (fun g => g.2 ⟨h.1, h.2.1, h.2.2.1, h2⟩))
      have hd : (logN id == l) = true := by simpa using h2
      clear h h2
      go_enter Tryz.func126, Tryz.ntmps126
      go_wp2_with (first | (go_at_call 115; refine (rdepth_any _ _ (by omega) (by omega)).mono ?_; rintro e w1 ⟨rfl, rfl⟩) | (go_at_call 114; refine (rright_any _ _ _ (by omega) (by omega) (by omega) (by omega)).mono ?_; rintro e w1 ⟨rfl, rfl⟩))
      go_ret3
      exact ⟨by rw [H.out.1, H.out.2.1, H.out.2.2]; rfl, rfl⟩
    · have H := Lib.hid (kid_yes (l := l) (id := id) ⟨h, fun g => h2 g.2.2.2⟩)
      have hd : (logN id == l) = false := by simpa using h2
      have hk := right_id h N1
      have hk0 := h.2.2.1
      clear h h2
      go_enter Tryz.func126, Tryz.ntmps126
      go_wp2_with (first | (go_at_call 115; refine (rdepth_any _ _ (by omega) (by omega)).mono ?_; rintro e w1 ⟨rfl, rfl⟩) | (go_at_call 114; refine (rright_any _ _ _ (by omega) (by omega) (by omega) (by omega)).mono ?_; rintro e w1 ⟨rfl, rfl⟩))
      go_ret3
      exact ⟨by rw [H.out.1, H.out.2.1, H.out.2.2]; rfl, rfl⟩
  · have hu := right_no h
    have H := Lib.hid (kid_no (l := l) (id := id) (fun g => h g.1))
    clear h
    go_enter Tryz.func126, Tryz.ntmps126
    go_wp2_with (first | (go_at_call 115; refine (rdepth_any _ _ (by omega) (by omega)).mono ?_; rintro e w1 ⟨rfl, rfl⟩) | (go_at_call 114; refine (rright_any _ _ _ (by omega) (by omega) (by omega) (by omega)).mono ?_; rintro e w1 ⟨rfl, rfl⟩))
    go_ret3
    exact ⟨by rw [H.out.1, H.out.2.1, H.out.2.2]; rfl, rfl⟩
end Go.Proofs.YtelekchdbiimiaaGreat
namespace Go.Proofs.YtelekchdbiimiaaGreat
set_option linter.unusedVariables false
open Go.RowKit
set_option maxHeartbeats 1600000 in
theorem rTotal_any (A : Option Addr) (n c : Nat) (L : List Nd) (w : World) (h : NodesAt w (.slice A n c) L) (hB : NBds L) (hn : n ≤ 1000000) :
    Calls Tryz.prog 124 #[.slice A n c] w (TotPost L w) := by
  obtain ⟨hlen, hlc, hcm, hat⟩ := nodes_cells h
  have HL := Lib.hid hlen
  have HA := Lib.hid hat
  have HB := Lib.hid hB
  clear hlen hat hB h hlc hcm
  go_enter Tryz.func124, Tryz.ntmps124
  go_wp2_with fail
  go_loop [4, 5] (fun t i => ∃ k : Nat, k ≤ n ∧ i = .int .i64 k ∧ t = .int .i64 (sumC (L.take k)) ∧ TotC (L.take k)) (fun _ i => n - (intOf i).toNat)
  case atStart => exact ⟨0, by omega, rfl, rfl, tot_nil⟩
  case round =>
    obtain ⟨k, hk, rfl, rfl, htot⟩ := hrel
    have TC := Lib.hid htot
    have t0 : 0 ≤ sumC (L.take k) := sumC_nonneg htot.1
    have t1 : sumC (L.take k) ≤ 72057594037927935 := htot.2
    clear htot
    by_cases hlt : k < n
    · have hk2 : k < L.length := by have := HL.out; omega
      obtain ⟨b, o, rfl, hin⟩ := HA.out (by omega)
      obtain ⟨e0, e1⟩ := hin.2 k hk2
      have hbd := nbds_at HB.out hk2
      obtain ⟨⟨b0, b1⟩, b2, b3⟩ := hbd
      have hst := Lib.hid (fun q0 q1 => tot_step hk2 TC.out q0 q1)
      have hno := Lib.hid (fun q => tot_stop (L := L) hk2 q)
      clear hin
      generalize L.getD k nz = r at *
      obtain ⟨id, x⟩ := r
      simp only at e0 e1 b0 b1 b2 b3
      generalize hT : sumC (L.take k) = T at *
      have HT := Lib.hid hT
      clear hT
      by_cases q0 : x < 0
      · have NO := Lib.hid (tot_no (hno.out (.inl q0)))
        clear hst hno
        go_wp2_with fail
        go_ret2
        exact tot_post NO.out (Below.refl ..)
      · by_cases q1 : 72057594037927935 - T < x
        · have NO := Lib.hid (tot_no (hno.out (.inr (by show _ < T + x; omega))))
          clear hst hno
          go_wp2_with fail
          go_ret2
          exact tot_post NO.out (Below.refl ..)
        · have ST := Lib.hid (hst.out (by omega) (by omega))
          clear hst hno
          go_wp2_with fail
          go_round
          case rel => exact ⟨k + 1, by omega, by go_num, by rw [ST.out.2], ST.out.1⟩
          case measure => simp [intOf]; omega
    · have hd : Hid (L.take k = L) := List.take_of_length_le (by have := HL.out; omega)
      have YES := Lib.hid (tot_yes (L := L) (by have q := TC.out; rw [hd] at q; exact q))
      go_wp2_with fail
      go_ret2
      exact tot_post ⟨by rw [YES.out.1, hd], YES.out.2⟩ (Below.refl ..)
set_option maxHeartbeats 3200000 in
theorem rRight_any (l : Int) (A : Option Addr) (n c : Nat) (L : List Nd) (w : World) (h : NodesAt w (.slice A n c) L) (hB : NBds L) (hn : n ≤ 1000000) (L0 : -9223372036854775808 ≤ l) (L1 : l ≤ 9223372036854775807) :
    Calls Tryz.prog 87 #[.int .i64 l, .slice A n c] w (RightPost l L w) := by
  have HN := Lib.hid h
  obtain ⟨hlen, hlc, hcm, hat⟩ := nodes_cells h
  have HL := Lib.hid hlen
  have HA := Lib.hid hat
  have HB := Lib.hid hB
  clear hlen hat hB h hlc hcm
  go_enter Tryz.func87, Tryz.ntmps87
  go_wp2_with fail
  go_loopw [5] (fun i wr => ∃ (k q : Nat), k ≤ n ∧ i = .int .i64 k ∧ RInv l L k ∧ wr = w.drewN q) (fun i _ => n - (intOf i).toNat)
  case atStart => exact ⟨0, 0, by omega, rfl, rinv_zero l L, rfl⟩
  case round =>
    rename_i wr
    obtain ⟨k, q, hk, rfl, hinv, hw⟩ := hrel
    have INV := Lib.hid hinv
    have hcw : Hid (∀ a, wr.cell? a = w.cell? a) := fun a => by rw [hw]; rfl
    have hbw : Below w.heap.size w wr := by rw [hw]; exact drewN_below (Below.refl ..) _
    have HW := Lib.hid hw
    clear hinv hw
    by_cases hlt : k < n
    · have hk2 : k < L.length := by have := HL.out; omega
      obtain ⟨b, o, rfl, hin⟩ := HA.out (by omega)
      have e0 := (hcw.out _).trans (hin.2 k hk2).1
      have e1 := (hcw.out _).trans (hin.2 k hk2).2
      have hbd := nbds_at HB.out hk2
      obtain ⟨⟨b0, b1⟩, b2, b3⟩ := hbd
      have hst := Lib.hid (fun q0 q1 q2 => rinv_step hk2 INV.out q0 q1 q2)
      have hno := Lib.hid (fun q => rinv_stop (l := l) (L := L) hk2 q)
      have hla : k = 0 ∨ ∃ j, k = j + 1 ∧ wr.cell? ⟨b, o + j * 2, none⟩ = some (.int .i64 (lastN L k)) := by
        cases k with
        | zero => exact .inl rfl
        | succ j => exact .inr ⟨j, rfl, (hcw.out _).trans (hin.2 j (by omega)).1⟩
      have hlz : Hid (k = 0 → lastN L k = 0) := fun e => by subst e; rfl
      have hi0 : (0 : Int) ≤ (k : Int) := Int.natCast_nonneg _
      have hi1 : (k : Int) < (n : Int) := by omega
      clear hin
      generalize L.getD k nz = r at *
      obtain ⟨id, x⟩ := r
      simp only at e0 e1 b0 b1 b2 b3
      generalize lastN L k = T at *
      cases q2 : rightB l id
      · have NO := Lib.hid (roll_no (hno.out (.inr (.inr q2))))
        clear hno hst hla
        go_wp2_with fail
        go_quiet ((go_at_call 114; exact Calls.quiet_of_same ((rright_any _ _ _ L0 L1 b0 b1).mono fun _ _ ⟨a, b⟩ => ⟨a, b.symm⟩)))
        go_wp2_with fail
        go_ret
        exact right_post NO.out (drewN_below hbw _)
      · by_cases q1 : x < 1
        · have NO := Lib.hid (roll_no (hno.out (.inr (.inl q1))))
          have q1' : decide (x < 1) = true := by simpa using q1
          clear hno hst hla
          go_wp2_with fail
          go_quiet ((go_at_call 114; exact Calls.quiet_of_same ((rright_any _ _ _ L0 L1 b0 b1).mono fun _ _ ⟨a, b⟩ => ⟨a, b.symm⟩)))
          go_wp2_with fail
          go_ret
          exact right_post NO.out (drewN_below hbw _)
        · have q1' : decide (x < 1) = false := by simpa using q1
          rcases hla with rfl | ⟨j, hj, e2⟩
          · simp only [Nat.zero_mul, Nat.add_zero] at e0 e1
            have ST := Lib.hid (hst.out (by have := hlz.out rfl; have := right_pos q2; show T < id; omega) (by show 1 ≤ x; omega) q2)
            clear hno hst
            go_wp2_with fail
            go_quiet ((go_at_call 114; exact Calls.quiet_of_same ((rright_any _ _ _ L0 L1 b0 b1).mono fun _ _ ⟨a, b⟩ => ⟨a, b.symm⟩)))
            go_wp2_with fail
            go_roundw
            case rel => exact ⟨1, _, by omega, by go_num, ST.out, by rw [HW.out, World.drewN_drewN]⟩
            case measure => simp [intOf]; omega
          · have hj1 : (k : Int) - 1 = (j : Int) := by omega
            have hk0 : 0 < k := by omega
            have hjn : (j : Int) < (n : Int) := by omega
            have hj0 : (0 : Int) ≤ (j : Int) := Int.natCast_nonneg _
            have w1 : IntKind.i64.wrap ((k : Int) - 1) = (j : Int) := by rw [IntWalk.i64_in _ (by omega)]; exact hj1
            clear hj hlz
            by_cases q0 : id ≤ T
            · have NO := Lib.hid (roll_no (hno.out (.inl q0)))
              have q0' : decide (id ≤ T) = true := by simpa using q0
              clear hno hst hj1
              go_wp2_with fail
              go_quiet ((go_at_call 114; exact Calls.quiet_of_same ((rright_any _ _ _ L0 L1 b0 b1).mono fun _ _ ⟨a, b⟩ => ⟨a, b.symm⟩)))
              go_wp2_with fail
              go_ret
              exact right_post NO.out (drewN_below hbw _)
            · have ST := Lib.hid (hst.out (by show T < id; omega) (by show 1 ≤ x; omega) q2)
              have q0' : decide (id ≤ T) = false := by simpa using q0
              clear hno hst hj1
              go_wp2_with fail
              go_quiet ((go_at_call 114; exact Calls.quiet_of_same ((rright_any _ _ _ L0 L1 b0 b1).mono fun _ _ ⟨a, b⟩ => ⟨a, b.symm⟩)))
              clear w1
              go_wp2_with fail
              go_roundw
              case rel => exact ⟨k + 1, _, by omega, by go_num, ST.out, by rw [HW.out, World.drewN_drewN]⟩
              case measure => simp [intOf]; omega
    · have INV2 := Lib.hid (show RInv l L L.length from by have q := INV.out; rwa [show k = L.length by have := HL.out; omega] at q)
      have HN2 := Lib.hid (HN.out.below hbw)
      have hsz := hbw.size
      cases ht : totB L
      · go_wp2_with (go_at_call 124; refine (rTotal_any _ _ _ _ _ HN2.out HB.out hn).mono ?_; rintro e w1 ⟨rfl, hb1⟩)
        go_ret
        exact right_post (by rw [roll_ends INV2.out _ _ rfl rfl, ht]; rfl) (hbw.trans (hb1.mono hsz))
      · go_wp2_with (first | (go_at_call 124; refine (rTotal_any _ _ _ _ _ HN2.out HB.out hn).mono ?_; rintro e w1 ⟨rfl, hb1⟩) | (go_at_call 125; refine (rIs_any _ _ L0 L1).mono ?_; rintro e w1 ⟨rfl, rfl⟩))
        go_ret
        exact right_post (by rw [roll_ends INV2.out _ _ rfl rfl, ht]; rfl) (hbw.trans (hb1.mono hsz))
end Go.Proofs.YtelekchdbiimiaaGreat
namespace Go.Proofs.YtelekchdbiimiaaGreat
set_option linter.unusedVariables false
open Go.RowKit
end Go.Proofs.YtelekchdbiimiaaGreat
namespace Go.Proofs.YtelekchdbiimiaaGreat
set_option linter.unusedVariables false
open Go.RowKit
end Go.Proofs.YtelekchdbiimiaaGreat
namespace Go.Proofs.YtelekchdbiimiaaGreat
set_option linter.unusedVariables false
open Go.RowKit
/-- make of n elements: the cells stand for themselves -/
theorem make_all {P : Program} {t e : TypeId} {i : TypeInfo} {z : Value} (ht : P.underlying t = some (.slice e)) (hi : P.info? e = some i) (hz : i.zero = some z) {size bytes : Nat} (hs : i.size = size) (hb : i.bytes = bytes)
    (n k : Nat) (hk : n * size = k) (m : Int) (hm : m = (n : Int)) (hbytes : bytes * n ≤ 281474976710656) (h63 : n ≤ 9223372036854775807) (w : World) :
    (Instr.makeSlice t (.int .i64 m) (.int .i64 m)).run P w = .ok (.slice (some ⟨w.heap.size, 0, none⟩) n n) (w.alloc (.cells (blank z k) e)) := by
  subst hm hk
  have hbi : (i.bytes : Int) * (n : Int) ≤ 281474976710656 := by
    have h : ((bytes * n : Nat) : Int) ≤ 281474976710656 := by omega
    rw [hb]; rwa [Int.natCast_mul] at h
  have h := run_make (P := P) w t e i z ht hi hz .i64 .i64 n n (by omega) (Int.le_refl _) hbi (by omega)
  simp only [Int.toNat_natCast, hs] at h
  exact h
theorem blank_ints (n : Nat) : (blank (.int .i64 0) n).toList = ints (List.replicate n 0) := by
  have h : (Value.int .i64 0).cells = #[.int .i64 0] := rfl
  unfold blank
  rw [h, toList_madeCells_one]
  simp [ints]
/-- a store that was made just now -/
theorem ds_new {TD TI : TypeId} {w : World} {l : Int} (h16 : l ≤ 16) :
    DsAt TD TI ((w.alloc (.cells (blank (.int .i64 0) (plcN l)) TI)).alloc (.cells #[.int .i64 l, .int .i64 0, .int .i64 0, .slice (some ⟨w.heap.size, 0, none⟩) (plcN l) (plcN l)] TD)) w.heap.size (w.heap.size + 1) w.heap.size l [] := by
  have hp := plc_bd h16
  have a := World.ownsRow_lit (base := w.heap.size) (e := TI) (size := 1) w (blank (.int .i64 0) (plcN l)) (plcN l) (Nat.le_refl _) (by unfold maxLen; omega) (by rw [blank_size]; omega)
  have hs : (w.alloc (.cells (blank (.int .i64 0) (plcN l)) TI)).heap.size = w.heap.size + 1 := by simp
  have b := World.ownsRow_lit (base := w.heap.size) (e := TD) (size := 4) (w.alloc (.cells (blank (.int .i64 0) (plcN l)) TI)) #[.int .i64 l, .int .i64 0, .int .i64 0, .slice (some ⟨w.heap.size, 0, none⟩) (plcN l) (plcN l)] 1 (by omega) (by unfold maxLen; omega) rfl
  rw [hs] at b
  refine ⟨b, ?_, by omega⟩
  rw [tab_nil, ← blank_ints]
  exact a.alloc _
theorem dint_info : (Tryz.prog.info? 3).map (fun i => (i.zero, i.size, i.bytes)) = some (some (.int .i64 0), 1, 8) := by kernel_rfl
set_option maxHeartbeats 800000 in
theorem dsNew_no (l : Int) (w : World) (h : ¬ (1 ≤ l ∧ l ≤ 16)) : Calls Tryz.prog 128 #[.int .i64 l] w fun e w' => e = .returned (.tuple #[.pointer none, .int .i64 2]) ∧ w = w' := by
  by_cases h1 : l < 1
  · go_enter Tryz.func128, Tryz.ntmps128
    go_wp2_with fail
    go_ret2
    exact ⟨rfl, rfl⟩
  · have h2 : 16 < l := by omega
    clear h
    go_enter Tryz.func128, Tryz.ntmps128
    go_wp2_with fail
    go_ret2
    exact ⟨rfl, rfl⟩
set_option maxHeartbeats 800000 in
theorem dsNew_any (l : Int) (w : World) (h1 : 1 ≤ l) (h2 : l ≤ 16) : Calls Tryz.prog 128 #[.int .i64 l] w fun e w' =>
    ∃ g h, e = .returned (.tuple #[.pointer (some ⟨g, 0, none⟩), .int .i64 0]) ∧ DsAt 178 3 w' w.heap.size g h l [] ∧ Below w.heap.size w w' := by
  obtain ⟨i0, hi, hz0, hz1, hz2⟩ := info_parts dint_info
  have hp := plc_bd h2
  have b0 : (0 : Int) < 2 ^ l.toNat := two_pos _
  have b1 : (2 : Int) ^ l.toNat ≤ 65536 := two_le l.toNat 16 (by omega)
  have e3 : Hid ((2 : Int) * 2 ^ l.toNat = (plcN l : Nat)) := by show _ = _; unfold plcN; push_cast; rfl
  have hmk := make_all (P := Tryz.prog) Tryz.underlying91 hi hz0 hz1 hz2 (plcN l) (plcN l) (Nat.mul_one _) _ e3.out (by omega) (by omega)
  have D : Hid _ := ds_new (TD := 178) (TI := 3) (w := w) h2
  clear hi hp
  go_enter Tryz.func128, Tryz.ntmps128
  go_wp2_with fail
  go_ret2
  exact ⟨_, _, rfl, D.out, ((Below.refl _ _).alloc (Nat.le_refl _) _).alloc (by simp) _⟩
theorem dsClone_nil (w : World) : Calls Tryz.prog 81 #[.pointer none] w fun e w' => e = .returned (.pointer none) ∧ w = w' := by
  go_enter Tryz.func81, Tryz.ntmps81
  go_wp2_with fail
  go_ret
  exact ⟨rfl, rfl⟩
abbrev DsA (w : World) (B g h : Nat) (l : Int) (L : List Nd) : Prop := DsAt 178 3 w B g h l L
theorem dsL_any {B g h : Nat} {l : Int} {L : List Nd} (w : World) (d : DsA w B g h l L) : Calls Tryz.prog 143 #[.pointer (some ⟨g, 0, none⟩)] w fun e w' => e = .returned (.int .i64 l) ∧ w = w' := by
  have c0 := d.cells.1
  clear d
  go_enter Tryz.func143, Tryz.ntmps143
  go_wp2_with fail
  go_ret
  exact ⟨rfl, rfl⟩
theorem dsLen_any {B g h : Nat} {l : Int} {L : List Nd} (w : World) (d : DsA w B g h l L) : Calls Tryz.prog 136 #[.pointer (some ⟨g, 0, none⟩)] w fun e w' => e = .returned (.int .i64 (L.length : Int)) ∧ w = w' := by
  have c0 := d.cells.2.1
  clear d
  go_enter Tryz.func136, Tryz.ntmps136
  go_wp2_with fail
  go_ret
  exact ⟨rfl, rfl⟩
theorem dsTotal_any {B g h : Nat} {l : Int} {L : List Nd} (w : World) (d : DsA w B g h l L) : Calls Tryz.prog 85 #[.pointer (some ⟨g, 0, none⟩)] w fun e w' => e = .returned (.int .i64 (sumC L)) ∧ w = w' := by
  have c0 := d.cells.2.2.1
  clear d
  go_enter Tryz.func85, Tryz.ntmps85
  go_wp2_with fail
  go_ret
  exact ⟨rfl, rfl⟩
set_option maxHeartbeats 800000 in
theorem dsGet_any {B g h : Nat} {l : Int} {L : List Nd} (a : Int) (w : World) (d : DsA w B g h l L) (hr : RollC l L) (L1 : l ≤ 16) (A0 : -9223372036854775808 ≤ a) (A1 : a ≤ 9223372036854775807) :
    Calls Tryz.prog 168 #[.pointer (some ⟨g, 0, none⟩), .int .i64 a] w fun e w' => e = .returned (.int .i64 (sumAt a L)) ∧ w = w' := by
  have D : Hid (DsA w B g h l L) := d
  have hu : 1 ≤ l := (of_decide_eq_true hr.1).1
  cases hq : rightB l a
  · have H : Hid (sumAt a L = 0) := sumAt_none fun n hn e => by have := (hr.2.2.1 n hn).1; rw [e, hq] at this; simp at this
    clear d hr
    go_enter Tryz.func168, Tryz.ntmps168
    go_wp2_with (first | (go_at_call 143; refine (dsL_any _ D.out).mono ?_; rintro e w1 ⟨rfl, rfl⟩) | (go_at_call 131; refine (right_any _ _ _ (by omega) (by omega) A0 A1).mono ?_; rintro e w1 ⟨rfl, rfl⟩))
    go_ret
    exact ⟨ret_i (by rw [H.out]), rfl⟩
  · obtain ⟨p0, p1⟩ := right_plc hq
    obtain ⟨k, rfl⟩ := Int.eq_ofNat_of_zero_le (show 0 ≤ a by omega)
    have hk : k < plcN l := by omega
    have c0 := d.place hk
    have c3 := d.cells.2.2.2
    clear d hr
    go_enter Tryz.func168, Tryz.ntmps168
    go_wp2_with (first | (go_at_call 143; refine (dsL_any _ D.out).mono ?_; rintro e w1 ⟨rfl, rfl⟩) | (go_at_call 131; refine (right_any _ _ _ (by omega) (by omega) A0 A1).mono ?_; rintro e w1 ⟨rfl, rfl⟩))
    go_ret
    exact ⟨rfl, rfl⟩
end Go.Proofs.YtelekchdbiimiaaGreat
namespace Go.Proofs.YtelekchdbiimiaaGreat
set_option linter.unusedVariables false
open Go.RowKit
theorem len_le_sum {L : List Nd} (h : Good L) : (L.length : Int) ≤ sumC L := by
  induction L with
  | nil => simp [sumC]
  | cons n L ih =>
    have := ih (nd_tail h)
    have := h.pos n (by simp)
    simp only [List.length_cons, sumC]; omega
theorem sum_bd {l : Int} {L : List Nd} (h : RollC l L) : 0 ≤ (L.length : Int) ∧ (L.length : Int) ≤ sumC L ∧ 0 ≤ sumC L ∧ sumC L ≤ 72057594037927935 :=
  ⟨Int.natCast_nonneg _, len_le_sum (roll_good h), sumC_nonneg h.2.2.2.1, h.2.2.2.2⟩
theorem addW_other {L : List Nd} {k : Nat} {c : Int} : ∀ i : Int, i ≠ (k : Int) → sumAt i (addW L (k : Int) c) = sumAt i L := fun i hi => by
  rw [addW_sum, if_neg (by omega)]; omega
theorem remW_other {L : List Nd} {k : Nat} : ∀ i : Int, i ≠ (k : Int) → sumAt i (remW L (k : Int)) = sumAt i L := fun i hi => by
  rw [rem_sum, if_neg (by omega)]
theorem sumAdd_ok {a b : Int} (w : World) (h : 0 ≤ a ∧ 0 ≤ b ∧ a + b ≤ 9223372036854775807) : Calls Tryz.prog 117 #[.int .i64 a, .int .i64 b] w fun e w' => e = .returned (.tuple #[.int .i64 (a + b), .bool true]) ∧ Below w.heap.size w w' := by
  have q := add_any a b w (by omega) (by omega) (by omega) (by omega)
  rw [(sum_yes h).1, (sum_yes h).2] at q
  exact q
theorem sumAdd_no {a b : Int} (w : World) (h : ¬ (0 ≤ a ∧ 0 ≤ b ∧ a + b ≤ 9223372036854775807)) (A0 : -9223372036854775808 ≤ a) (A1 : a ≤ 9223372036854775807) (B0 : -9223372036854775808 ≤ b) (B1 : b ≤ 9223372036854775807) : Calls Tryz.prog 117 #[.int .i64 a, .int .i64 b] w fun e w' => e = .returned (.tuple #[.int .i64 0, .bool false]) ∧ Below w.heap.size w w' := by
  have q := add_any a b w A0 A1 B0 B1
  rw [(sum_no h).1, (sum_no h).2] at q
  exact q
/-- what a call that may write leaves (178) -/
def DsPost (B g h : Nat) (l : Int) (M : List Nd) (n : Int) (w : World) (e : Ending) (w' : World) : Prop := e = .returned (.int .i64 n) ∧ DsA w' B g h l M ∧ Chg g h w w'
set_option maxHeartbeats 3200000 in
theorem dsAdd_any {B g h : Nat} {l : Int} {L : List Nd} (a b : Int) (w : World) (d : DsA w B g h l L) (hr : RollC l L) (L1 : l ≤ 16) (A0 : -9223372036854775808 ≤ a) (A1 : a ≤ 9223372036854775807) (B0 : -9223372036854775808 ≤ b) (B1 : b ≤ 9223372036854775807) :
    Calls Tryz.prog 134 #[.pointer (some ⟨g, 0, none⟩), .int .i64 a, .int .i64 b] w (DsPost B g h l (addS l L a b) (addE l L a b) w) := by
  have D : Hid (DsA w B g h l L) := d
  have R := Lib.hid hr
  have hu : 1 ≤ l := (of_decide_eq_true hr.1).1
  obtain ⟨n0, n1, s0, s1⟩ := sum_bd hr
  obtain ⟨c0, _, c2, _⟩ := d.cells
  by_cases hb : b < 0
  · have H := Lib.hid (add_arg (l := l) (L := L) (id := a) (c := b) (.inr hb))
    clear d hr
    go_enter Tryz.func134, Tryz.ntmps134
    go_wp2_with (go_at_call 131; refine (right_any _ _ _ (by omega) (by omega) A0 A1).mono ?_; rintro e w1 ⟨rfl, rfl⟩)
    all_goals (go_ret; exact ⟨ret_i (by rw [H.out.1]), by rw [H.out.2]; exact D.out, Chg.refl ..⟩)
  · cases hq : rightB l a
    · have H := Lib.hid (add_arg (l := l) (L := L) (id := a) (c := b) (.inl hq))
      clear d hr
      go_enter Tryz.func134, Tryz.ntmps134
      go_wp2_with (go_at_call 131; refine (right_any _ _ _ (by omega) (by omega) A0 A1).mono ?_; rintro e w1 ⟨rfl, rfl⟩)
      go_ret
      exact ⟨ret_i (by rw [H.out.1]), by rw [H.out.2]; exact D.out, Chg.refl ..⟩
    · obtain ⟨p0, p1⟩ := right_plc hq
      obtain ⟨k, rfl⟩ := Int.eq_ofNat_of_zero_le (show 0 ≤ a by omega)
      have hk : k < plcN l := by omega
      have hkk : (k : Int) < (plcN l : Int) := by omega
      by_cases hf : 72057594037927935 < sumC L + b
      · have H := Lib.hid (add_full hq hb hf)
        by_cases hm : sumC L + b ≤ 9223372036854775807
        · have S := Lib.hid (show 0 ≤ sumC L ∧ 0 ≤ b ∧ sumC L + b ≤ 9223372036854775807 from ⟨s0, by omega, hm⟩)
          clear d hr
          go_enter Tryz.func134, Tryz.ntmps134
          go_wp2_with (first | (go_at_call 131; refine (right_any _ _ _ (by omega) (by omega) A0 A1).mono ?_; rintro e w1 ⟨rfl, rfl⟩) | (go_at_call 117; refine (sumAdd_ok _ S.out).mono ?_; rintro e w1 ⟨rfl, hb1⟩))
          go_ret
          exact ⟨ret_i (by rw [H.out.1]), by rw [H.out.2]; exact D.out.below hb1, Chg.of hb1⟩
        · have S := Lib.hid (show ¬ (0 ≤ sumC L ∧ 0 ≤ b ∧ sumC L + b ≤ 9223372036854775807) from fun q => hm q.2.2)
          clear d hr
          go_enter Tryz.func134, Tryz.ntmps134
          go_wp2_with (first | (go_at_call 131; refine (right_any _ _ _ (by omega) (by omega) A0 A1).mono ?_; rintro e w1 ⟨rfl, rfl⟩) | (go_at_call 117; refine (sumAdd_no _ S.out (by omega) (by omega) B0 B1).mono ?_; rintro e w1 ⟨rfl, hb1⟩))
          go_ret
          exact ⟨ret_i (by rw [H.out.1]), by rw [H.out.2]; exact D.out.below hb1, Chg.of hb1⟩
      · have H := Lib.hid (add_ok hq hb hf)
        have LN : Hid ((sumAt (k : Int) L = 0 ∧ 0 < b → ((addW L (k : Int) b).length : Int) = (L.length : Int) + 1) ∧ (¬ (sumAt (k : Int) L = 0 ∧ 0 < b) → (addW L (k : Int) b).length = L.length)) := by
          have q := addW_len (id := (k : Int)) (c := b) (roll_good hr) (by omega)
          exact ⟨fun g => by rw [if_pos g] at q; exact q, fun g => by rw [if_neg g] at q; omega⟩
        have SM : Hid (sumAt (k : Int) (addW L (k : Int) b) = sumAt (k : Int) L + b) := by
          have q := addW_sum (k : Int) L (k : Int) b
          rw [if_pos rfl] at q; exact q
        have TT := Lib.hid (addW_tot L (k : Int) b)
        have sx := sum_le hr.2.2.2.1 (k : Int)
        have LT := Lib.hid d.lt
        have hgh : ¬ g = h := d.ne
        have hhg : ¬ h = g := fun e => d.ne e.symm
        have FP := Lib.hid (fun w1 (q : DsA w1 B g h l L) => (⟨q.cells, q.free, q.place hk⟩ : (w1.cell? ⟨g, 0, none⟩ = some (.int .i64 l) ∧ w1.cell? ⟨g, 1, none⟩ = some (.int .i64 (L.length : Int)) ∧ w1.cell? ⟨g, 2, none⟩ = some (.int .i64 (sumC L)) ∧ w1.cell? ⟨g, 3, none⟩ = some (.slice (some ⟨h, 0, none⟩) (plcN l) (plcN l))) ∧ (∀ k, w1.frozen? ⟨g, k, none⟩ = false ∧ w1.frozen? ⟨h, k, none⟩ = false) ∧ w1.cell? ⟨h, k, none⟩ = some (.int .i64 (sumAt (k : Int) L))))
        clear d hr
        generalize hx : sumAt (k : Int) L = x at *
        generalize hn : (L.length : Int) = n at *
        generalize hs : sumC L = s at *
        have HX := Lib.hid hx
        have HN := Lib.hid hn
        have HS := Lib.hid hs
        have S := Lib.hid (show 0 ≤ s ∧ 0 ≤ b ∧ s + b ≤ 9223372036854775807 from ⟨s0, by omega, by omega⟩)
        clear hx hn hs
        by_cases hy : x = 0 ∧ 0 < b
        · obtain ⟨hy1, hy2⟩ := hy
          subst hy1
          go_enter Tryz.func134, Tryz.ntmps134
          go_wp2_with (first | (go_at_call 131; refine (right_any _ _ _ (by omega) (by omega) A0 A1).mono ?_; rintro e w1 ⟨rfl, rfl⟩) | (go_at_call 117; refine (sumAdd_ok _ S.out).mono ?_; rintro e w1 ⟨rfl, hb1⟩; obtain ⟨⟨d0, d1, d2, d3⟩, df, dk⟩ := FP.out w1 (D.out.below hb1); have f1 := (df 1).1; have f2 := (df 2).1; have f3 := (df k).2; clear df))
          go_ret
          have e1 : ((addW L (k : Int) b).length : Int) = n + 1 := LN.out.1 ⟨by trivial, hy2⟩
          have e2 : sumAt (k : Int) (addW L (k : Int) b) = b := by have q := SM.out; omega
          have e3 : sumC (addW L (k : Int) b) = s + b := TT.out
          have Q := DsAt.put1 (D.out.below hb1) hk e1 e2 e3 addW_other
          exact ⟨ret_i (by rw [H.out.1]), by rw [H.out.2]; exact Q.1, (Chg.of hb1).trans Q.2⟩
        · have hy' : (x == 0 && decide (0 < b)) = false := by
            rw [Bool.and_eq_false_iff, beq_eq_false_iff_ne, decide_eq_false_iff_not]
            omega
          have HY : Hid (¬ (x = 0 ∧ 0 < b)) := hy
          by_cases hx0 : x = 0
          · subst hx0
            have hb0 : b = 0 := by omega
            subst hb0
            clear hy hy'
            go_enter Tryz.func134, Tryz.ntmps134
            go_wp2_with (first | (go_at_call 131; refine (right_any _ _ _ (by omega) (by omega) A0 A1).mono ?_; rintro e w1 ⟨rfl, rfl⟩) | (go_at_call 117; refine (sumAdd_ok _ S.out).mono ?_; rintro e w1 ⟨rfl, hb1⟩; obtain ⟨⟨d0, d1, d2, d3⟩, df, dk⟩ := FP.out w1 (D.out.below hb1); have f1 := (df 1).1; have f2 := (df 2).1; have f3 := (df k).2; clear df))
            go_ret
            have e1 : (addW L (k : Int) 0).length = L.length := rfl
            have e2 : sumAt (k : Int) (addW L (k : Int) 0) = 0 := HX.out
            have e3 : sumC (addW L (k : Int) 0) = s := by have q := TT.out; omega
            have Q := DsAt.put0 (D.out.below hb1) hk e1 e2 e3 addW_other
            exact ⟨ret_i (by rw [H.out.1]), by rw [H.out.2]; exact Q.1, (Chg.of hb1).trans Q.2⟩
          · have hx0' : (x == 0) = false := by simpa using hx0
            clear hy hy' hx0
            go_enter Tryz.func134, Tryz.ntmps134
            go_wp2_with (first | (go_at_call 131; refine (right_any _ _ _ (by omega) (by omega) A0 A1).mono ?_; rintro e w1 ⟨rfl, rfl⟩) | (go_at_call 117; refine (sumAdd_ok _ S.out).mono ?_; rintro e w1 ⟨rfl, hb1⟩; obtain ⟨⟨d0, d1, d2, d3⟩, df, dk⟩ := FP.out w1 (D.out.below hb1); have f1 := (df 1).1; have f2 := (df 2).1; have f3 := (df k).2; clear df))
            go_ret
            have e1 : (addW L (k : Int) b).length = L.length := LN.out.2 HY.out
            have e2 : sumAt (k : Int) (addW L (k : Int) b) = x + b := SM.out
            have e3 : sumC (addW L (k : Int) b) = s + b := TT.out
            have Q := DsAt.put0 (D.out.below hb1) hk e1 e2 e3 addW_other
            exact ⟨ret_i (by rw [H.out.1]), by rw [H.out.2]; exact Q.1, (Chg.of hb1).trans Q.2⟩
set_option maxHeartbeats 3200000 in
theorem dsTake_any {B g h : Nat} {l : Int} {L : List Nd} (a : Int) (w : World) (d : DsA w B g h l L) (hr : RollC l L) (L1 : l ≤ 16) (A0 : -9223372036854775808 ≤ a) (A1 : a ≤ 9223372036854775807) :
    Calls Tryz.prog 220 #[.pointer (some ⟨g, 0, none⟩), .int .i64 a] w (DsPost B g h l (remW L a) (sumAt a L) w) := by
  have D : Hid (DsA w B g h l L) := d
  have R := Lib.hid hr
  have sx := sum_le hr.2.2.2.1 a
  obtain ⟨n0, n1, s0, s1⟩ := sum_bd hr
  by_cases hx0 : sumAt a L = 0
  · have H := Lib.hid (rem_zero (roll_good hr) hx0)
    have HX := Lib.hid hx0
    clear d hr sx hx0
    go_enter Tryz.func220, Tryz.ntmps220
    go_wp2_with (go_at_call 168; refine (dsGet_any _ _ D.out R.out L1 A0 A1).mono ?_; rw [HX.out]; rintro e w1 ⟨rfl, rfl⟩)
    go_ret
    exact ⟨ret_i (by rw [HX.out]), by rw [H.out]; exact D.out, Chg.refl ..⟩
  · have hq : rightB l a = true := by
      cases q : rightB l a
      · exact absurd (sumAt_none fun n hn e => by have := (hr.2.2.1 n hn).1; rw [e, q] at this; simp at this) hx0
      · rfl
    obtain ⟨p0, p1⟩ := right_plc hq
    obtain ⟨k, rfl⟩ := Int.eq_ofNat_of_zero_le (show 0 ≤ a by omega)
    have hk : k < plcN l := by omega
    have hkk : (k : Int) < (plcN l : Int) := by omega
    have LN : Hid (((remW L (k : Int)).length : Int) = (L.length : Int) - 1) := by
      have q := rem_len (id := (k : Int)) (roll_good hr)
      rw [if_neg hx0] at q; exact q
    have SM : Hid (sumAt (k : Int) (remW L (k : Int)) = 0) := by
      have q := rem_sum (k : Int) L (k : Int)
      rw [if_pos rfl] at q; exact q
    have TT := Lib.hid (rem_tot L (k : Int))
    have hl1 : 1 ≤ (L.length : Int) := by
      rcases (show L.length = 0 ∨ 1 ≤ L.length by omega) with q | q
      · exfalso; rw [List.eq_nil_of_length_eq_zero q] at hx0; exact hx0 rfl
      · omega
    have hgh : ¬ g = h := d.ne
    have hhg : ¬ h = g := fun e => d.ne e.symm
    obtain ⟨⟨d0, d1, d2, d3⟩, df, dk⟩ := (⟨d.cells, d.free, d.place hk⟩ : (w.cell? ⟨g, 0, none⟩ = some (.int .i64 l) ∧ w.cell? ⟨g, 1, none⟩ = some (.int .i64 (L.length : Int)) ∧ w.cell? ⟨g, 2, none⟩ = some (.int .i64 (sumC L)) ∧ w.cell? ⟨g, 3, none⟩ = some (.slice (some ⟨h, 0, none⟩) (plcN l) (plcN l))) ∧ (∀ k, w.frozen? ⟨g, k, none⟩ = false ∧ w.frozen? ⟨h, k, none⟩ = false) ∧ w.cell? ⟨h, k, none⟩ = some (.int .i64 (sumAt (k : Int) L)))
    have f1 := (df 1).1
    have f2 := (df 2).1
    have f3 := (df k).2
    clear d df hr
    generalize hx : sumAt (k : Int) L = x at *
    generalize hn : (L.length : Int) = n at *
    generalize hs : sumC L = s at *
    have HX := Lib.hid hx
    have HN := Lib.hid hn
    have HS := Lib.hid hs
    have hx0' : (x == 0) = false := by simpa using hx0
    have HX0 := Lib.hid hx0
    clear hx hn hs hx0
    go_enter Tryz.func220, Tryz.ntmps220
    go_wp2_with (go_at_call 168; refine (dsGet_any _ _ D.out R.out L1 A0 A1).mono ?_; rw [HX.out]; rintro e w1 ⟨rfl, rfl⟩)
    go_ret
    have e1 : ((remW L (k : Int)).length : Int) = n - 1 := LN.out
    have e2 : sumAt (k : Int) (remW L (k : Int)) = 0 := SM.out
    have e3 : sumC (remW L (k : Int)) = s - x := TT.out
    have Q := DsAt.put2 D.out hk e1 e2 e3 remW_other
    exact ⟨rfl, Q.1, Q.2⟩
end Go.Proofs.YtelekchdbiimiaaGreat
namespace Go.Proofs.YtelekchdbiimiaaGreat
set_option linter.unusedVariables false
open Go.RowKit
theorem roll_snap {l : Int} {L : List Nd} (h : RollC l L) : snapN L (plcN l) = L :=
  snap_all (roll_good h) fun n hn => by have := right_plc (h.2.2.1 n hn).1; omega
theorem roll_len {l : Int} {L : List Nd} (h : RollC l L) : L.length ≤ plcN l := by
  have := snap_len L (plcN l)
  rwa [roll_snap h] at this
/-- .. a row of its own -/
def ListOwn (T : TypeId) (L : List Nd) (w : World) (e : Ending) (w' : World) : Prop := ∃ A m c, e = .returned (.slice A m c) ∧ OwnNd T w' w.heap.size (.slice A m c) L ∧ Below w.heap.size w w'
theorem list_own {T : TypeId} {L : List Nd} {v : Value} {w w' : World} (h : OwnNd T w' w.heap.size v L) (hb : Below w.heap.size w w') : ListOwn T L w (.returned v) w' := by
  have hn := ownNd_nodes h
  obtain ⟨A, c, rfl, _⟩ := hn
  exact ⟨A, L.length, c, rfl, h, hb⟩
theorem splice_all {α : Type} (X Y : List α) (h : X.length = Y.length) : splice X 0 Y = Y := by
  unfold splice
  rw [List.take_zero, List.nil_append, List.drop_of_length_le (by omega), List.append_nil]
theorem own_of_heap {w : World} {B h N : Nat} {TI : TypeId} {ys : List Value} (hb : B ≤ h) (hN : N ≤ maxLen) (hl : ys.length = N) (hg : w.heap[h]? = some (.cells ys.toArray TI (0, 0))) : w.ownsRow B TI 1 (.slice (some ⟨h, 0, none⟩) N N) N ys :=
  ⟨by omega, .inr ⟨h, N, ys.toArray, rfl, hb, hg, Nat.le_refl _, hN, by simp; omega, by simp [← hl]⟩⟩
set_option maxHeartbeats 3200000 in
set_option maxRecDepth 100000 in
theorem dsSnap_own {B g h : Nat} {l : Int} {L : List Nd} (w : World) (d : DsA w B g h l L) (hr : RollC l L) (L1 : l ≤ 16) :
    Calls Tryz.prog 172 #[.pointer (some ⟨g, 0, none⟩)] w (ListOwn 77 L w) := by
  obtain ⟨i0, hi, hz0, hz1, hz2⟩ := info_parts node_info
  have hp := plc_bd L1
  have hll := roll_len hr
  obtain ⟨d0, d1, d2, d3⟩ := d.cells
  have hlt := d.lt
  have PL := Lib.hid (fun k (hk : k < plcN l) => d.place hk)
  have SN := Lib.hid (roll_snap hr)
  have SL := Lib.hid (snap_len L)
  have NN := Lib.hid (sum_le hr.2.2.2.1)
  have S1 := Lib.hid hr.2.2.2.2
  clear d hr d0 d2
  have hmk := make_room (P := Tryz.prog) Tryz.underlying24 hi hz0 hz1 hz2 L.length (by omega) (by omega) w
  generalize plcN l = N at *
  generalize L.length = n at *
  go_enter Tryz.func172, Tryz.ntmps172
  go_wp2_with fail
  clear hmk
  go_loopw [3, 18] (fun v i wr => ∃ k : Nat, k ≤ N ∧ i = .int .i64 k ∧ OwnNd 77 wr w.heap.size v (snapN L k) ∧ Below w.heap.size w wr) (fun _ i _ => N - (intOf i).toNat)
  case atStart => exact ⟨0, by omega, rfl, room_own (Nat.le_refl _) (by unfold maxLen; omega), (Below.refl _ _).alloc (Nat.le_refl _) _⟩
  case round =>
    rename_i wr
    obtain ⟨k, hk, rfl, hown, hb⟩ := hrel
    have HO := Lib.hid hown
    have hsz := hb.size
    clear hown
    by_cases hlt2 : k < N
    · have hbh : h < w.heap.size := hlt.2.2.2
      have e0 := (hb.cell (p := ⟨h, k, none⟩) hbh).trans (PL.out k hlt2)
      have hsl := SL.out k
      have hx0 := (NN.out (k : Int)).1
      have hx1 := (NN.out (k : Int)).2
      have hx2 := S1.out
      have YS := Lib.hid (fun q => snap_yes (L := L) (k := k) q)
      have NS := Lib.hid (fun q => snap_no (L := L) (k := k) q)
      generalize sumAt (k : Int) L = x at *
      by_cases q : 0 < x
      · have Y := Lib.hid (YS.out q)
        have X1 : Hid (x ≤ 9223372036854775807) := by show x ≤ _; omega
        clear YS NS hx1 hx2
        go_wp2_with (at_builtin; refine wpList_append_own _ rfl _ _ 24 rfl w.heap.size 77 i0 (.agg #[.int .i64 0, .int .i64 0]) 2 16 Tryz.underlying24 hi hz0 hz1 hz2 rfl (by decide) _ (snapN L k).length (nods (snapN L k)) rfl (World.ownsRow.alloc HO.out _) ⟨wr.heap.size, 0, none⟩ 1 1 [.int .i64 k, .int .i64 x] rfl rfl (two_new _ _ _ _ _ (by simp)) (two_cell _ _) (by unfold maxLen; omega) (by omega) (by simp; omega) ?_)
        intro v' w3 hown2 hgrow _
        have hb3 : Below w.heap.size w w3 := (hb.alloc (by omega) _).grown hgrow (by simp; omega) (fun g hg => (World.ownsRow.lt HO.out g hg).1)
        have HO2 := Lib.hid (ownNd_snoc hown2)
        clear hown2 hgrow
        go_wp2_with fail
        go_roundw
        case rel => exact ⟨k + 1, by omega, by go_num, by rw [Y.out]; exact HO2.out, hb3⟩
        case measure => simp [intOf]; omega
      · have Y := Lib.hid (NS.out q)
        clear YS NS
        go_wp2_with fail
        go_roundw
        case rel => exact ⟨k + 1, by omega, by go_num, by rw [Y.out]; exact HO.out, hb⟩
        case measure => simp [intOf]; omega
    · have hkn : k = N := by omega
      subst hkn
      have HO2 := Lib.hid (show OwnNd 77 wr w.heap.size _ L from by have q := HO.out; rw [SN.out] at q; exact q)
      go_wp2_with fail
      go_ret
      exact list_own HO2.out hb
theorem clone_facts {TD TI : TypeId} {B g h N : Nat} {l : Int} {L : List Nd} {w : World} {a b c : Value} (h3 : w.cell? ⟨g, 3, none⟩ = some (.slice (some ⟨h, 0, none⟩) N N)) (hg : g < w.heap.size) (hh : h < w.heap.size) :
    ((w.alloc (.cells #[a, b, c, .slice (some ⟨w.heap.size + 1, 0, none⟩) N N] TD)).alloc (.cells (blank (.int .i64 0) N) TI)).cell? ⟨w.heap.size, 3, none⟩ = some (.slice (some ⟨w.heap.size + 1, 0, none⟩) N N) ∧
    ((w.alloc (.cells #[a, b, c, .slice (some ⟨w.heap.size + 1, 0, none⟩) N N] TD)).alloc (.cells (blank (.int .i64 0) N) TI)).cell? ⟨g, 3, none⟩ = some (.slice (some ⟨h, 0, none⟩) N N) ∧
    ((w.alloc (.cells #[a, b, c, .slice (some ⟨w.heap.size + 1, 0, none⟩) N N] TD)).alloc (.cells (blank (.int .i64 0) N) TI)).heap[w.heap.size + 1]? = some (.cells (blank (.int .i64 0) N) TI (0, 0)) ∧
    Below w.heap.size w ((w.alloc (.cells #[a, b, c, .slice (some ⟨w.heap.size + 1, 0, none⟩) N N] TD)).alloc (.cells (blank (.int .i64 0) N) TI)) ∧
    ((w.alloc (.cells #[a, b, c, .slice (some ⟨w.heap.size + 1, 0, none⟩) N N] TD)).alloc (.cells (blank (.int .i64 0) N) TI)).ownsRow w.heap.size TD 4 (.slice (some ⟨w.heap.size, 0, none⟩) 1 1) 1 [a, b, c, .slice (some ⟨w.heap.size + 1, 0, none⟩) N N] ∧
    ((w.alloc (.cells #[a, b, c, .slice (some ⟨w.heap.size + 1, 0, none⟩) N N] TD)).alloc (.cells (blank (.int .i64 0) N) TI)).heap.size = w.heap.size + 2 := by
  have o := World.ownsRow_lit (base := w.heap.size) (e := TD) (size := 4) w #[a, b, c, .slice (some ⟨w.heap.size + 1, 0, none⟩) N N] 1 (Nat.le_refl _) (by unfold maxLen; omega) rfl
  have o2 := o.alloc (.cells (blank (.int .i64 0) N) TI)
  have hb : Below w.heap.size w ((w.alloc (.cells #[a, b, c, .slice (some ⟨w.heap.size + 1, 0, none⟩) N N] TD)).alloc (.cells (blank (.int .i64 0) N) TI)) := ((Below.refl _ _).alloc (Nat.le_refl _) _).alloc (by simp) _
  refine ⟨o2.cellAt 3 (by omega), (hb.cell (p := ⟨g, 3, none⟩) hg).trans h3, ?_, hb, o2, by simp⟩
  have q := heap_alloc_new (w.alloc (.cells #[a, b, c, .slice (some ⟨w.heap.size + 1, 0, none⟩) N N] TD)) (.cells (blank (.int .i64 0) N) TI)
  have e : (w.alloc (.cells #[a, b, c, .slice (some ⟨w.heap.size + 1, 0, none⟩) N N] TD)).heap.size = w.heap.size + 1 := by simp
  rw [e] at q
  exact q
set_option maxHeartbeats 3200000 in
set_option maxRecDepth 100000 in
theorem dsClone_any {B g h : Nat} {l : Int} {L : List Nd} (w : World) (d : DsA w B g h l L) (L1 : l ≤ 16) :
    Calls Tryz.prog 81 #[.pointer (some ⟨g, 0, none⟩)] w fun e w' => ∃ g2 h2, e = .returned (.pointer (some ⟨g2, 0, none⟩)) ∧ DsA w' w.heap.size g2 h2 l L ∧ Below w.heap.size w w' := by
  obtain ⟨i0, hi, hz0, hz1, hz2⟩ := info_parts dint_info
  have hp := plc_bd L1
  have hlt := d.lt
  obtain ⟨d0, d1, d2, d3⟩ := d.cells
  have PL := Lib.hid (fun k (hk : k < plcN l) => d.place hk)
  have D : Hid (DsA w B g h l L) := d
  clear d
  have hmk := make_all (P := Tryz.prog) Tryz.underlying91 hi hz0 hz1 hz2 (plcN l) (plcN l) (Nat.mul_one _) _ rfl (by omega) (by omega)
  generalize hN : plcN l = N at *
  have HN := Lib.hid hN
  clear hN
  go_enter Tryz.func81, Tryz.ntmps81
  go_wp2_with fail
  have hW := Lib.hid (clone_facts (TD := 178) (TI := 3) (B := B) (g := g) (h := h) (l := l) (L := L) (w := w) (N := N) (a := .int .i64 l) (b := .int .i64 (L.length : Int)) (c := .int .i64 (sumC L)) d3 hlt.2.1 hlt.2.2.2)
  generalize (w.alloc (.cells #[.int .i64 l, .int .i64 (L.length : Int), .int .i64 (sumC L), .slice (some ⟨w.heap.size + 1, 0, none⟩) N N] 178)).alloc (.cells (blank (.int .i64 0) N) 3) = W at *
  obtain ⟨k3, k4, kh, kb, ko, kz⟩ := hW.out
  have hd : ∀ a, ({ heap := W.heap, tape := W.tape, drawn := W.drawn + 1, os := W.os, output := W.output } : World).cell? a = W.cell? a := fun _ => rfl
  go_still_tail 6, (by kernel_rfl)
  change wpList _ _ _ _ _ (World.drew W)
  clear hd
  have kh2 : (World.drew W).heap[w.heap.size + 1]? = some (.cells (blank (.int .i64 0) N).toList.toArray 3 (0, 0)) := by
    have q := kh
    show W.heap[w.heap.size + 1]? = _
    rw [q, Array.toArray_toList]
  have KB := Lib.hid kb
  have KO := Lib.hid ko
  have KZ := Lib.hid kz
  have RC : Hid (∀ j v, (ints (tabW L N))[j]? = some v → (World.drew W).cell? ((⟨h, 0, none⟩ : Addr).add j) = some v) := by
    have q := (D.out.below (KB.out)).row
    rw [HN.out] at q
    exact fun j v hj => World.ownsRow.cells q rfl j v hj
  have LI : Hid ((ints (tabW L N)).length = Nat.min N N) := by show _ = _; rw [ints_len, tab_len]; simp
  have LB : Hid ((blank (.int .i64 0) N).toList.length = N) := by show _ = _; rw [Array.length_toList, blank_size]
  have LF : Hid (0 + (ints (tabW L N)).length ≤ (blank (.int .i64 0) N).toList.length) := by show _ ≤ _; rw [LB.out, ints_len, tab_len]; omega
  have L1C : Hid (∀ v ∈ ints (tabW L N), v.oneCell' = true) := fun v hv => by
    obtain ⟨x, _, rfl⟩ := List.mem_map.1 hv
    rfl
  have hsz : (Tryz.prog.info? 3).map (·.size) = some 1 := by kernel_rfl
  refine wpList_copy_splice rfl (.tmp 17) (.tmp 21) 91 91 rfl 3 Tryz.underlying91 hsz (some ⟨w.heap.size + 1, 0, none⟩) (some ⟨h, 0, none⟩) N N N N rfl rfl (w.heap.size + 1) 0 _ 3 kh2 (ints (tabW L N)) LI.out (fun _ => ⟨rfl, _, rfl, RC.out⟩) LF.out L1C.out (w.heap.size + 1) (World.drew W) (Below.refl ..) (Nat.le_refl _) ?_
  intro w4 hg4 hb4
  have ES : Hid (splice (blank (.int .i64 0) N).toList 0 (ints (tabW L N)) = ints (tabW L N)) := splice_all _ _ (by rw [LB.out, ints_len, tab_len])
  clear k3 k4 kh kb ko kz kh2
  go_wp2_with fail
  go_ret
  have hb5 : Below w.heap.size w w4 := (KB.out.drew).trans (hb4.mono (by omega))
  have hg5 := hg4.out
  rw [ES.out] at hg5
  refine ⟨w.heap.size, w.heap.size + 1, rfl, ⟨?_, ?_, by omega⟩, hb5⟩
  · have q := KO.out.kept (w' := w4) (row := some (w.heap.size + 1)) ⟨hb4.os, hb4.tape, hb4.output, hb4.size, fun k hk hne => hb4.block k (by rw [KZ.out] at hk; have : k ≠ w.heap.size + 1 := (fun e => hne (by rw [e])); omega)⟩ (.inr (by simp [Value.ownBlock]))
    unfold topW
    rw [HN.out]
    exact q
  · rw [HN.out]
    exact own_of_heap (by omega) (by unfold maxLen; omega) (by rw [ints_len, tab_len]) hg5
end Go.Proofs.YtelekchdbiimiaaGreat
namespace Go.Proofs.YtelekchdbiimiaaGreat
set_option linter.unusedVariables false
open Go.RowKit
/-- two blocks of two cells each: a struct that came in by value, and one that is handed out -/
structure K4 (w : World) (b : Nat) (x y z u : Value) : Prop where
  c0 : w.cell? ⟨b, 0, none⟩ = some x
  c1 : w.cell? ⟨b, 1, none⟩ = some y
  d0 : w.cell? ⟨b + 1, 0, none⟩ = some z
  d1 : w.cell? ⟨b + 1, 1, none⟩ = some u
  f0 : w.frozen? ⟨b, 0, none⟩ = false
  f1 : w.frozen? ⟨b, 1, none⟩ = false
  g0 : w.frozen? ⟨b + 1, 0, none⟩ = false
  g1 : w.frozen? ⟨b + 1, 1, none⟩ = false
  lt : b + 1 < w.heap.size
theorem K4.to {w w' : World} {b B : Nat} {x y z u : Value} (h : K4 w b x y z u) (hb : Below B w w') (hB : b + 1 < B) : K4 w' b x y z u :=
  ⟨(hb.cell (p := ⟨b, 0, none⟩) (by show b < B; omega)).trans h.c0, (hb.cell (p := ⟨b, 1, none⟩) (by show b < B; omega)).trans h.c1, (hb.cell (p := ⟨b + 1, 0, none⟩) hB).trans h.d0, (hb.cell (p := ⟨b + 1, 1, none⟩) hB).trans h.d1,
   (hb.frozen (p := ⟨b, 0, none⟩) (by show b < B; omega)).trans h.f0, (hb.frozen (p := ⟨b, 1, none⟩) (by show b < B; omega)).trans h.f1, (hb.frozen (p := ⟨b + 1, 0, none⟩) hB).trans h.g0, (hb.frozen (p := ⟨b + 1, 1, none⟩) hB).trans h.g1, Nat.lt_of_lt_of_le h.lt hb.size⟩
theorem k4_new (w : World) (t t2 : TypeId) (x y z u : Value) : K4 ((w.alloc (.cells #[x, y] t)).alloc (.cells #[z, u] t2)) w.heap.size x y z u :=
  ⟨by simp, by simp, by simp, by simp, by simp, by simp, by simp, by simp, by simp⟩
theorem K4.set1 {w : World} {b : Nat} {x y z u : Value} (h : K4 w b x y z u) (v : Value) : K4 (w.setCell ⟨b, 1, none⟩ v) b x v z u := by
  have n0 : (⟨b, 0, none⟩ : Addr) ≠ ⟨b, 1, none⟩ := ad_ne b
  have n1 : (⟨b + 1, 0, none⟩ : Addr) ≠ ⟨b, 1, none⟩ := fun e => by injection e with e; omega
  have n2 : (⟨b + 1, 1, none⟩ : Addr) ≠ ⟨b, 1, none⟩ := fun e => by injection e with e; omega
  refine ⟨by rw [World.cell?_setCell_other _ _ _ _ n0.symm]; exact h.c0, World.cell?_setCell_same (u := y) _ _ _ h.c1, by rw [World.cell?_setCell_other _ _ _ _ n1.symm]; exact h.d0, by rw [World.cell?_setCell_other _ _ _ _ n2.symm]; exact h.d1, ?_, ?_, ?_, ?_, ?_⟩
  · simp [h.f0]
  · simp [h.f1]
  · simp [h.g0]
  · simp [h.g1]
  · simpa using h.lt
theorem below_two (w : World) (o o2 : Obj) : Below w.heap.size w ((w.alloc o).alloc o2) := ((Below.refl _ _).alloc (Nat.le_refl _) _).alloc (by simp) _
end Go.Proofs.YtelekchdbiimiaaGreat
namespace Go.Proofs.YtelekchdbiimiaaGreat
set_option linter.unusedVariables false
set_option maxRecDepth 100000
open Go.RowKit
/-- a slice is the one that came in, or lies in new memory -/
def NewB (v0 v : Value) (k : Nat) : Prop := v = v0 ∨ ∀ b, v.ownBlock = some b → k ≤ b
theorem NewB.mono {v0 v : Value} {k k' : Nat} (h : NewB v0 v k) (hk : k' ≤ k) : NewB v0 v k' := h.imp id fun q b hb => Nat.le_trans hk (q b hb)
set_option maxHeartbeats 800000 in
theorem rsTotal_any (l : Int) (A : Option Addr) (n c : Nat) (L : List Nd) (w : World) (h : NodesAt w (.slice A n c) L) (hr : RollC l L) (hn : n ≤ 1000000) :
    Calls Tryz.prog 102 #[.agg #[.int .i64 l, .slice A n c]] w fun e w' => e = .returned (.int .i64 (sumC L)) ∧ Below w.heap.size w w' := by
  have HN := Lib.hid h
  have NB : Hid (NBds L) := nbds_roll hr
  have T := Lib.hid (tot_yes hr.2.2.2)
  clear h hr
  have hb0 : Below w.heap.size w (w.alloc (.cells #[.int .i64 l, .slice A n c] 29)) := (Below.refl _ _).alloc (Nat.le_refl _) _
  have HB0 := Lib.hid hb0
  clear hb0
  go_enter Tryz.func102, Tryz.ntmps102
  go_wp2_with (go_at_call 124; refine (rTotal_any _ _ _ L _ (HN.out.below HB0.out) NB.out hn).mono ?_; rintro e w1 ⟨rfl, hb1⟩)
  go_ret
  exact ⟨ret_i (by rw [T.out.1]), HB0.out.trans (hb1.mono (by simp))⟩
end Go.Proofs.YtelekchdbiimiaaGreat
namespace Go.Proofs.YtelekchdbiimiaaGreat
set_option linter.unusedVariables false
set_option maxRecDepth 100000
open Go.RowKit
end Go.Proofs.YtelekchdbiimiaaGreat
namespace Go.Proofs.YtelekchdbiimiaaGreat
set_option linter.unusedVariables false
set_option maxRecDepth 100000
open Go.RowKit
end Go.Proofs.YtelekchdbiimiaaGreat
namespace Go.Proofs.YtelekchdbiimiaaGreat
set_option linter.unusedVariables false
set_option maxRecDepth 100000
open Go.RowKit
theorem keep_two {W a b : World} {p q : Addr} {x y : Value} (h : a.cell? p = some x ∧ a.cell? q = some y ∧ Below W.heap.size W a) (hb : Below a.heap.size a b) (hp : p.block < W.heap.size) (hq : q.block < W.heap.size) : b.cell? p = some x ∧ b.cell? q = some y ∧ Below W.heap.size W b := by
  obtain ⟨h1, h2, h3⟩ := h
  have hz := h3.size
  exact ⟨(hb.cell (by omega)).trans h1, (hb.cell (by omega)).trans h2, h3.trans (hb.mono hz)⟩
theorem below_of {W a : World} {p q : Addr} {x y : Value} (h : a.cell? p = some x ∧ a.cell? q = some y ∧ Below W.heap.size W a) : Below W.heap.size W a := h.2.2
end Go.Proofs.YtelekchdbiimiaaGreat
namespace Go.Proofs.YtelekchdbiimiaaGreat
set_option linter.unusedVariables false
open Go.RowKit Go.ChangeShapes Go.WideShapes Go.Deep Go.Joins
/-- whole numbers of 64 bits -/
def OBds (L : List Pl) : Prop := ∀ n ∈ L, (-9223372036854775808 ≤ n.1.1 ∧ n.1.1 ≤ 9223372036854775807) ∧ (-9223372036854775808 ≤ n.1.2 ∧ n.1.2 ≤ 9223372036854775807) ∧ (-9223372036854775808 ≤ n.2 ∧ n.2 ≤ 9223372036854775807)
theorem obds_at {L : List Pl} (h : OBds L) {k : Nat} (hk : k < L.length) : (-9223372036854775808 ≤ (L.getD k plz).1.1 ∧ (L.getD k plz).1.1 ≤ 9223372036854775807) ∧ (-9223372036854775808 ≤ (L.getD k plz).1.2 ∧ (L.getD k plz).1.2 ≤ 9223372036854775807) ∧ (-9223372036854775808 ≤ (L.getD k plz).2 ∧ (L.getD k plz).2 ≤ 9223372036854775807) := by
  refine h _ ?_
  rw [List.getD_eq_getElem?_getD, List.getElem?_eq_getElem hk]; exact List.getElem_mem hk
end Go.Proofs.YtelekchdbiimiaaGreat
namespace Go.Proofs.YtelekchdbiimiaaGreat
set_option linter.unusedVariables false
open Go.RowKit
/-- a box of two cells, stored anew: it holds these, and rows of other types are as they were -/
theorem box_set {TS : TypeId} {w : World} {B q : Nat} {x y : Value} (r : w.ownsRow B TS 2 (.slice (some ⟨q, 0, none⟩) 1 1) 1 [x, y]) (u u' : Value) :
    ((w.setCell ⟨q, 0, none⟩ u).setCell ⟨q, 1, none⟩ u').ownsRow B TS 2 (.slice (some ⟨q, 0, none⟩) 1 1) 1 [u, u'] ∧
    (∀ (base : Nat) (e : TypeId) (size n : Nat) (v : Value) (ys : List Value), e ≠ TS → w.ownsRow base e size v n ys → ((w.setCell ⟨q, 0, none⟩ u).setCell ⟨q, 1, none⟩ u').ownsRow base e size v n ys) ∧
    Below B w ((w.setCell ⟨q, 0, none⟩ u).setCell ⟨q, 1, none⟩ u') ∧
    (∀ (base : Nat) (e : TypeId) (size n : Nat) (v : Value) (ys : List Value), v.ownBlock ≠ some q → w.ownsRow base e size v n ys → ((w.setCell ⟨q, 0, none⟩ u).setCell ⟨q, 1, none⟩ u').ownsRow base e size v n ys) := by
  have a := World.ownsRow.stored r 0 u
  have b := World.ownsRow.stored a.1 1 u'
  have hB := (r.lt q rfl).1
  refine ⟨b.1, fun base e size n v ys he o => ?_, ((Below.refl _ _).setCell (p := ⟨q, 0, none⟩) hB u).setCell (p := ⟨q, 1, none⟩) hB u', fun base e size n v ys he o => ?_⟩
  · have o1 := o.kept a.2 (own_apart o r he)
    exact o1.kept b.2 (own_apart o1 a.1 he)
  · exact (o.kept a.2 (.inr he)).kept b.2 (.inr he)
theorem box_cells {TS : TypeId} {w : World} {B q : Nat} {x y : Value} (r : w.ownsRow B TS 2 (.slice (some ⟨q, 0, none⟩) 1 1) 1 [x, y]) :
    w.cell? ⟨q, 0, none⟩ = some x ∧ w.cell? ⟨q, 1, none⟩ = some y ∧ w.frozen? ⟨q, 0, none⟩ = false ∧ w.frozen? ⟨q, 1, none⟩ = false ∧ q < w.heap.size :=
  ⟨r.cellAt 0 (by omega), r.cellAt 1 (by omega), r.frozenAt 0, r.frozenAt 1, (r.lt q rfl).2⟩
theorem tri_new (w : World) (TO : TypeId) (a b c : Value) : (w.alloc (.cells #[a, b, c] TO)).ownsRow w.heap.size TO 3 (.slice (some ⟨w.heap.size, 0, none⟩) 1 1) 1 [a, b, c] :=
  World.ownsRow_lit (base := w.heap.size) (e := TO) (size := 3) w #[a, b, c] 1 (Nat.le_refl _) (by unfold maxLen; omega) rfl
end Go.Proofs.YtelekchdbiimiaaGreat
