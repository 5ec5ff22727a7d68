/- Texts laid together: Ro, Ro2, Ro3, Ro4, Ro5. -/
import Derived.Test.YtkhacpapkalkiaaGreatRk
import Derived.Test.YtkhacpapkalkiaaGreatTw
import Derived.Test.YtkhacpapkalkiaaGreatPln
import Derived.Test.YtkhacpapkalkiaaGreatMmy
import Derived.Deep.QuietTactic
import Derived.BigQuiet
import Derived.Laws.StructEq
import Derived.Lib.SliceRun
import Derived.Deep.RegionHeld3
import Derived.Deep.RegionWith
import Derived.Deep.DrawnRows
import Derived.WalkSpells
import Derived.StillTactics
import Derived.Laws.AppendOwnNone
import Derived.StillTailTactics
/- The project's package roll: Total, Find, Right, Same. -/
namespace Go.Proofs.YtkhacpapkalkiaaGreat
set_option linter.unusedVariables false
open Go.RowKit

/-- one round more: the box of the round's node, and what was called -/
theorem round_below {W wr w1 : World} {o : Obj} (hb : Below W.heap.size W wr) (hb1 : Below (wr.alloc o).heap.size (wr.alloc o) w1) : Below W.heap.size W w1 :=
  (hb.alloc hb.size _).trans (hb1.mono (by have := hb.size; simp; omega))
def TotPost (L : List Nd) (w : World) (e : Ending) (w' : World) : Prop := e = .returned (.tuple #[.int .i64 (totN L), .bool (totB L)]) ∧ Below w.heap.size w w'
theorem tot_post {L : List Nd} {w w' : World} {n : Int} {b : Bool} (h : totN L = n ∧ totB L = b) (hb : Below w.heap.size w w') : TotPost L w (.returned (.tuple #[.int .i64 n, .bool b])) w' := by
  obtain ⟨rfl, rfl⟩ := h
  exact ⟨rfl, hb⟩
theorem tot_nil : TotC ([] : List Nd) := ⟨fun n h => by simp at h, by simp [sumC]⟩
set_option maxHeartbeats 1600000 in
theorem total_any (A : Option Addr) (n c : Nat) (L : List Nd) (w : World) (h : NodesAt w (.slice A n c) L) (hB : NBds L) (hn : n ≤ 1000000) :
    Calls Tryz.prog 145 #[.slice A n c] w (TotPost L w) := by
  obtain ⟨hlen, hlc, hcm, hat⟩ := nodes_cells h
  have HL := Lib.hid hlen
  have HA := Lib.hid hat
  have HB := Lib.hid hB
  clear hlen hat hB h hlc hcm
  go_enter Tryz.func145, Tryz.ntmps145
  go_wp2_with fail
  go_loopw [4, 11] (fun t i wr => ∃ k : Nat, k ≤ n ∧ i = .int .i64 k ∧ t = .int .i64 (sumC (L.take k)) ∧ TotC (L.take k) ∧ Below w.heap.size w wr) (fun _ i _ => n - (intOf i).toNat)
  case atStart => exact ⟨0, by omega, rfl, rfl, tot_nil, Below.refl ..⟩
  case round =>
    rename_i wr
    obtain ⟨k, hk, rfl, rfl, htot, hb⟩ := hrel
    have TC := Lib.hid htot
    have t0 : 0 ≤ sumC (L.take k) := sumC_nonneg htot.1
    have t1 : sumC (L.take k) ≤ 72057594037927935 := htot.2
    clear htot
    by_cases hlt : k < n
    · have hk2 : k < L.length := by have := HL.out; omega
      obtain ⟨b, o, rfl, hin⟩ := HA.out (by omega)
      obtain ⟨e0, e1⟩ := (hin.below hb hin.1).2 k hk2
      have hbd := nbds_at HB.out hk2
      obtain ⟨⟨b0, b1⟩, b2, b3⟩ := hbd
      have hst := Lib.hid (fun q0 q1 => tot_step hk2 TC.out q0 q1)
      have hno := Lib.hid (fun q => tot_stop (L := L) hk2 q)
      have hbl := hin.1
      have hsz := hb.size
      clear hin
      generalize L.getD k nz = r at *
      obtain ⟨id, x⟩ := r
      simp only at e0 e1 b0 b1 b2 b3
      generalize hT : sumC (L.take k) = T at *
      have HT := Lib.hid hT
      clear hT
      by_cases q : 0 ≤ x ∧ T + x ≤ 72057594037927935
      · obtain ⟨q0, q1⟩ := q
        obtain ⟨s1, s2⟩ := sum_yes (a := T) (b := x) (by omega)
        go_wp2_with (go_at_call 73; refine (add_any _ _ _ (by omega) (by omega) (by omega) (by omega)).mono ?_; rintro e w1 ⟨rfl, hb1⟩)
        go_roundw
        case rel => exact ⟨k + 1, by omega, by go_num, by rw [(hst.out q0 q1).2], (hst.out q0 q1).1, round_below hb hb1⟩
        case measure => simp [intOf]; omega
      · have NO := Lib.hid (tot_no (hno.out (by omega)))
        by_cases q0 : 0 ≤ x ∧ T + x ≤ 9223372036854775807
        · obtain ⟨s1, s2⟩ := sum_yes (a := T) (b := x) (by omega)
          have q1 : 72057594037927935 < T + x := by omega
          clear q hst hno
          go_wp2_with (go_at_call 73; refine (add_any _ _ _ (by omega) (by omega) (by omega) (by omega)).mono ?_; rintro e w1 ⟨rfl, hb1⟩)
          go_ret2
          exact tot_post NO.out (round_below hb hb1)
        · obtain ⟨s1, s2⟩ := sum_no (a := T) (b := x) (by omega)
          clear q q0 hst hno
          go_wp2_with (go_at_call 73; refine (add_any _ _ _ (by omega) (by omega) (by omega) (by omega)).mono ?_; rintro e w1 ⟨rfl, hb1⟩)
          go_ret2
          exact tot_post NO.out (round_below hb hb1)
    · have hd : Hid (L.take k = L) := List.take_of_length_le (by have := HL.out; omega)
      have YES := Lib.hid (tot_yes (L := L) (by have q := TC.out; rw [hd] at q; exact q))
      go_wp2_with fail
      go_ret2
      exact tot_post ⟨by rw [YES.out.1, hd], YES.out.2⟩ hb
def FindPost (L : List Nd) (id : Int) (w : World) (e : Ending) (w' : World) : Prop := e = .returned (.int .i64 (findN L id)) ∧ Below w.heap.size w w'
theorem find_post {L : List Nd} {id x : Int} {w w' : World} (h : findN L id = x) (hb : Below w.heap.size w w') : FindPost L id w (.returned (.int .i64 x)) w' := by
  subst h
  exact ⟨rfl, hb⟩
theorem find_step {L : List Nd} {k : Nat} {id : Int} (hk : k < L.length) (h : ∀ n ∈ L.take k, n.1 ≠ id) (he : ¬ (L.getD k nz).1 = id) : ∀ n ∈ L.take (k + 1), n.1 ≠ id := by
  intro n hn
  rw [nd_take hk] at hn
  rcases List.mem_append.1 hn with hn | hn
  · exact h n hn
  · simp only [List.mem_singleton] at hn; subst hn; exact he
def RightPost (l : Int) (L : List Nd) (w : World) (e : Ending) (w' : World) : Prop := e = .returned (.bool (rollB l L)) ∧ Below w.heap.size w w'
theorem right_post {l : Int} {L : List Nd} {b : Bool} {w w' : World} (h : rollB l L = b) (hb : Below w.heap.size w w') : RightPost l L w (.returned (.bool b)) w' := by
  subst h
  exact ⟨rfl, hb⟩
set_option maxHeartbeats 1600000 in
theorem rollRight_any (l : Int) (A : Option Addr) (n c : Nat) (L : List Nd) (w : World) (h : NodesAt w (.slice A n c) L) (hB : NBds L) (hn : n ≤ 1000000) (L0 : -9223372036854775808 ≤ l) (L1 : l ≤ 9223372036854775807) :
    Calls Tryz.prog 98 #[.int .i64 l, .slice A n c] w (RightPost l L w) := by
  have HN := Lib.hid h
  obtain ⟨hlen, hlc, hcm, hat⟩ := nodes_cells h
  have HL := Lib.hid hlen
  have HA := Lib.hid hat
  have HB := Lib.hid hB
  clear hlen hat hB h hlc hcm
  have r1 := right_one l
  have R1 := Lib.hid r1
  clear r1
  go_enter Tryz.func98, Tryz.ntmps98
  go_wp2_with fail
  go_loopw [5, 12] (fun t i wr => ∃ k : Nat, k ≤ n ∧ i = .int .i64 k ∧ t = .int .i64 (lastN L k) ∧ RInv l L k ∧ Below w.heap.size w wr) (fun _ i _ => n - (intOf i).toNat)
  case atStart => exact ⟨0, by omega, rfl, rfl, rinv_zero l L, Below.refl ..⟩
  case round =>
    rename_i wr
    obtain ⟨k, hk, rfl, rfl, hinv, hb⟩ := hrel
    have INV := Lib.hid hinv
    clear hinv
    by_cases hlt : k < n
    · have hk2 : k < L.length := by have := HL.out; omega
      obtain ⟨b, o, rfl, hin⟩ := HA.out (by omega)
      obtain ⟨e0, e1⟩ := (hin.below hb hin.1).2 k hk2
      have hbd := nbds_at HB.out hk2
      obtain ⟨⟨b0, b1⟩, b2, b3⟩ := hbd
      have hst := Lib.hid (fun q0 q1 q2 => rinv_step hk2 INV.out q0 q1 q2)
      have hno := Lib.hid (fun q => rinv_stop (l := l) (L := L) hk2 q)
      have hla : Hid (lastN L (k + 1) = (L.getD k nz).1) := rfl
      have hbl := hin.1
      have hsz := hb.size
      clear hin
      generalize L.getD k nz = r at *
      obtain ⟨id, x⟩ := r
      simp only at e0 e1 b0 b1 b2 b3
      generalize lastN L k = T at *
      by_cases q0 : id ≤ T
      · have NO := Lib.hid (roll_no (hno.out (.inl q0)))
        clear hno hst
        go_wp2_with fail
        go_ret
        exact right_post NO.out (hb.alloc hb.size _)
      · by_cases q1 : x < 1
        · have NO := Lib.hid (roll_no (hno.out (.inr (.inl q1))))
          clear hno hst
          go_wp2_with fail
          go_ret
          exact right_post NO.out (hb.alloc hb.size _)
        · cases q2 : rightB l id
          · have NO := Lib.hid (roll_no (hno.out (.inr (.inr q2))))
            clear hno hst
            go_wp2_with (go_at_call 92; refine (right_any _ _ _ L0 L1 b0 b1).mono ?_; rintro e w1 ⟨rfl, rfl⟩)
            go_ret
            exact right_post NO.out (hb.alloc hb.size _)
          · have ST := Lib.hid (hst.out (by omega) (by omega) q2)
            clear hno hst
            go_wp2_with (go_at_call 92; refine (right_any _ _ _ L0 L1 b0 b1).mono ?_; rintro e w1 ⟨rfl, rfl⟩)
            go_roundw
            case rel => exact ⟨k + 1, by omega, by go_num, by rw [hla.out], ST.out, hb.alloc hb.size _⟩
            case measure => simp [intOf]; omega
    · have INV2 := Lib.hid (show RInv l L L.length from by have q := INV.out; rwa [show k = L.length by have := HL.out; omega] at q)
      have HN2 := Lib.hid (HN.out.below hb)
      cases ht : totB L
      · go_wp2_with (go_at_call 145; refine (total_any _ _ _ _ _ HN2.out HB.out hn).mono ?_; rintro e w1 ⟨rfl, hb1⟩)
        go_ret
        exact right_post (by rw [roll_ends INV2.out _ _ rfl rfl, ht]; rfl) (hb.trans (hb1.mono hb.size))
      · go_wp2_with (first | (go_at_call 145; refine (total_any _ _ _ _ _ HN2.out HB.out hn).mono ?_; rintro e w1 ⟨rfl, hb1⟩) | (go_at_call 92; refine (right_any _ _ _ L0 L1 (by omega) (by omega)).mono ?_; rintro e w1 ⟨rfl, rfl⟩))
        go_ret
        exact right_post (by rw [roll_ends INV2.out _ _ rfl R1.out, ht]; rfl) (hb.trans (hb1.mono hb.size))
/-- two nodes held against each other -/
theorem run_neq_nodes (i1 x1 i2 x2 : Int) (w : World) : (binOp .neq 83 (.agg #[.int .i64 i1, .int .i64 x1]) (.agg #[.int .i64 i2, .int .i64 x2])).run Tryz.prog w = .ok (.bool (!(i1 == i2 && x1 == x2))) w := by
  have i3 := fun (a b : Int) (w : World) => run_equalIn_int (P := Tryz.prog) w 9998 3 .i64 .i64 a b Tryz.underlying3
  rw [run_neq_struct, run_equalIn_agg _ _ _ _ _ (by kernel_rfl) (by kernel_rfl)]
  unfold Program.fieldsOf
  rw [Tryz.underlying83]
  have p0 : ∀ (a b : Value) w, (part 3 #[a, b] 0).run Tryz.prog w = .ok a w := fun _ _ _ => by kernel_rfl
  have p1 : ∀ (a b : Value) w, (part 3 #[a, b] 1).run Tryz.prog w = .ok b w := fun _ _ _ => by kernel_rfl
  simp only [Op.eqFields, Sem.run_bind, Sem.run_ite, p0, p1, Result.andThen_ok, i3]
  by_cases h1 : i1 = i2 <;> by_cases h2 : x1 = x2 <;> simp [h1, h2, Result.andThen]
def SamePost (L M : List Nd) (w : World) (e : Ending) (w' : World) : Prop := e = .returned (.bool (sameB L M)) ∧ ∃ q, w' = w.drewN q
theorem same_post {L M : List Nd} {b : Bool} {w w' : World} (h : sameB L M = b) (hb : ∃ q, w' = w.drewN q) : SamePost L M w (.returned (.bool b)) w' := by
  subst h
  exact ⟨rfl, hb⟩
end Go.Proofs.YtkhacpapkalkiaaGreat

/- The project's package roll: lists of nodes put in order by merging. -/
namespace Go.Proofs.YtkhacpapkalkiaaGreat
set_option linter.unusedVariables false
open Go.RowKit
attribute [local go_sem ↓] Go.wp_at_zero Go.wp_at_succ

theorem node_info : (Tryz.prog.info? 83).map (fun i => (i.zero, i.size, i.bytes)) = some (some (.agg #[.int .i64 0, .int .i64 0]), 2, 16) := by kernel_rfl
/-- what a call that makes a row leaves -/
def RowPost (S : List Nd) (w : World) (e : Ending) (w' : World) : Prop := ∃ v, e = .returned v ∧ NodesAt w' v S ∧ Below w.heap.size w w'
/-- .. a row of its own -/
def RowOwn (S : List Nd) (w : World) (e : Ending) (w' : World) : Prop := ∃ v, e = .returned v ∧ OwnNd 83 w' w.heap.size v S ∧ Below w.heap.size w w'
theorem row_post {S : List Nd} {w : World} {e : Ending} {w' : World} (h : RowOwn S w e w') : RowPost S w e w' := by
  obtain ⟨v, a, b, c⟩ := h
  exact ⟨v, a, ownNd_nodes b, c⟩
theorem sortedLess_any (a b : Nd) (w : World) :
    Calls Tryz.prog 190 #[.agg #[.int .i64 a.1, .int .i64 a.2], .agg #[.int .i64 b.1, .int .i64 b.2]] w fun e w' => e = .returned (.bool (idA a b)) ∧ Below w.heap.size w w' := by
  obtain ⟨a1, a2⟩ := a
  obtain ⟨b1, b2⟩ := b
  by_cases h : a1 < b1
  · have H := Lib.hid (idA_yes (a := (a1, a2)) (b := (b1, b2)) h)
    go_enter Tryz.func190, Tryz.ntmps190
    go_wp2_with fail
    go_ret
    exact ⟨by rw [H.out]; rfl, ((Below.refl _ _).alloc (Nat.le_refl _) _).alloc (by simp) _⟩
  · have H := Lib.hid (idA_no (a := (a1, a2)) (b := (b1, b2)) h)
    go_enter Tryz.func190, Tryz.ntmps190
    go_wp2_with fail
    go_ret
    exact ⟨by rw [H.out]; rfl, ((Below.refl _ _).alloc (Nat.le_refl _) _).alloc (by simp) _⟩
set_option maxHeartbeats 1600000 in
theorem cloneNd_own (A : Option Addr) (n c : Nat) (L : List Nd) (w : World) (h : NodesAt w (.slice A n c) L) (hn : n ≤ 1000000) :
    Calls Tryz.prog 203 #[.slice A n c] w (RowOwn L w) := by
  obtain ⟨hlen, hlc, hcm, hat⟩ := nodes_cells h
  have HL := Lib.hid hlen
  have HA := Lib.hid hat
  clear hlen hat h hlc hcm
  obtain ⟨i0, hi, hz0, hz1, hz2⟩ := info_parts node_info
  have q22 : ∀ (w : World) (a : Option Addr) (n c n' c' : Nat), (binOp .eql 24 (.slice a n c) (.slice none n' c')).run Tryz.prog w = .ok (.bool a.isNone) w := fun w a n c n' c' => Lib.run_eql_slice_nil w _ _ a n c n' c' Tryz.underlying24
  rcases Nat.eq_zero_or_pos n with h0 | h0
  · have hL0 : L = [] := List.eq_nil_of_length_eq_zero (by rw [← HL.out]; exact h0)
    subst hL0
    cases A with
    | none =>
      go_enter Tryz.func203, Tryz.ntmps203
      go_wp2_with fail
      go_ret
      exact ⟨_, rfl, ownNd_nil .., Below.refl ..⟩
    | some a =>
      subst h0
      go_enter Tryz.func203, Tryz.ntmps203
      go_wp2_with (at_builtin; refine wpList_append_own _ rfl _ _ 24 rfl w.heap.size 83 i0 (.agg #[.int .i64 0, .int .i64 0]) 2 16 Tryz.underlying24 hi hz0 hz1 hz2 rfl (by decide) _ _ _ rfl (World.ownsRow_made w #[] 0 (Nat.le_refl _) (Nat.zero_le _) rfl) a 0 c [] rfl rfl ?qc1 ?qc2 ?qc3 ?qc4 ?qc5 ?qc6)
      case qc1 => intro j u hj; simp at hj
      case qc2 => intro u hu; simp at hu
      case qc3 => unfold maxLen; omega
      case qc4 => omega
      case qc5 => simp
      intro v' w1 hown hgrow hnil
      go_wp2
      go_ret
      exact ⟨v', rfl, (by simpa [OwnNd, nods] using hown), ((Below.refl _ w).alloc (Nat.le_refl _) _).grown hgrow (by simp) (by intro k hk; simp [Value.ownBlock] at hk; omega)⟩
  · obtain ⟨b, o, rfl, hin⟩ := HA.out (by have := HL.out; omega)
    have HI := Lib.hid hin
    have hbl := hin.1
    have NL := Lib.hid (show (nods L).length = n * 2 by rw [nods_len]; have := HL.out; omega)
    clear hin
    go_enter Tryz.func203, Tryz.ntmps203
    go_wp2_with (at_builtin; refine wpList_append_own _ rfl _ _ 24 rfl w.heap.size 83 i0 (.agg #[.int .i64 0, .int .i64 0]) 2 16 Tryz.underlying24 hi hz0 hz1 hz2 rfl (by decide) _ _ _ rfl (World.ownsRow_made w #[] 0 (Nat.le_refl _) (Nat.zero_le _) rfl) ⟨b, o, none⟩ n c (nods L) rfl NL.out ?pc1 ?pc2 ?pc3 ?pc4 ?pc5 ?pc6)
    case pc1 => exact (HI.out.below ((Below.refl _ w).alloc (Nat.le_refl _) _) hbl).news
    case pc2 => exact nods_one L
    case pc3 => unfold maxLen; omega
    case pc4 => omega
    case pc5 => simp
    intro v' w1 hown hgrow hnil
    go_wp2
    go_ret
    exact ⟨v', rfl, (by have q := hown; rw [HL.out] at q; simpa [OwnNd] using q), ((Below.refl _ w).alloc (Nat.le_refl _) _).grown hgrow (by simp) (by intro k hk; simp [Value.ownBlock] at hk; omega)⟩
theorem cloneNd_any (A : Option Addr) (n c : Nat) (L : List Nd) (w : World) (h : NodesAt w (.slice A n c) L) (hn : n ≤ 1000000) :
    Calls Tryz.prog 203 #[.slice A n c] w (RowPost L w) := (cloneNd_own A n c L w h hn).mono fun _ _ q => row_post q

end Go.Proofs.YtkhacpapkalkiaaGreat

/- The project's package roll: two lists in order merged, and lists put in order by that. -/
namespace Go.Proofs.YtkhacpapkalkiaaGreat
set_option linter.unusedVariables false
open Go.RowKit
attribute [local go_sem ↓] Go.wp_at_zero Go.wp_at_succ

/-- how far the merging has come -/
structure MInv (B : Nat) (w wr : World) (ad bd : Addr) (ca cb : Nat) (v : Value) (P Q R LM : List Nd) : Prop where
  a : NdAt w (some ad) P
  b : NdAt w (some bd) Q
  ca : P.length ≤ ca
  cb : Q.length ≤ cb
  own : OwnNd 83 wr B v R
  goes : R ++ mrg idA P Q = LM
  below : Below w.heap.size w wr
theorem minv_len {B : Nat} {w wr : World} {ad bd : Addr} {ca cb : Nat} {v : Value} {P Q R LM : List Nd} (h : MInv B w wr ad bd ca cb v P Q R LM) : R.length + (P.length + Q.length) = LM.length := by
  have := congrArg List.length h.goes
  rw [List.length_append, (mrg_perm idA P Q).length_eq, List.length_append] at this
  exact this
theorem minv_b {w wr w2 : World} {ad bd : Addr} {ca cb : Nat} {v v' : Value} {x y : Nd} {P Q R LM : List Nd} (h : MInv w.heap.size w wr ad bd ca cb v (x :: P) (y :: Q) R LM) (hlt : idA y x = true) (hown : OwnNd 83 w2 w.heap.size v' (R ++ [y])) (hb : Below w.heap.size w w2) :
    MInv w.heap.size w w2 ad (advA bd cb 1 2) ca (cb - 1) v' (x :: P) Q (R ++ [y]) LM :=
  ⟨h.a, by have := h.b.adv (k := 1) h.cb; simpa using this, h.ca, by have := h.cb; simp at this; omega, hown, by rw [← h.goes, mrg_b hlt]; simp, hb⟩
theorem minv_a {w wr w2 : World} {ad bd : Addr} {ca cb : Nat} {v v' : Value} {x y : Nd} {P Q R LM : List Nd} (h : MInv w.heap.size w wr ad bd ca cb v (x :: P) (y :: Q) R LM) (hlt : idA y x = false) (hown : OwnNd 83 w2 w.heap.size v' (R ++ [x])) (hb : Below w.heap.size w w2) :
    MInv w.heap.size w w2 (advA ad ca 1 2) bd (ca - 1) cb v' P (y :: Q) (R ++ [x]) LM :=
  ⟨by have := h.a.adv (k := 1) h.ca; simpa using this, h.b, by have := h.ca; simp at this; omega, h.cb, hown, by rw [← h.goes, mrg_a hlt]; simp, hb⟩
theorem minv_end {B : Nat} {w wr : World} {ad bd : Addr} {ca cb : Nat} {v : Value} {P Q R LM : List Nd} (h : MInv B w wr ad bd ca cb v P Q R LM) (hd : P = [] ∨ Q = []) : R ++ P ++ Q = LM := by
  rw [← h.goes]
  rcases hd with rfl | rfl
  · rw [nil_mrg]; simp
  · rw [mrg_nil]; simp
set_option maxHeartbeats 6400000 in
set_option maxRecDepth 100000 in
theorem merge_own (ad bd : Addr) (n c n2 c2 : Nat) (L M : List Nd) (w : World) (h : NodesAt w (.slice (some ad) n c) L) (h2 : NodesAt w (.slice (some bd) n2 c2) M) (hn : n ≤ 1000000) (hn2 : n2 ≤ 1000000) :
    Calls Tryz.prog 204 #[.slice (some ad) n c, .slice (some bd) n2 c2, .func (.func 190) #[] #[]] w (RowOwn (mrg idA L M) w) := by
  obtain ⟨hlen, hlc, hcm, hat⟩ := nodes_cells h
  obtain ⟨hlen2, hlc2, hcm2, hat2⟩ := nodes_cells h2
  obtain ⟨i0, hi, hz0, hz1, hz2⟩ := info_parts node_info
  have hlm : Hid ((mrg idA L M).length = n + n2) := by show _ = _; rw [(mrg_perm idA L M).length_eq, List.length_append]; omega
  have INV0 := Lib.hid (fun (v : Value) (w1 : World) (q : OwnNd 83 w1 w.heap.size v []) (hb : Below w.heap.size w w1) => (show MInv w.heap.size w w1 ad bd c c2 v L M [] (mrg idA L M) from ⟨hat, hat2, hlc, hlc2, q, rfl, hb⟩))
  have HL := Lib.hid hlen
  have HL2 := Lib.hid hlen2
  clear hlen hat h hlc hcm hlen2 hat2 h2 hlc2 hcm2
  have hmk := make_room (P := Tryz.prog) Tryz.underlying24 hi hz0 hz1 hz2 (n + n2) (by omega) (by omega) w
  rw [Int.natCast_add] at hmk
  go_enter Tryz.func204, Tryz.ntmps204
  go_wp2_with fail
  clear hmk
  go_loopw [0, 1, 7] (fun a b v wr => ∃ (P Q R : List Nd) (ad' bd' : Addr) (m p ca cb : Nat), a = .slice (some ad') m ca ∧ b = .slice (some bd') p cb ∧ m = P.length ∧ p = Q.length ∧ m ≤ n ∧ p ≤ n2 ∧ MInv w.heap.size w wr ad' bd' ca cb v P Q R (mrg idA L M)) (fun a b _ _ => (match a with | .slice _ m _ => m | _ => 0) + (match b with | .slice _ m _ => m | _ => 0))
  case atStart => exact ⟨L, M, [], ad, bd, n, n2, c, c2, rfl, rfl, HL.out, HL2.out, Nat.le_refl _, Nat.le_refl _, INV0.out _ _ (room_own (Nat.le_refl _) (by unfold maxLen; omega)) ((Below.refl _ _).alloc (Nat.le_refl _) _)⟩
  case round =>
    rename_i wr
    obtain ⟨P, Q, R, ad', bd', m, p, ca, cb, rfl, rfl, hm, hp, hmn, hpn, hinv⟩ := hrel
    have HM := Lib.hid hm
    have HP := Lib.hid hp
    have INV := Lib.hid hinv
    have hlen : R.length + (m + p) = n + n2 := by have := minv_len hinv; rw [hlm.out] at this; omega
    have zs := hinv.below.size
    obtain ⟨A3, m3, c3, rfl⟩ := ownNd_slice hinv.own
    clear hm hp hinv
    by_cases hmp : 0 < m ∧ 0 < p
    · obtain ⟨hm0, hp0⟩ := hmp
      obtain ⟨⟨x1, x2⟩, P, rfl⟩ : ∃ x P', P = x :: P' := by
        cases P with
        | nil => have := HM.out; simp at this; omega
        | cons x P => exact ⟨x, P, rfl⟩
      obtain ⟨⟨y1, y2⟩, Q, rfl⟩ : ∃ x P', Q = x :: P' := by
        cases Q with
        | nil => have := HP.out; simp at this; omega
        | cons x P => exact ⟨x, P, rfl⟩
      obtain ⟨b1, o1, rfl, hb1, e0, e1⟩ := INV.out.a.first INV.out.below
      obtain ⟨b2, o2, rfl, hb2, e2, e3⟩ := INV.out.b.first INV.out.below
      dsimp only at e0 e1 e2 e3
      have hsa := sl_one (P := Tryz.prog) Tryz.underlying24 hi hz1 ⟨b1, o1, none⟩ m ca hm0
      have hsb := sl_one (P := Tryz.prog) Tryz.underlying24 hi hz1 ⟨b2, o2, none⟩ p cb hp0
      have hm1 : Hid (m - 1 = P.length) := by have := HM.out; show _ = _; simp at this; omega
      have hp1 : Hid (p - 1 = Q.length) := by have := HP.out; show _ = _; simp at this; omega
      cases q : idA (y1, y2) (x1, x2)
      · have Q0 := Lib.hid q
        go_wp2_with fail
        go_region_held3 (fun w' => w'.cell? ⟨b1, o1, none⟩ = some (.int .i64 x1) ∧ w'.cell? ⟨b1, o1 + 1, none⟩ = some (.int .i64 x2) ∧ w'.cell? ⟨b2, o2, none⟩ = some (.int .i64 y1) ∧ w'.cell? ⟨b2, o2 + 1, none⟩ = some (.int .i64 y2) ∧ Below wr.heap.size wr w')
          (first | (exact keep4 (by assumption) (by assumption) (by dsimp only; omega) (by dsimp only; omega) (by dsimp only; omega) (by dsimp only; omega)) | (exact ⟨e0, e1, e2, e3, below_drew _⟩))
          (first | (go_at_call 190; refine (sortedLess_any (y1, y2) (x1, x2) _).mono ?_; rintro e w1 ⟨rfl, hbc⟩))
        rename_i hH
        obtain ⟨f0, f1, f2, f3, hbr⟩ := hH
        have hzr := hbr.size
        have hown1 := own_below INV.out.own hbr
        clear hbc e0 e1 e2 e3
        go_wp2_with fail
        clear q
        go_region_held3 (fun w' => w'.cell? ⟨b1, o1, none⟩ = some (.int .i64 x1) ∧ w'.cell? ⟨b1, o1 + 1, none⟩ = some (.int .i64 x2))
          (first | go_keep | (exact keep2g (by simp [*]) (by simp [*]) hown1 hgrow (by dsimp only; omega) (by dsimp only; omega) (by simp; omega)))
          ((refine step_append_lies _ (by rfl) _ _ _ (by rfl) w.heap.size 83 i0 _ 2 16 Tryz.underlying24 hi hz0 hz1 hz2 rfl (by omega) (.slice A3 m3 c3) R.length (nods R) (by rfl) ((hown1.alloc _).drew) ⟨w1.heap.size, 0, none⟩ 1 1 [.int .i64 x1, .int .i64 x2] (by rfl) (by rfl) (World.news_of_block (cs := #[.int .i64 x1, .int .i64 x2]) (t := 83) (fr := (0, 0)) (heap_alloc_new w1 _)) (two_cell _ _) (by omega) (by unfold maxLen; omega) (by omega) (by simp; omega) (w1.heap.size + 1) (by simp) ?_; intro gg cap w2 hown2 hgrow hat2 hlt2))
        go_wp2_with fail
        clear f0 f1 f2 f3
        have hown3 := Lib.hid (ownNd_snoc hown2)
        have hb2w : Below w.heap.size w w2 := (((INV.out.below.trans (hbr.mono zs)).alloc (by omega) _).drew).grown hgrow (by simp; omega) (fun g hg => (hown1.lt g hg).1)
        have INV3 := Lib.hid (minv_a INV.out Q0.out hown3.out hb2w)
        clear hown2 hgrow hat2 hown1 hbr
        go_roundw
        case rel => exact ⟨P, (y1, y2) :: Q, R ++ [(x1, x2)], _, _, m - 1, p, ca - 1, cb, rfl, rfl, hm1.out, HP.out, by omega, by omega, INV3.out⟩
        case measure => simp; omega
      · have Q0 := Lib.hid q
        go_wp2_with fail
        go_region_held3 (fun w' => w'.cell? ⟨b1, o1, none⟩ = some (.int .i64 x1) ∧ w'.cell? ⟨b1, o1 + 1, none⟩ = some (.int .i64 x2) ∧ w'.cell? ⟨b2, o2, none⟩ = some (.int .i64 y1) ∧ w'.cell? ⟨b2, o2 + 1, none⟩ = some (.int .i64 y2) ∧ Below wr.heap.size wr w')
          (first | (exact keep4 (by assumption) (by assumption) (by dsimp only; omega) (by dsimp only; omega) (by dsimp only; omega) (by dsimp only; omega)) | (exact ⟨e0, e1, e2, e3, below_drew _⟩))
          (first | (go_at_call 190; refine (sortedLess_any (y1, y2) (x1, x2) _).mono ?_; rintro e w1 ⟨rfl, hbc⟩))
        rename_i hH
        obtain ⟨f0, f1, f2, f3, hbr⟩ := hH
        have hzr := hbr.size
        have hown1 := own_below INV.out.own hbr
        clear hbc e0 e1 e2 e3
        go_wp2_with fail
        clear q
        go_region_held3 (fun w' => w'.cell? ⟨b2, o2, none⟩ = some (.int .i64 y1) ∧ w'.cell? ⟨b2, o2 + 1, none⟩ = some (.int .i64 y2))
          (first | go_keep | (exact keep2g (by simp [*]) (by simp [*]) hown1 hgrow (by dsimp only; omega) (by dsimp only; omega) (by simp; omega)))
          ((refine step_append_lies _ (by rfl) _ _ _ (by rfl) w.heap.size 83 i0 _ 2 16 Tryz.underlying24 hi hz0 hz1 hz2 rfl (by omega) (.slice A3 m3 c3) R.length (nods R) (by rfl) ((hown1.alloc _).drew) ⟨w1.heap.size, 0, none⟩ 1 1 [.int .i64 y1, .int .i64 y2] (by rfl) (by rfl) (World.news_of_block (cs := #[.int .i64 y1, .int .i64 y2]) (t := 83) (fr := (0, 0)) (heap_alloc_new w1 _)) (two_cell _ _) (by omega) (by unfold maxLen; omega) (by omega) (by simp; omega) (w1.heap.size + 1) (by simp) ?_; intro gg cap w2 hown2 hgrow hat2 hlt2))
        go_wp2_with fail
        clear f0 f1 f2 f3
        have hown3 := Lib.hid (ownNd_snoc hown2)
        have hb2w : Below w.heap.size w w2 := (((INV.out.below.trans (hbr.mono zs)).alloc (by omega) _).drew).grown hgrow (by simp; omega) (fun g hg => (hown1.lt g hg).1)
        have INV3 := Lib.hid (minv_b INV.out Q0.out hown3.out hb2w)
        clear hown2 hgrow hat2 hown1 hbr
        go_roundw
        case rel => exact ⟨(x1, x2) :: P, Q, R ++ [(y1, y2)], _, _, m, p - 1, ca, cb - 1, rfl, rfl, HM.out, hp1.out, by omega, by omega, INV3.out⟩
        case measure => simp; omega
    · have hd : P = [] ∨ Q = [] := by
        rcases Nat.eq_zero_or_pos m with q | q
        · exact .inl (List.eq_nil_of_length_eq_zero (by rw [← HM.out]; exact q))
        · exact .inr (List.eq_nil_of_length_eq_zero (by rw [← HP.out]; omega))
      have HE := Lib.hid (minv_end INV.out hd)
      have NM := Lib.hid (show (nods P).length = m * 2 by rw [nods_len, HM.out])
      have NP := Lib.hid (show (nods Q).length = p * 2 by rw [nods_len, HP.out])
      clear hd
      by_cases hm0 : 0 < m
      all_goals
        have hown := INV.out.own
        go_wp2_with (first
          | (at_builtin; refine wpList_append_own _ rfl (.tmp 46) (.tmp 47) 24 rfl w.heap.size 83 i0 (.agg #[.int .i64 0, .int .i64 0]) 2 16 Tryz.underlying24 hi hz0 hz1 hz2 rfl (by decide) (.slice A3 m3 c3) R.length (nods R) rfl hown ad' m ca (nods P) rfl NM.out (INV.out.a.news INV.out.below) (nods_one P) (by unfold maxLen; omega) (by omega) zs ?_; intro v1 w1 hown1 hgrow1 _; obtain ⟨A4, m4, c4, rfl⟩ := ownNd_slice hown1; have hb1 := INV.out.below.grown hgrow1 zs (fun g hg => (hown.lt g hg).1); have zs1 := hb1.size)
          | (at_builtin; refine wpList_append_own _ rfl (.tmp 48) (.tmp 49) 24 rfl w.heap.size 83 i0 (.agg #[.int .i64 0, .int .i64 0]) 2 16 Tryz.underlying24 hi hz0 hz1 hz2 rfl (by decide) (.slice A4 m4 c4) (R.length + m) (nods R ++ nods P) rfl hown1 bd' p cb (nods Q) rfl NP.out (INV.out.b.news hb1) (nods_one Q) (by unfold maxLen; omega) (by omega) zs1 ?_; intro v2 w2 hown2 hgrow2 _))
        have hb2 := hb1.grown hgrow2 zs1 (fun g hg => (hown1.lt g hg).1)
        go_ret
        exact ⟨v2, rfl, (by
          have q := hown2
          rw [HM.out, HP.out, ← nods_app, ← nods_app, HE.out] at q
          have e : R.length + P.length + Q.length = (mrg idA L M).length := by rw [← HE.out, List.length_append, List.length_append]
          rw [e] at q
          exact q), hb2⟩
theorem merge_any (ad bd : Addr) (n c n2 c2 : Nat) (L M : List Nd) (w : World) (h : NodesAt w (.slice (some ad) n c) L) (h2 : NodesAt w (.slice (some bd) n2 c2) M) (hn : n ≤ 1000000) (hn2 : n2 ≤ 1000000) :
    Calls Tryz.prog 204 #[.slice (some ad) n c, .slice (some bd) n2 c2, .func (.func 190) #[] #[]] w (RowPost (mrg idA L M) w) := (merge_own ad bd n c n2 c2 L M w h h2 hn hn2).mono fun _ _ q => row_post q

end Go.Proofs.YtkhacpapkalkiaaGreat

/- The project's package roll: lists put in order by merging: inOrder, Sorted. -/
namespace Go.Proofs.YtkhacpapkalkiaaGreat
set_option linter.unusedVariables false
open Go.RowKit
attribute [local go_sem ↓] Go.wp_at_zero Go.wp_at_succ

/-- what a call that puts a list in order leaves -/
def OrdPost (L : List Nd) (w : World) (e : Ending) (w' : World) : Prop :=
  ∃ S A c, e = .returned (.slice A (List.length S) c) ∧ Srt idA L S ∧ NodesAt w' (.slice A S.length c) S ∧ (0 < S.length → ∃ a, A = some a) ∧ Below w.heap.size w w'
theorem ord_of {L S : List Nd} {w w' : World} {e : Ending} (h : RowPost S w e w') (hs : Srt idA L S) : OrdPost L w e w' := by
  obtain ⟨v, rfl, hn, hb⟩ := h
  have hf := hn
  obtain ⟨A, c, rfl, _, _, _, hat⟩ := hn
  exact ⟨S, A, c, rfl, hs, hf, fun h0 => by obtain ⟨b, o, e, _⟩ := hat h0; exact ⟨_, e⟩, hb⟩
/-- .. in a row of its own -/
def OrdOwn (L : List Nd) (w : World) (e : Ending) (w' : World) : Prop :=
  ∃ S A c, e = .returned (.slice A (List.length S) c) ∧ Srt idA L S ∧ OwnNd 83 w' w.heap.size (.slice A S.length c) S ∧ (0 < S.length → ∃ a, A = some a) ∧ Below w.heap.size w w'
theorem ordOwn_of {L S : List Nd} {w w' : World} {e : Ending} (h : RowOwn S w e w') (hs : Srt idA L S) : OrdOwn L w e w' := by
  obtain ⟨v, rfl, ho, hb⟩ := h
  have hn := ownNd_nodes ho
  obtain ⟨A, c, rfl, _, _, _, hat⟩ := hn
  exact ⟨S, A, c, rfl, hs, ho, fun h0 => by obtain ⟨b, o, e, _⟩ := hat h0; exact ⟨_, e⟩, hb⟩
theorem ord_post {L : List Nd} {w w' : World} {e : Ending} (h : OrdOwn L w e w') : OrdPost L w e w' := by
  obtain ⟨S, A, c, a1, a2, a3, a4, a5⟩ := h
  exact ⟨S, A, c, a1, a2, ownNd_nodes a3, a4, a5⟩
theorem nodes_cut {w : World} {a : Addr} {n c k : Nat} {L : List Nd} (h : NodesAt w (.slice (some a) n c) L) (hk : k ≤ n) :
    NodesAt w (.slice (some a) k c) (L.take k) ∧ NodesAt w (.slice (some (advA a c k 2)) (n - k) (c - k)) (L.drop k) := by
  obtain ⟨hl, hlc, hcm, hat⟩ := nodes_cells h
  refine ⟨⟨_, c, by rw [List.length_take, Nat.min_eq_left (by omega)], by rw [List.length_take]; omega, hcm, fun e => by simp at e, hat.take⟩, ⟨_, c - k, by rw [List.length_drop, hl], by rw [List.length_drop]; omega, by omega, fun e => by simp at e, hat.adv hlc⟩⟩
set_option maxHeartbeats 3200000 in
set_option maxRecDepth 100000 in
theorem inOrder_own (k : Nat) : ∀ (A : Option Addr) (n c : Nat) (L : List Nd) (w : World), n ≤ k → NodesAt w (.slice A n c) L → n ≤ 1000000 →
    Calls Tryz.prog 189 #[.slice A n c, .func (.func 190) #[] #[]] w (OrdOwn L w) := by
  induction k with
  | zero =>
    intro A n c L w hk h hn
    have HN := Lib.hid h
    have hs := Lib.hid (Srt.small idA (L := L) (by rw [← (nodes_cells h).1]; omega))
    clear h
    go_enter Tryz.func189, Tryz.ntmps189
    go_wp2_with (go_at_call 203; refine (cloneNd_own _ _ _ _ _ HN.out hn).mono ?_; rintro e w1 ⟨v, rfl, hv, hb⟩)
    go_ret
    exact ordOwn_of ⟨v, rfl, hv, hb⟩ hs.out
  | succ k ih =>
    intro A n c L w hk h hn
    have HN := Lib.hid h
    by_cases h2 : n < 2
    · have hs := Lib.hid (Srt.small idA (L := L) (by rw [← (nodes_cells h).1]; omega))
      clear h ih
      go_enter Tryz.func189, Tryz.ntmps189
      go_wp2_with (go_at_call 203; refine (cloneNd_own _ _ _ _ _ HN.out hn).mono ?_; rintro e w1 ⟨v, rfl, hv, hb⟩)
      go_ret
      exact ordOwn_of ⟨v, rfl, hv, hb⟩ hs.out
    · obtain ⟨hl, hlc, hcm, hat⟩ := nodes_cells h
      obtain ⟨b, o, rfl, _⟩ := hat (by omega)
      obtain ⟨i0, hi, hz0, hz1, hz2⟩ := info_parts node_info
      have IH := Lib.hid ih
      have hc := Lib.hid (nodes_cut h (k := n / 2) (by omega))
      have e2 : ((n / 2 : Nat) : Int) = (n : Int) / 2 := by omega
      have hsa := sl_to (P := Tryz.prog) Tryz.underlying24 hi hz1 (some ⟨b, o, none⟩) n c (n / 2) (by omega)
      have hsb := sl_from (P := Tryz.prog) Tryz.underlying24 hi hz1 ⟨b, o, none⟩ n c (n / 2) (by omega)
      rw [e2] at hsa hsb
      have l1 : Hid ((L.take (n / 2)).length = n / 2) := by show _ = _; rw [List.length_take]; omega
      have l2 : Hid ((L.drop (n / 2)).length = n - n / 2) := by show _ = _; rw [List.length_drop]; omega
      clear h ih hl hat e2
      have hb0 := Lib.hid (Below.refl w.heap.size w)
      go_enter Tryz.func189, Tryz.ntmps189
      go_wp2_with fail
      go_region_held3 (fun w' => Below w.heap.size w w')
        (first | (exact below_drew _) | (exact Below.trans (by assumption) (Below.mono (by assumption) (Below.size (by assumption)))))
        (first
          | ((with_reducible refine (IH.out _ _ _ _ _ (by omega) (hc.out.1.below (by assumption)) (by omega)).mono ?_); rintro e w1 ⟨S1, A1, c1, rfl, hs1, ho1, hA1, hb1⟩; have hn1 := ownNd_nodes ho1; obtain ⟨a1, rfl⟩ := hA1 (by rw [hs1.len, l1.out]; omega); have z1 : S1.length ≤ 1000000 := by (rw [hs1.len, l1.out]; omega))
          | ((with_reducible refine (IH.out _ _ _ _ _ (by omega) (hc.out.2.below (by assumption)) (by omega)).mono ?_); rintro e w2 ⟨S2, A2, c2, rfl, hs2, ho2, hA2, hb2⟩; have hn2 := ownNd_nodes ho2; obtain ⟨a2, rfl⟩ := hA2 (by rw [hs2.len, l2.out]; omega); have z2 : S2.length ≤ 1000000 := by (rw [hs2.len, l2.out]; omega))
          | (go_at_call 204; refine (merge_own a1 a2 _ _ _ _ S1 S2 _ (by first | exact hn1 | exact hn1.below hb2) (by first | exact hn2 | exact hn2.below hb1) z1 z2).mono ?_; rintro e w3 ⟨v3, rfl, hn3, hb3⟩))
      all_goals
        go_wp2_with fail
        go_ret
        exact ordOwn_of ⟨v3, rfl, own_low hn3 (by first | exact Nat.le_trans (show w.heap.size ≤ w1.heap.size from hb1.size) hb2.size | exact Nat.le_trans (show w.heap.size ≤ w2.heap.size from hb2.size) hb1.size), by assumption⟩ (srt_mrg_cut idA_ahd (n / 2) hs1 hs2)
set_option maxHeartbeats 400000 in
set_option maxRecDepth 100000 in
theorem sorted_own (A : Option Addr) (n c : Nat) (L : List Nd) (w : World) (h : NodesAt w (.slice A n c) L) (hn : n ≤ 1000000) :
    Calls Tryz.prog 171 #[.slice A n c] w (OrdOwn L w) := by
  have H := Lib.hid h
  clear h
  go_enter Tryz.func171, Tryz.ntmps171
  go_wp2_with (go_at_call 189; refine (inOrder_own n _ _ _ _ _ (Nat.le_refl _) H.out hn).mono ?_; rintro e w1 ⟨S1, A1, c1, rfl, hs1, hn1, hA1, hb1⟩)
  go_ret
  exact ⟨S1, A1, c1, rfl, hs1, hn1, hA1, hb1⟩
theorem sorted_any (A : Option Addr) (n c : Nat) (L : List Nd) (w : World) (h : NodesAt w (.slice A n c) L) (hn : n ≤ 1000000) :
    Calls Tryz.prog 171 #[.slice A n c] w (OrdPost L w) := (sorted_own A n c L w h hn).mono fun _ _ q => ord_post q

end Go.Proofs.YtkhacpapkalkiaaGreat

/- The project's package roll: Fold. -/
namespace Go.Proofs.YtkhacpapkalkiaaGreat
set_option linter.unusedVariables false
open Go.RowKit

theorem ownNd_last {T : TypeId} {w : World} {B : Nat} {v : Value} {P : List Nd} {y : Nd} (h : OwnNd T w B v (P ++ [y])) : ∃ g cap, v = .slice (some ⟨g, 0, none⟩) (P.length + 1) cap ∧ B ≤ g ∧ g < w.heap.size ∧ P.length + 1 ≤ cap ∧ w.cell? ⟨g, P.length * 2, none⟩ = some (.int .i64 y.1) ∧ w.cell? ⟨g, P.length * 2 + 1, none⟩ = some (.int .i64 y.2) ∧ w.frozen? ⟨g, P.length * 2 + 1, none⟩ = false := by
  have hf := h
  rcases ownNd_form h with ⟨_, h0⟩ | ⟨g, cap, rfl, hb, hg, hn, hc, hin⟩
  · simp at h0
  · have e : (P ++ [y]).length = P.length + 1 := by simp
    have hl := hin.2 P.length (by simp)
    have eg : (P ++ [y]).getD P.length nz = y := by simp [List.getD_eq_getElem?_getD]
    rw [eg, Nat.zero_add] at hl
    rw [e] at hf hn ⊢
    exact ⟨g, cap, rfl, hb, hg, hn, hl.1, hl.2, World.ownsRow.frozenAt (by unfold OwnNd at hf; rw [e] at hf; exact hf) _⟩
theorem nd_cases (F : List Nd) : F = [] ∨ ∃ P y, F = P ++ [y] := by
  rcases List.eq_nil_or_concat F with h | ⟨P, y, h⟩
  · exact .inl h
  · exact .inr ⟨P, y, by rw [h, List.concat_eq_append]⟩
end Go.Proofs.YtkhacpapkalkiaaGreat
