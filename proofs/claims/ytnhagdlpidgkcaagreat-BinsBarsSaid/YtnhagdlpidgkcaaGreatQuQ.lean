/- Texts laid together: QuLst, QuSrt, QuLea, QuMan, QuP. -/
import Derived.Test.YtnhagdlpidgkcaaGreatDgQ
import Derived.Test.YtnhagdlpidgkcaaGreatMmy
import Derived.Test.YtnhagdlpidgkcaaGreatSortI
import Derived.Sort.OwnSortedInts
import Derived.Test.YtnhagdlpidgkcaaGreatRnT
import Derived.Test.YtnhagdlpidgkcaaGreatRkT
import Derived.Deep.RegionWith
import Derived.Deep.Cut
import Derived.Deep.DeepCutAuto
import Derived.Test.YtnhagdlpidgkcaaGreatDvQ
namespace Go.Proofs.YtnhagdlpidgkcaaGreat
set_option linter.unusedVariables false
/-- the first place from which on so much weighs -/
def lstT (e : Int → Int) (L : List Nd) (r : Int) (S : List Int) : Nat := S.findIdx fun y => decide (r ≤ wtE e L y)
theorem rise_pair : ∀ {S : List Int}, RiseI S → S.Pairwise (fun a b => a ≤ b)
  | [], _ => .nil
  | x :: S, ⟨a, b⟩ => .cons (fun y hy => Int.le_of_lt (a y hy)) (rise_pair b)
theorem pair_at {S : List Int} (h : S.Pairwise (fun a b => a ≤ b)) {i j : Nat} (hij : i ≤ j) (hj : j < S.length) : S.getD i 0 ≤ S.getD j 0 := by
  have hi : i < S.length := by omega
  have ei : S.getD i 0 = S[i] := by simp [List.getD_eq_getElem?_getD, hi]
  have ej : S.getD j 0 = S[j] := by simp [List.getD_eq_getElem?_getD, hj]
  rw [ei, ej]
  rcases Nat.lt_or_eq_of_le hij with q | q
  · exact List.pairwise_iff_getElem.1 h i j hi hj q
  · subst q; exact Int.le_refl _
theorem lst_is {e : Int → Int} {L : List Nd} {r : Int} {S : List Int} (he : ∀ n ∈ L, 0 ≤ e n.1) (nn : NonNeg L) (h1 : 1 ≤ r) (h2 : r ≤ sumC L) (hs : S.Pairwise (fun a b => a ≤ b)) (hm : ∀ y, y ∈ S ↔ ∃ n ∈ L, e n.1 = y) :
    lstT e L r S < S.length ∧ S.getD (lstT e L r S) 0 = bestE e L r L ∧ ∀ k, k < S.length → decide (r ≤ wtE e L (S.getD k 0)) = decide (lstT e L r S ≤ k) := by
  obtain ⟨a, m, hmL, em⟩ := best_at he nn h1 h2
  have ins : bestE e L r L ∈ S := (hm _).2 ⟨m, hmL, em.symm⟩
  have lt : lstT e L r S < S.length := List.findIdx_lt_length_of_exists ⟨_, ins, decide_eq_true a.is⟩
  have eT : S.getD (lstT e L r S) 0 = S[lstT e L r S] := by simp [List.getD_eq_getElem?_getD, lt]
  have isT : r ≤ wtE e L (S.getD (lstT e L r S) 0) := by
    rw [eT]; exact of_decide_eq_true (List.findIdx_getElem (w := lt))
  have bef : ∀ k, k < lstT e L r S → ¬ r ≤ wtE e L (S.getD k 0) := fun k hk q => by
    have hk2 : k < S.length := by omega
    have ek : S.getD k 0 = S[k] := by simp [List.getD_eq_getElem?_getD, hk2]
    rw [ek] at q
    have := List.not_of_lt_findIdx (p := fun y => decide (r ≤ wtE e L y)) (xs := S) hk
    simp at this
    omega
  refine ⟨lt, ?_, fun k hk => ?_⟩
  · refine AtP.uniq ⟨isT, fun z hz => ?_⟩ a
    rcases Int.lt_or_le (wtE e L z) r with q | q
    · exact q
    · exfalso
      obtain ⟨n, hn, hz2, hw2⟩ := wtE_at (e := e) (L := L) (z := z) (by omega)
      obtain ⟨j, hj, ej⟩ := List.mem_iff_getElem.1 ((hm _).2 ⟨n, hn, rfl⟩)
      have ej2 : S.getD j 0 = e n.1 := by simp [List.getD_eq_getElem?_getD, hj, ej]
      rcases Nat.lt_or_ge j (lstT e L r S) with g | g
      · have := bef j g; rw [ej2] at this; omega
      · have := pair_at hs g hj; omega
  · refine decide_eq_decide.2 ⟨fun q => ?_, fun q => ?_⟩
    · rcases Nat.lt_or_ge k (lstT e L r S) with g | g
      · exact absurd q (bef k g)
      · exact g
    · have := wtE_mono (e := e) nn (pair_at hs q hk)
      omega
/-- of the ends of nodes, the first that will do is what At tells -/
theorem lst_at {l : Int} {L : List Nd} {r : Int} (h : RollC l L) (h1 : 1 ≤ r) (h2 : r ≤ sumC L) : lstT (hiN l) L r (stepsN l L) < (stepsN l L).length ∧ (stepsN l L).getD (lstT (hiN l) L r (stepsN l L)) 0 = atN l L r ∧ ∀ k, k < (stepsN l L).length → decide (r ≤ lowR l L ((stepsN l L).getD k 0)) = decide (lstT (hiN l) L r (stepsN l L) ≤ k) :=
  lst_is (fun n hn => by have := node_ends h hn; omega) (good_nonneg (roll_good h)) h1 h2 (rise_pair (steps_rise l L)) (steps_mem l L)
end Go.Proofs.YtnhagdlpidgkcaaGreat
namespace Go.Proofs.YtnhagdlpidgkcaaGreat
set_option linter.unusedVariables false
set_option maxRecDepth 100000
open Go.RowKit Go.Sort Go.Shelf
set_option maxHeartbeats 1600000 in
/-- what sort.Search finds, whatever the closure leaves behind it -/
theorem srch_any (F : Nat) (caps : Array Value) (n T : Nat) (hT : T ≤ n) (hn : n ≤ 1000000) (I : World → Prop) (w : World) (hI : I w) (eg : ∀ args w, (callFunc F args).run Tryz.prog w = .ok (.enter F args) w)
    (hf : ∀ (v : World) (k : Nat), k < n → I v → Calls Tryz.prog F (#[.int .i64 (k : Int)] ++ caps) v fun e v' => e = .returned (.bool (decide (T ≤ k))) ∧ I v') :
    Calls Tryz.prog 106 #[.int .i64 (n : Int), .func (.func F) #[] caps] w fun e w' => e = .returned (.int .i64 (T : Int)) ∧ I w' := by
  have HF := Lib.hid hf
  have HI := Lib.hid hI
  clear hf hI
  go_enter Tryz.func106, Tryz.ntmps106
  go_wp2_with fail
  go_loopw [5, 6] (fun s5 s6 wr => ∃ (lo hi : Nat), s5 = .int .i64 (lo : Int) ∧ s6 = .int .i64 (hi : Int) ∧ lo ≤ T ∧ T ≤ hi ∧ hi ≤ n ∧ Hid (I wr)) (fun s5 s6 _ => (intOf s6).toNat - (intOf s5).toNat)
  case atStart => exact ⟨0, n, rfl, rfl, Nat.zero_le _, hT, Nat.le_refl _, HI⟩
  case round =>
    obtain ⟨lo, hi, rfl, rfl, h1, h2, h3, HW⟩ := hrel
    by_cases hlt : lo < hi
    · have hc := HF.out wr ((lo + hi) / 2) (by omega) HW.out
      rw [show (((lo + hi) / 2 : Nat) : Int) = ((lo : Int) + (hi : Int)) / 2 by omega] at hc
      by_cases hp : T ≤ (lo + hi) / 2
      · rw [decide_eq_true hp] at hc
        go_wp2_with (go_at_fn F; refine hc.mono ?_; rintro e w' ⟨rfl, HW2⟩; have HW3 := Lib.hid HW2; clear HW2)
        go_roundw
        case rel => exact ⟨lo, (lo + hi) / 2, rfl, by go_num, h1, hp, by omega, HW3⟩
        case measure => simp [intOf]; omega
      · rw [decide_eq_false hp] at hc
        go_wp2_with (go_at_fn F; refine hc.mono ?_; rintro e w' ⟨rfl, HW2⟩; have HW3 := Lib.hid HW2; clear HW2)
        go_roundw
        case rel => exact ⟨(lo + hi) / 2 + 1, hi, by go_num, rfl, by omega, h2, h3, HW3⟩
        case measure => simp [intOf]; omega
    · obtain rfl : lo = T := by omega
      go_wp2_with fail
      go_ret
      exact ⟨rfl, HW.out⟩
end Go.Proofs.YtnhagdlpidgkcaaGreat
namespace Go.Proofs.YtnhagdlpidgkcaaGreat
set_option linter.unusedVariables false
set_option maxRecDepth 100000
open Go.RowKit
theorem ints_at {w : World} {A : Option Addr} {n c i : Nat} {S : List Int} (h : IntsAt w (.slice A n c) S) (hi : i < n) : ∃ b o, A = some ⟨b, o, none⟩ ∧ b < w.heap.size ∧ w.cell? ⟨b, o + i, none⟩ = some (.int .i64 (S.getD i 0)) := by
  obtain ⟨e, hc⟩ := ints_cells h
  obtain ⟨b, o, h1, h2, h3⟩ := hc (by omega)
  exact ⟨b, o, h1, h2, h3 i (by omega)⟩
set_option maxHeartbeats 3200000 in
theorem quLeast1_any {F Nu Ne Nr t i n c : Nat} {A : Option Addr} {S : List Int} (r z : Int) (w : World) (h : IntsAt w (.slice A n c) S) (hi : i < n) (eg : ∀ args w, (callFunc F args).run Tryz.prog w = .ok (.enter F args) w)
    (e0 : w.cell? ⟨Nu, 0, none⟩ = some (.func (.func F) #[.pointer (some ⟨t, 0, none⟩)] #[])) (e1 : w.cell? ⟨Ne, 0, none⟩ = some (.slice A n c)) (e2 : w.cell? ⟨Nr, 0, none⟩ = some (.int .i64 r))
    (b0 : Nu < w.heap.size) (b1 : Ne < w.heap.size) (b2 : Nr < w.heap.size)
    (HF : ∀ v, Below w.heap.size w v → Calls Tryz.prog F #[.pointer (some ⟨t, 0, none⟩), .int .i64 (S.getD i 0)] v fun e v' => e = .returned (.int .i64 z) ∧ Below v.heap.size v v') :
    Calls Tryz.prog 126 #[.int .i64 (i : Int), .pointer (some ⟨Nu, 0, none⟩), .pointer (some ⟨Ne, 0, none⟩), .pointer (some ⟨Nr, 0, none⟩)] w fun e w' => e = .returned (.bool (decide (r ≤ z))) ∧ Below w.heap.size w w' := by
  obtain ⟨b, o, rfl, hb, e3⟩ := ints_at h hi
  have PF := Lib.hid HF
  have hi0 : (0 : Int) ≤ (i : Int) := Int.natCast_nonneg _
  have hi1 : (i : Int) < (n : Int) := by omega
  clear h HF
  generalize S.getD i 0 = x at *
  go_enter Tryz.func126, Tryz.ntmps126
  go_wp2_with fail
  go_region_with (first | (go_at_fn F; refine (PF.out _ (below_drew _)).mono ?_; rintro e v1 ⟨rfl, hb1⟩; have c0 := (hb1.cell (p := ⟨Nr, 0, none⟩) b2).trans e2; have c1 := (hb1.cell (p := ⟨Ne, 0, none⟩) b1).trans e1; have B1 := Lib.hid ((below_drew w).trans hb1); clear hb1))
  all_goals (go_wp2_with fail; go_ret; exact ⟨rfl, B1.out⟩)
theorem quLeast_tell {F Nu Ne Nr t n c T : Nat} {A : Option Addr} {S : List Int} (f : Int → Int) (r : Int) (w : World) (h : IntsAt w (.slice A n c) S) (hn : n ≤ 1000000) (eg : ∀ args w, (callFunc F args).run Tryz.prog w = .ok (.enter F args) w)
    (HF : ∀ x ∈ S, ∀ v, Below w.heap.size w v → Calls Tryz.prog F #[.pointer (some ⟨t, 0, none⟩), .int .i64 x] v fun e v' => e = .returned (.int .i64 (f x)) ∧ Below v.heap.size v v')
    (hT : T < S.length) (hp : ∀ k, k < S.length → decide (r ≤ f (S.getD k 0)) = decide (T ≤ k))
    (e0 : w.cell? ⟨Nu, 0, none⟩ = some (.func (.func F) #[.pointer (some ⟨t, 0, none⟩)] #[])) (e1 : w.cell? ⟨Ne, 0, none⟩ = some (.slice A n c)) (e2 : w.cell? ⟨Nr, 0, none⟩ = some (.int .i64 r))
    (b0 : Nu < w.heap.size) (b1 : Ne < w.heap.size) (b2 : Nr < w.heap.size) :
    Calls Tryz.prog 106 #[.int .i64 (n : Int), .func (.func 126) #[] #[.pointer (some ⟨Nu, 0, none⟩), .pointer (some ⟨Ne, 0, none⟩), .pointer (some ⟨Nr, 0, none⟩)]] w fun e w' => e = .returned (.int .i64 (T : Int)) ∧ Below w.heap.size w w' := by
  have hl := (ints_cells h).1
  refine srch_any 126 _ n T (by omega) hn (fun v => Below w.heap.size w v) w (Below.refl _ _) (enters_of Tryz.func126 (by kernel_rfl) rfl) fun v k hk hb => ?_
  have q := quLeast1_any (F := F) (t := t) r (f (S.getD k 0)) v (h.below hb) hk eg ((hb.cell (p := ⟨Nu, 0, none⟩) b0).trans e0) ((hb.cell (p := ⟨Ne, 0, none⟩) b1).trans e1) ((hb.cell (p := ⟨Nr, 0, none⟩) b2).trans e2) (Nat.lt_of_lt_of_le b0 hb.size) (Nat.lt_of_lt_of_le b1 hb.size) (Nat.lt_of_lt_of_le b2 hb.size)
    (fun u hu => HF _ (getD_mem (by omega)) u (hb.trans (hu.mono hb.size)))
  rw [hp k (by omega)] at q
  exact q.mono fun e v' ⟨a, b⟩ => ⟨a, hb.trans (b.mono hb.size)⟩
set_option maxHeartbeats 3200000 in
theorem quLeast_any {F t n c T : Nat} {A : Option Addr} {S : List Int} (f : Int → Int) (r : Int) (w : World) (h : IntsAt w (.slice A n c) S) (hn : n ≤ 1000000) (eg : ∀ args w, (callFunc F args).run Tryz.prog w = .ok (.enter F args) w)
    (HF : ∀ x ∈ S, ∀ v, Below w.heap.size w v → Calls Tryz.prog F #[.pointer (some ⟨t, 0, none⟩), .int .i64 x] v fun e v' => e = .returned (.int .i64 (f x)) ∧ Below v.heap.size v v')
    (hT : T < S.length) (hp : ∀ k, k < S.length → decide (r ≤ f (S.getD k 0)) = decide (T ≤ k)) :
    Calls Tryz.prog 84 #[.slice A n c, .func (.func F) #[.pointer (some ⟨t, 0, none⟩)] #[], .int .i64 r] w fun e w' => e = .returned (.int .i64 (S.getD T 0)) ∧ Below w.heap.size w w' := by
  have hl := (ints_cells h).1
  have SR := Lib.hid (fun (v : World) (hb : Below w.heap.size w v) Nu Ne Nr => quLeast_tell (F := F) (Nu := Nu) (Ne := Ne) (Nr := Nr) (t := t) f r v (h.below hb) hn eg (fun x hx u hu => HF x hx u (hb.trans (hu.mono hb.size))) hT hp)
  obtain ⟨b, o, rfl, hbz, e3⟩ := ints_at h (show T < n by omega)
  have T0 : (0 : Int) ≤ (T : Int) := Int.natCast_nonneg _
  have T1 : (T : Int) < (n : Int) := by omega
  clear h HF hp hT hl
  generalize S.getD T 0 = x at *
  have HB := Lib.hid ((((Below.refl w.heap.size w).alloc (Nat.le_refl _) (.cells #[.slice (some ⟨b, o, none⟩) n c] 27)).alloc (by simp) (.cells #[.func (.func F) #[.pointer (some ⟨t, 0, none⟩)] #[]] 81)).alloc (by simp; omega) (.cells #[.int .i64 r] 3))
  have mf : ∀ (fn : Fn) (first cap : Array Value) (w : World), (Instr.makeFunc fn first cap).run Tryz.prog w = .ok (.func fn first cap) w := fun _ _ _ _ => rfl
  go_enter Tryz.func84, Tryz.ntmps84
  go_upto_region 1 with fail
  have ce : (((w.alloc (.cells #[.slice (some ⟨b, o, none⟩) n c] 27)).alloc (.cells #[.func (.func F) #[.pointer (some ⟨t, 0, none⟩)] #[]] 81)).alloc (.cells #[.int .i64 r] 3)).cell? ⟨w.heap.size, 0, none⟩ = some (.slice (some ⟨b, o, none⟩) n c) := by
    rw [old_cell (by simp; omega), old_cell (by simp), new_cell _ _ _ _ rfl]
  have cu : (((w.alloc (.cells #[.slice (some ⟨b, o, none⟩) n c] 27)).alloc (.cells #[.func (.func F) #[.pointer (some ⟨t, 0, none⟩)] #[]] 81)).alloc (.cells #[.int .i64 r] 3)).cell? ⟨w.heap.size + 1, 0, none⟩ = some (.func (.func F) #[.pointer (some ⟨t, 0, none⟩)] #[]) := by
    rw [old_cell (by simp), new_cell _ _ _ _ (by simp)]
  have cr : (((w.alloc (.cells #[.slice (some ⟨b, o, none⟩) n c] 27)).alloc (.cells #[.func (.func F) #[.pointer (some ⟨t, 0, none⟩)] #[]] 81)).alloc (.cells #[.int .i64 r] 3)).cell? ⟨w.heap.size + 1 + 1, 0, none⟩ = some (.int .i64 r) := by
    rw [new_cell _ _ _ _ (by simp)]
  have zz : w.heap.size + 1 + 1 < (((w.alloc (.cells #[.slice (some ⟨b, o, none⟩) n c] 27)).alloc (.cells #[.func (.func F) #[.pointer (some ⟨t, 0, none⟩)] #[]] 81)).alloc (.cells #[.int .i64 r] 3)).heap.size := by simp
  have ze : w.heap.size < (((w.alloc (.cells #[.slice (some ⟨b, o, none⟩) n c] 27)).alloc (.cells #[.func (.func F) #[.pointer (some ⟨t, 0, none⟩)] #[]] 81)).alloc (.cells #[.int .i64 r] 3)).heap.size := by simp; omega
  have zu : w.heap.size + 1 < (((w.alloc (.cells #[.slice (some ⟨b, o, none⟩) n c] 27)).alloc (.cells #[.func (.func F) #[.pointer (some ⟨t, 0, none⟩)] #[]] 81)).alloc (.cells #[.int .i64 r] 3)).heap.size := by simp
  have e3' := (HB.out.cell (p := ⟨b, o + T, none⟩) hbz).trans e3
  have bz' := Nat.lt_of_lt_of_le hbz HB.out.size
  have SR2 := Lib.hid (SR.out _ HB.out (w.heap.size + 1) w.heap.size (w.heap.size + 1 + 1) cu ce cr zu ze zz)
  clear e3 SR
  generalize ((w.alloc (.cells #[.slice (some ⟨b, o, none⟩) n c] 27)).alloc (.cells #[.func (.func F) #[.pointer (some ⟨t, 0, none⟩)] #[]] 81)).alloc (.cells #[.int .i64 r] 3) = W at *
  generalize w.heap.size + 1 + 1 = Nr at *
  generalize w.heap.size + 1 = Nu at *
  obtain ⟨Ne, hNe⟩ : ∃ Ne, Ne = w.heap.size := ⟨_, rfl⟩
  rw [← hNe] at ce ze SR2 ⊢
  have HN := Lib.hid hNe
  clear hNe
  go_wp2_with fail
  refine SR2.out.mono ?_
  rintro e w1 ⟨rfl, hb1⟩
  have ce1 := (hb1.cell (p := ⟨Ne, 0, none⟩) ze).trans ce
  have e4 := (hb1.cell (p := ⟨b, o + T, none⟩) bz').trans e3'
  have B1 := Lib.hid (HB.out.trans (hb1.mono HB.out.size))
  have ze1 := Nat.lt_of_lt_of_le ze hb1.size
  have bz1 := Nat.lt_of_lt_of_le bz' hb1.size
  clear hb1
  go_wp2_with fail
  go_ret
  exact ⟨rfl, B1.out⟩
end Go.Proofs.YtnhagdlpidgkcaaGreat
namespace Go.Proofs.YtnhagdlpidgkcaaGreat
set_option linter.unusedVariables false
set_option maxRecDepth 100000
open Go.RowKit
theorem mnE_take {L : List Nd} {R : List Int} : ∀ {j : Nat}, j ≤ R.length → mnE L (R.take j) = 0 → mnE L R = mnE L (R.drop j)
  | 0, _, _ => rfl
  | j + 1, h, z => by
    cases R with
    | nil => simp at h
    | cons r R =>
      simp only [List.take_succ_cons, mnE, List.drop_succ_cons] at z ⊢
      split at z
      · rename_i e
        rw [if_pos e]
        exact mnE_take (by simpa using h) z
      · rename_i e; exact absurd z e
theorem mnE_at {L : List Nd} {R : List Int} {j : Nat} (h : j < R.length) (z : mnE L (R.take j) = 0) : (wrE L (R.getD j 0) = 0 → mnE L (R.take (j + 1)) = 0) ∧ (¬ wrE L (R.getD j 0) = 0 → mnE L R = wrE L (R.getD j 0)) := by
  have a := mnE_take (L := L) (R := R) (j := j) (by omega) z
  have d := drop_at h
  refine ⟨fun e => ?_, fun e => ?_⟩
  · clear a d
    induction R generalizing j with
    | nil => simp at h
    | cons r R ih =>
      cases j with
      | zero =>
        have e2 : wrE L r = 0 := e
        show mnE L (List.take (0 + 1) (r :: R)) = 0
        simp only [List.take_succ_cons, List.take_zero, mnE]
        rw [if_pos e2]
      | succ j =>
        simp only [List.take_succ_cons, mnE] at z ⊢
        split at z
        · rename_i q
          rw [if_pos q]
          exact ih (by simpa using h) z (by simpa using e)
        · rename_i q; exact absurd z q
  · rw [a, d, mnE, if_neg e]
theorem mnE_all {L : List Nd} {R : List Int} (z : mnE L R = 0) : ∀ r ∈ R, wrE L r = 0 := by
  induction R with
  | nil => intro r h; simp at h
  | cons x R ih =>
    simp only [mnE] at z
    split at z
    · rename_i q
      intro r h
      rcases List.mem_cons.1 h with e | e
      · rw [e]; exact q
      · exact ih z r e
    · rename_i q; exact absurd z q
/-- a row of which so many have been put -/
def mnR (f : Int → Int) (R : List Int) (j : Nat) : List Int := (R.take j).map f ++ List.replicate (R.length - j) 0
theorem mnR_len (f : Int → Int) {R : List Int} {j : Nat} (h : j ≤ R.length) : (mnR f R j).length = R.length := by
  unfold mnR; rw [List.length_append, List.length_map, List.length_take, List.length_replicate]; omega
theorem mnR_zero (f : Int → Int) (R : List Int) : mnR f R 0 = List.replicate R.length 0 := by simp [mnR]
theorem mnR_all (f : Int → Int) (R : List Int) : mnR f R R.length = R.map f := by simp [mnR]
theorem mnR_set (f : Int → Int) {R : List Int} {j : Nat} (h : j < R.length) : (ints (mnR f R j)).set j (.int .i64 (f (R.getD j 0))) = ints (mnR f R (j + 1)) := by
  have e : List.replicate (R.length - j) (0 : Int) = 0 :: List.replicate (R.length - (j + 1)) 0 := by
    rw [show R.length - j = R.length - (j + 1) + 1 by omega, List.replicate_succ]
  have l : (ints ((R.take j).map f)).length = j := by rw [ints_len, List.length_map, List.length_take]; omega
  unfold mnR
  rw [e, ints_app, take_at h, List.map_append, List.append_assoc, ints_app, List.set_append_right _ _ (by omega), l, Nat.sub_self]
  rfl
theorem quNothing_any {B q p g h : Nat} {kd l k : Int} {n : Nat} {L : List Nd} (w : World) (d : DgA w B q p g h kd l k n L) (hn : n ≤ 400) :
    Calls Tryz.prog 80 #[.pointer (some ⟨q, 0, none⟩)] w fun e w' => e = .returned (.int .i64 (if sumC L = 0 then 7 else 0)) ∧ Below w.heap.size w w' := by
  have PN : ∀ w, (binOp .eql 31 (.pointer (some ⟨q, 0, none⟩)) (.pointer none)).run Tryz.prog w = .ok (.bool false) w := fun _ => by kernel_rfl
  have DN := Lib.hid (dgN_any w d.box d.po (by omega))
  clear d
  generalize sumC L = s at *
  by_cases z : s = 0
  · rw [if_pos z]
    have z1 : (s == 0) = true := beq_iff_eq.2 z
    clear z
    go_enter Tryz.func80, Tryz.ntmps80
    go_wp2_with (go_at_call 28; refine DN.out.mono ?_; rintro e w1 ⟨rfl, hb1⟩)
    go_ret
    exact ⟨rfl, hb1⟩
  · rw [if_neg z]
    have z1 : (s == 0) = false := beq_eq_false_iff_ne.2 z
    clear z
    go_enter Tryz.func80, Tryz.ntmps80
    go_wp2_with (go_at_call 28; refine DN.out.mono ?_; rintro e w1 ⟨rfl, hb1⟩)
    go_ret
    exact ⟨rfl, hb1⟩
set_option maxHeartbeats 1600000 in
theorem quRefused_any {B q p g h : Nat} {kd l k : Int} {n : Nat} {L : List Nd} (r : Int) (w : World) (d : DgA w B q p g h kd l k n L) (hn : n ≤ 400) (R0 : -9223372036854775808 ≤ r) (R1 : r ≤ 9223372036854775807) :
    Calls Tryz.prog 82 #[.pointer (some ⟨q, 0, none⟩), .int .i64 r] w fun e w' => e = .returned (.int .i64 (wrE L r)) ∧ Below w.heap.size w w' := by
  have QN := Lib.hid (quNothing_any w d hn)
  have DN := Lib.hid (fun v hb => dgN_any v (d.box.below hb) (d.po.below hb) (show n ≤ 1000 by omega))
  have WE : Hid (wrE L r = if sumC L = 0 then 7 else if r < 1 ∨ sumC L < r then 2 else 0) := rfl
  clear d
  generalize wrE L r = E at *
  generalize sumC L = s at *
  by_cases z : s = 0
  · have hE : E = 7 := by rw [WE.out, if_pos z]
    subst hE
    rw [if_pos z] at QN
    clear z
    go_enter Tryz.func82, Tryz.ntmps82
    go_wp2_with (go_at_call 80; refine QN.out.mono ?_; rintro e w1 ⟨rfl, hb1⟩)
    go_ret
    exact ⟨rfl, hb1⟩
  · rw [if_neg z] at QN
    by_cases r1 : r < 1
    · have hE : E = 2 := by rw [WE.out, if_neg z, if_pos (.inl r1)]
      subst hE
      clear z
      go_enter Tryz.func82, Tryz.ntmps82
      go_wp2_with (go_at_call 80; refine QN.out.mono ?_; rintro e w1 ⟨rfl, hb1⟩)
      go_ret
      exact ⟨rfl, hb1⟩
    · by_cases r2 : s < r
      · have hE : E = 2 := by rw [WE.out, if_neg z, if_pos (.inr r2)]
        subst hE
        clear z
        go_enter Tryz.func82, Tryz.ntmps82
        go_wp2_with (first | (go_at_call 80; refine QN.out.mono ?_; rintro e w1 ⟨rfl, hb1⟩) | (go_at_call 28; refine (DN.out _ hb1).mono ?_; rintro e w2 ⟨rfl, hb2⟩))
        go_ret
        exact ⟨rfl, hb1.trans (hb2.mono hb1.size)⟩
      · have hE : E = 0 := by rw [WE.out, if_neg z, if_neg (by omega)]
        subst hE
        clear z
        go_enter Tryz.func82, Tryz.ntmps82
        go_wp2_with (first | (go_at_call 80; refine QN.out.mono ?_; rintro e w1 ⟨rfl, hb1⟩) | (go_at_call 28; refine (DN.out _ hb1).mono ?_; rintro e w2 ⟨rfl, hb2⟩))
        go_ret
        exact ⟨rfl, hb1.trans (hb2.mono hb1.size)⟩
set_option maxHeartbeats 6400000 in
theorem quMany_own {B q p g h : Nat} {kd l k : Int} {m : Nat} {L : List Nd} {A : Option Addr} {n c : Nat} {R : List Int} (w : World) (d : DgA w B q p g h kd l k m L) (hm : m ≤ 400) (hR : IntsAt w (.slice A n c) R) (hn : n ≤ 1000) (hb : ∀ r ∈ R, -9223372036854775808 ≤ r ∧ r ≤ 9223372036854775807) :
    Calls Tryz.prog 44 #[.pointer (some ⟨q, 0, none⟩), .slice A n c] w fun e w' =>
      (∃ A2 n2 c2, e = .returned (.tuple #[.slice A2 n2 c2, .int .i64 (mnE L R)]) ∧ OwnI 3 w' w.heap.size (.slice A2 n2 c2) (if mnE L R = 0 then R.map (atN l L) else [])) ∧ Below w.heap.size w w' := by
  obtain ⟨i0, hi, hz0, hz1, hz2⟩ := info_parts rkInt_info
  have hmk := make_all (P := Tryz.prog) Tryz.underlying27 hi hz0 hz1 hz2 n n (Nat.mul_one _) (n : Int) rfl (by omega) (by omega)
  have mf : ∀ (fn : Fn) (first cap : Array Value) (w : World), (Instr.makeFunc fn first cap).run Tryz.prog w = .ok (.func fn first cap) w := fun _ _ _ _ => rfl
  have HL := Lib.hid (ints_cells hR).1
  have HA := Lib.hid hR
  have HB := Lib.hid hb
  have DD := Lib.hid d
  have RF := Lib.hid (fun r v (hv : Below w.heap.size w v) a b => quRefused_any r v (d.below hv) hm a b)
  have OF := Lib.hid (fun v (hv : Below w.heap.size w v) => rnkOf_any v (d.below hv) hm)
  have RO := Lib.hid d.v.roll
  obtain ⟨Z, hZ⟩ : ∃ Z, Z = mnE L R := ⟨_, rfl⟩
  obtain ⟨T, hT⟩ : ∃ T, T = if mnE L R = 0 then R.map (atN l L) else [] := ⟨_, rfl⟩
  rw [← hT, ← hZ]
  have ZZ := Lib.hid hZ
  have TT := Lib.hid hT
  clear d hR hb hZ hT
  go_enter Tryz.func44, Tryz.ntmps44
  go_wp2_with fail
  go_loopw [16] (fun i wr => ∃ j : Nat, j ≤ n ∧ i = .int .i64 j ∧ Hid (mnE L (R.take j) = 0) ∧ Below w.heap.size w wr) (fun i _ => n - (intOf i).toNat)
  case atStart => exact ⟨0, by omega, rfl, Lib.hid rfl, Below.refl _ _⟩
  case round =>
    obtain ⟨j, hj, rfl, hz, hbw⟩ := hrel
    have BW := Lib.hid hbw
    have HZ := Lib.hid hz.out
    clear hz hbw
    by_cases hlt : j < n
    · have hjl : j < R.length := by have := HL.out; omega
      obtain ⟨b, o, rfl, hbz, e0⟩ := ints_at (HA.out.below BW.out) hlt
      have MA := Lib.hid (mnE_at hjl HZ.out)
      have bd := HB.out _ (getD_mem hjl)
      have RR := Lib.hid (RF.out (R.getD j 0) wr BW.out bd.1 bd.2)
      generalize R.getD j 0 = r at *
      have j0 : (0 : Int) ≤ (j : Int) := Int.natCast_nonneg _
      have j1 : (j : Int) < (n : Int) := by omega
      by_cases hw : wrE L r = 0
      · rw [hw] at RR
        have MZ := Lib.hid (MA.out.1 hw)
        clear hw MA
        go_wp2_with (go_at_call 82; refine RR.out.mono ?_; rintro e w4 ⟨rfl, hb4⟩; have B4 := Lib.hid (BW.out.trans (hb4.mono BW.out.size)); clear hb4)
        go_roundw
        case rel => exact ⟨j + 1, by omega, by go_num, MZ, B4.out⟩
        case measure => simp [intOf]; omega
      · have ME := Lib.hid (MA.out.2 hw)
        have hw2 : (wrE L r != 0) = true := by simpa using hw
        have HW := Lib.hid hw
        clear hw MA
        generalize wrE L r = E at *
        go_wp2_with (go_at_call 82; refine RR.out.mono ?_; rintro e w4 ⟨rfl, hb4⟩; have B4 := Lib.hid (BW.out.trans (hb4.mono BW.out.size)); clear hb4)
        go_ret2
        have hZ : Z = E := ZZ.out.trans ME.out
        have hT : T = [] := by rw [TT.out, ME.out, if_neg HW.out]
        subst hZ hT
        exact ⟨⟨none, 0, 0, rfl, ownI_nil _ _ _⟩, B4.out⟩
    · obtain rfl : j = n := by omega
      have ez : mnE L R = 0 := by
        have q := HZ.out
        rwa [List.take_of_length_le (by have := HL.out; omega)] at q
      have W0 := Lib.hid (mnE_all ez)
      have hZ : Z = 0 := ZZ.out.trans ez
      have hT : T = R.map (atN l L) := by rw [TT.out, if_pos ez]
      subst hZ
      have HT := Lib.hid hT
      clear ez HZ RF hT ZZ TT
      go_wp2_with fail
      refine (OF.out _ BW.out).mono ?_
      rintro e w1 ⟨⟨t, rfl, ht⟩, hb1⟩
      have B1 := Lib.hid (BW.out.trans (hb1.mono BW.out.size))
      have T1 := Lib.hid ht
      clear ht hb1 OF
      go_wp2_with fail
      refine (rnkTSteps_any _ T1.out).mono ?_
      rintro e w2 ⟨⟨A2, n2, c2, rfl, hi2, hn2⟩, hb2⟩
      have T2 := Lib.hid (rnkTB_below T1.out hb2)
      have B2 := Lib.hid (B1.out.trans (hb2.mono B1.out.size))
      have I2 := Lib.hid hi2
      have N2 := Lib.hid hn2
      have z2 := B2.out.size
      clear hi2 hn2 hb2 T1 B1 BW
      have LE := Lib.hid (enters_of Tryz.func33 (by kernel_rfl) rfl)
      have O3 := World.ownsRow_lit (base := w2.heap.size) (e := 3) (size := 1) w2 (blank (.int .i64 0) j) j (Nat.le_refl _) (by unfold maxLen; omega) (by rw [blank_size]; simp)
      rw [blank_ints, show List.replicate j (0 : Int) = mnR (atN l L) R 0 by rw [mnR_zero, ← HL.out]] at O3
      have HO := Lib.hid O3
      have BA := Lib.hid ((Below.refl w2.heap.size w2).alloc (Nat.le_refl _) (.cells (blank (.int .i64 0) j) 3))
      clear O3
      go_upto_region 11 with fail
      obtain ⟨gg, hgg⟩ : ∃ gg, gg = w2.heap.size := ⟨_, rfl⟩
      generalize w2.alloc (.cells (blank (.int .i64 0) j) 3) = W3 at *
      rw [← hgg] at HO ⊢
      have GG := Lib.hid hgg
      clear hgg
      go_wp2_with fail
      go_loopw [36] (fun i wr => ∃ i1 : Nat, i1 ≤ j ∧ i = .int .i64 i1 ∧ wr.ownsRow gg 3 1 (.slice (some ⟨gg, 0, none⟩) j j) j (ints (mnR (atN l L) R i1)) ∧ Below gg w2 wr) (fun i _ => j - (intOf i).toNat)
      case atStart => exact ⟨0, by omega, rfl, HO.out, by rw [GG.out]; exact BA.out⟩
      case round =>
        obtain ⟨i1, hj, rfl, ho, hbw⟩ := hrel
        have OO := Lib.hid ho
        have BW := Lib.hid (show Below w2.heap.size w2 wr by rw [← GG.out]; exact hbw)
        clear ho hbw
        by_cases hlt : i1 < j
        · have hjl : i1 < R.length := by have := HL.out; omega
          have BR := Lib.hid (B2.out.trans (BW.out.mono z2))
          obtain ⟨b, o, rfl, hbz, e0⟩ := ints_at (HA.out.below BR.out) hlt
          have MS := Lib.hid (mnR_set (atN l L) hjl)
          obtain ⟨_, r1, r2⟩ := wrE_zero (W0.out _ (getD_mem hjl))
          obtain ⟨lt, at', dec⟩ := lst_at RO.out r1 r2
          have LS := Lib.hid (quLeast_any (F := 33) (t := t) (lowR l L) (R.getD i1 0) wr (I2.out.below BW.out) (by have := N2.out; omega) LE.out (fun x _ v hv => rnkTLow_any x v (rnkTB_below T2.out (BW.out.trans (hv.mono BW.out.size)))) lt dec)
          rw [at'] at LS
          have ML := mnR_len (atN l L) (R := R) (j := i1) (by omega)
          have HG : gg < wr.heap.size := (World.ownsRow.lt OO.out gg rfl).2
          clear r1 r2 lt at' dec
          generalize R.getD i1 0 = r at *
          generalize atN l L r = y at *
          generalize mnR (atN l L) R i1 = P at *
          obtain ⟨P2, hP2⟩ : ∃ P2, P2 = mnR (atN l L) R (i1 + 1) := ⟨_, rfl⟩
          rw [← hP2] at MS
          have HP2 := Lib.hid hP2
          clear hP2
          have j0 : (0 : Int) ≤ (i1 : Int) := Int.natCast_nonneg _
          have j1 : (i1 : Int) < (j : Int) := by omega
          go_wp2_with fail
          refine LS.out.mono ?_
          rintro e w5 ⟨rfl, hb5⟩
          have O5 := Lib.hid (own_below OO.out hb5)
          have S5 := O5.out.stored i1 (.int .i64 y)
          rw [MS.out] at S5
          have SS := Lib.hid S5.1
          have B5 := Lib.hid (show Below gg w2 (w5.setCell ⟨gg, i1, none⟩ (.int .i64 y)) by
            have a := BW.out.trans (hb5.mono BW.out.size)
            rw [GG.out]
            exact a.setCell (p := ⟨w2.heap.size, i1, none⟩) (Nat.le_refl _) _)
          obtain ⟨pv, cc⟩ : ∃ pv, w5.cell? ⟨gg, i1, none⟩ = some (.int .i64 pv) := ⟨P.getD i1 0, by
            have hp : i1 < P.length := by omega
            rw [O5.out.cellAt i1 (by omega)]
            simp [ints, List.getD_eq_getElem?_getD, hp]⟩
          have ff := O5.out.frozenAt i1
          have gz := Nat.lt_of_lt_of_le HG hb5.size
          clear hb5 S5
          go_wp2_with fail
          go_roundw
          case rel => exact ⟨i1 + 1, by omega, by go_num, by rw [← HP2.out]; exact SS.out, B5.out⟩
          case measure => simp [intOf]; omega
        · obtain rfl : i1 = j := by omega
          have e : mnR (atN l L) R i1 = R.map (atN l L) := by rw [HL.out]; exact mnR_all _ _
          rw [e] at OO
          have I5 : Hid (OwnI 3 wr w.heap.size (.slice (some ⟨gg, 0, none⟩) i1 i1) T) := by
            show OwnI _ _ _ _ _
            rw [HT.out]
            unfold OwnI
            rw [List.length_map, ← HL.out]
            exact own_low OO.out (by have := B2.out.size; have := GG.out; omega)
          have B5 := Lib.hid (B2.out.trans (BW.out.mono z2))
          clear e
          go_wp2_with fail
          go_ret2
          exact ⟨⟨_, _, _, rfl, I5.out⟩, B5.out⟩
end Go.Proofs.YtnhagdlpidgkcaaGreat
namespace Go.Proofs.YtnhagdlpidgkcaaGreat
set_option linter.unusedVariables false
set_option maxRecDepth 100000
open Go.RowKit
set_option maxHeartbeats 3200000 in
theorem quRank_any {B q p g h : Nat} {kd l k : Int} {n : Nat} {L : List Nd} (a b : Int) (w : World) (d : DgA w B q p g h kd l k n L) (hn : n ≤ 400) (A0 : -9223372036854775808 ≤ a) (A1 : a ≤ 9223372036854775807) (B0 : -9223372036854775808 ≤ b) (B1 : b ≤ 9223372036854775807) :
    Calls Tryz.prog 43 #[.pointer (some ⟨q, 0, none⟩), .int .i64 a, .int .i64 b] w fun e w' => e = .returned (.tuple #[.int .i64 (shN L a b), .int .i64 (shE L a b)]) ∧ Below w.heap.size w w' := by
  have QN := Lib.hid (quNothing_any w d hn)
  have s1 : sumC L ≤ 72057594037927935 := d.v.roll.2.2.2.2
  have s0 : 0 ≤ sumC L := by have nn := good_nonneg (roll_good d.v.roll); exact Int.le_trans (sum_le nn 0).1 (sum_le nn 0).2
  have DN := Lib.hid (fun v hb => dgN_any v (d.box.below hb) (d.po.below hb) (show n ≤ 1000 by omega))
  have PU := Lib.hid (fun v => partUp_any (sumC L) a b v (by omega) (by omega) A0 A1 B0 B1)
  have SE : Hid (shE L a b = if sumC L = 0 then 7 else if b < 1 ∨ a < 0 ∨ b < a then 2 else 0) := rfl
  have SN : Hid (shN L a b = if shE L a b = 0 then max (partUpN (sumC L) a b) 1 else 0) := by
    show _ = _
    unfold shN shR
    split
    · split <;> omega
    · rfl
  clear d
  generalize shN L a b = V at *
  generalize shE L a b = E at *
  generalize sumC L = s at *
  by_cases z : s = 0
  · have hE : E = 7 := by rw [SE.out, if_pos z]
    subst hE
    have hV : V = 0 := by rw [SN.out, if_neg (by omega)]
    subst hV
    rw [if_pos z] at QN
    clear z
    go_enter Tryz.func43, Tryz.ntmps43
    go_wp2_with (go_at_call 80; refine QN.out.mono ?_; rintro e w1 ⟨rfl, hb1⟩)
    go_ret2
    exact ⟨rfl, hb1⟩
  · rw [if_neg z] at QN
    by_cases c : b < 1 ∨ a < 0 ∨ b < a
    · have hE : E = 2 := by rw [SE.out, if_neg z, if_pos c]
      subst hE
      have hV : V = 0 := by rw [SN.out, if_neg (by omega)]
      subst hV
      clear z
      rcases (show b < 1 ∨ (¬ b < 1 ∧ a < 0) ∨ (¬ b < 1 ∧ ¬ a < 0 ∧ b < a) by omega) with c1 | ⟨c1, c2⟩ | ⟨c1, c2, c3⟩
      · clear c
        go_enter Tryz.func43, Tryz.ntmps43
        go_wp2_with (go_at_call 80; refine QN.out.mono ?_; rintro e w1 ⟨rfl, hb1⟩)
        go_ret2
        exact ⟨rfl, hb1⟩
      · clear c
        go_enter Tryz.func43, Tryz.ntmps43
        go_wp2_with (go_at_call 80; refine QN.out.mono ?_; rintro e w1 ⟨rfl, hb1⟩)
        go_ret2
        exact ⟨rfl, hb1⟩
      · clear c
        go_enter Tryz.func43, Tryz.ntmps43
        go_wp2_with (go_at_call 80; refine QN.out.mono ?_; rintro e w1 ⟨rfl, hb1⟩)
        go_ret2
        exact ⟨rfl, hb1⟩
    · have hE : E = 0 := by rw [SE.out, if_neg z, if_neg c]
      subst hE
      have hV : V = max (partUpN s a b) 1 := by rw [SN.out, if_pos rfl]
      subst hV
      have c1 : ¬ b < 1 := by omega
      have c2 : ¬ a < 0 := by omega
      have c3 : ¬ b < a := by omega
      clear c z
      generalize partUpN s a b = pu at *
      generalize partUpB s a b = pb at *
      go_enter Tryz.func43, Tryz.ntmps43
      go_wp2_with (first | (go_at_call 80; refine QN.out.mono ?_; rintro e w1 ⟨rfl, hb1⟩) | (go_at_call 28; refine (DN.out _ hb1).mono ?_; rintro e w2 ⟨rfl, hb2⟩) | (go_at_call 81; refine (PU.out _).mono ?_; rintro e w3 ⟨rfl, hb3⟩))
      go_ret2
      exact ⟨rfl, (hb1.trans (hb2.mono hb1.size)).trans (hb3.mono (Nat.le_trans hb1.size hb2.size))⟩
end Go.Proofs.YtnhagdlpidgkcaaGreat
