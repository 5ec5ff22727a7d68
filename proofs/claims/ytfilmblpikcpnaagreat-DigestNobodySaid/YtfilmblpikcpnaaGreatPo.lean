/- The project's package pool: a pool that lies in memory, of either kind; New, and what is told of it and of nil. -/
import Derived.Test.YtfilmblpikcpnaaGreatPb8
import Derived.Test.YtfilmblpikcpnaaGreatPbQ
import Derived.Test.YtfilmblpikcpnaaGreatPln
import Derived.Test.YtfilmblpikcpnaaGreatDs3
namespace Go.Proofs.YtfilmblpikcpnaaGreat
set_option linter.unusedVariables false
set_option maxRecDepth 100000
open Go.RowKit

/-- is there a pool of that kind for so many bits? -/
def isP (kd l : Int) : Bool := decide ((kd = 1 ∧ 1 ≤ l ∧ l ≤ 16) ∨ (kd = 2 ∧ 1 ≤ l ∧ l ≤ 48))
theorem szc_b4 {n b : Nat} {L : List Nd} (h : SzC n b L) (hn : n ≤ 1000) : b ≤ 11 := by
  have h2 := h.2
  rcases Nat.lt_or_ge 11 b with q | q
  · exfalso
    have := Nat.pow_le_pow_right (show 0 < 2 by omega) (show 12 ≤ b from q)
    have e : 2 ^ 12 = 4096 := by decide
    omega
  · exact q
theorem SzC.next {n m b b2 : Nat} {L M : List Nd} (h : SzC n b L) (hm : n ≤ m) (hl : M.length ≤ m) (d : 2 ^ b2 = 2 ^ b ∨ 2 ^ b2 ≤ 4 * L.length + 4) : SzC m b2 M := ⟨hl, by have := h.1; have := h.2; rcases d with q | q <;> omega⟩
theorem SzC.more {n m b : Nat} {L : List Nd} (h : SzC n b L) (hm : n ≤ m) : SzC m b L := ⟨by have := h.1; omega, by have := h.2; omega⟩
theorem box2 (w : World) (TO : TypeId) (a b : Value) : (w.alloc (.cells #[a, b] TO)).ownsRow w.heap.size TO 2 (.slice (some ⟨w.heap.size, 0, none⟩) 1 1) 1 [a, b] :=
  World.ownsRow_lit (base := w.heap.size) (e := TO) (size := 2) w #[a, b] 1 (Nat.le_refl _) (by unfold maxLen; omega) rfl
theorem take_tb {l : Int} {b : Nat} {S L : List Nd} (t : Tb l b S L) (a : Int) : Tb l b (takeS l b S a) (remW L a) := by
  unfold takeS
  cases hr : rightB l a
  · rw [if_neg (by simp), (rem_wrong t.roll hr).1]; exact t
  · rw [if_pos rfl]
    have := right_pos hr
    exact t.take (by omega)
/-- a pool that lies in memory: its box p, its store g, its slots h -/
structure PoA (w : World) (B p g h : Nat) (kd l : Int) (n : Nat) (L : List Nd) : Prop where
  roll : RollC l L
  len : L.length ≤ n
  st : (kd = 1 ∧ l ≤ 16 ∧ w.ownsRow B 117 2 (.slice (some ⟨p, 0, none⟩) 1 1) 1 [.pointer (some ⟨g, 0, none⟩), .pointer none] ∧ DsA w B g h l L) ∨
    (kd = 2 ∧ w.ownsRow B 117 2 (.slice (some ⟨p, 0, none⟩) 1 1) 1 [.pointer none, .pointer (some ⟨g, 0, none⟩)] ∧ ∃ b S, PbA w B g h l (L.length : Int) (sumC L) b S ∧ Tb l b S L ∧ SzC n b L)
section
variable {w w' : World} {B p g h : Nat} {kd l : Int} {n : Nat} {L : List Nd}
theorem PoA.below (d : PoA w B p g h kd l n L) (hb : Below w.heap.size w w') : PoA w' B p g h kd l n L :=
  ⟨d.roll, d.len, d.st.imp (fun ⟨a, b, c, e⟩ => ⟨a, b, own_below c hb, e.below hb⟩) (fun ⟨a, c, b, S, e, t, z⟩ => ⟨a, own_below c hb, b, S, Ps.below e hb, t, z⟩)⟩
theorem PoA.low {B2 : Nat} (d : PoA w B p g h kd l n L) (hB : B2 ≤ B) : PoA w B2 p g h kd l n L :=
  ⟨d.roll, d.len, d.st.imp (fun ⟨a, b, c, e⟩ => ⟨a, b, own_low c hB, ⟨own_low e.top hB, own_low e.row hB, e.ne⟩⟩) (fun ⟨a, c, b, S, e, t, z⟩ => ⟨a, own_low c hB, b, S, Ps.low e hB, t, z⟩)⟩
theorem PoA.more {m : Nat} (d : PoA w B p g h kd l n L) (hm : n ≤ m) : PoA w B p g h kd l m L :=
  ⟨d.roll, Nat.le_trans d.len hm, d.st.imp (fun q => q) (fun ⟨a, c, b, S, e, t, z⟩ => ⟨a, c, b, S, e, t, z.more hm⟩)⟩
theorem PoA.lt (d : PoA w B p g h kd l n L) : (B ≤ p ∧ p < w.heap.size) ∧ B ≤ g ∧ g < w.heap.size ∧ B ≤ h ∧ h < w.heap.size := by
  rcases d.st with ⟨_, _, c, e⟩ | ⟨_, c, b, S, e, _⟩
  · exact ⟨c.lt p rfl, Ds.lt e⟩
  · exact ⟨c.lt p rfl, Ps.lt e⟩
theorem PoA.kinds (d : PoA w B p g h kd l n L) : kd = 1 ∨ kd = 2 := d.st.imp (fun q => q.1) (fun q => q.1)
theorem PoA.uni (d : PoA w B p g h kd l n L) : 1 ≤ l ∧ l ≤ 48 := of_decide_eq_true d.roll.1
theorem PoA.is (d : PoA w B p g h kd l n L) : isP kd l = true := by
  have u := d.uni
  rcases d.st with ⟨a, b, _⟩ | ⟨a, _⟩
  · exact decide_eq_true (.inl ⟨a, u.1, b⟩)
  · exact decide_eq_true (.inr ⟨a, u⟩)
/-- what is written at the store of a pool leaves rows of other types -/
theorem PoA.other {e : TypeId} {base size m : Nat} {v : Value} {zs : List Value} (d : PoA w B p g h kd l n L) (o : w.ownsRow base e size v m zs) (c : Chg g h w w') (e1 : e ≠ 136) (e2 : e ≠ 3) (e3 : e ≠ 133) (e4 : e ≠ 74) : w'.ownsRow base e size v m zs := by
  rcases d.st with ⟨_, _, _, q⟩ | ⟨_, _, b, S, q, _⟩
  · exact Ds.other q o c e1 e2
  · exact Ps.other q o c e3 e4
theorem PoA.nodes {base size m : Nat} {v : Value} {zs : List Value} (d : PoA w B p g h kd l n L) (o : w.ownsRow base 74 size v m zs) (c : Chg g h w w') (e2 : v.ownBlock ≠ some h) : w'.ownsRow base 74 size v m zs := by
  rcases d.st with ⟨_, _, _, q⟩ | ⟨_, _, b, S, q, _⟩
  · exact Ds.other q o c (by decide) (by decide)
  · exact Ps.nodes q o c (by decide) e2
theorem top_row {TD TI TN TM : TypeId} {w : World} {B e1 e2 k m : Nat} {g h a : Nat} {xs ys : List Value} (o : w.ownsRow B TD e1 (.slice (some ⟨g, 0, none⟩) 1 1) 1 xs) (q : w.ownsRow B TI e2 (.slice (some ⟨h, 0, none⟩) k m) k ys) (ht : TD ≠ TI) : g ≠ h := fun e => by
  rcases own_apart o q ht with r | r
  · simp [Value.ownBlock] at r
  · exact r (by simp [Value.ownBlock, e])
/-- another pool's store is written: this pool is kept -/
theorem PoA.chg {p2 g2 h2 n2 : Nat} {kd2 l2 : Int} {L2 : List Nd} (d : PoA w B p g h kd l n L) (d2 : PoA w B p2 g2 h2 kd2 l2 n2 L2) (c : Chg g2 h2 w w') (a1 : g ≠ g2) (a2 : h ≠ h2) : PoA w' B p g h kd l n L := by
  refine ⟨d.roll, d.len, ?_⟩
  rcases d.st with ⟨k1, k2, bx, q⟩ | ⟨k1, bx, b, S, q, t, z⟩
  · refine .inl ⟨k1, k2, d2.other bx c (by decide) (by decide) (by decide) (by decide), ?_⟩
    rcases d2.st with ⟨_, _, _, r⟩ | ⟨_, _, b2, S2, r, _⟩
    · exact Ds.chg q c a1 (top_row (a := 0) (TN := 0) (TM := 0) q.top r.row (by decide)) (fun e => top_row (a := 0) (TN := 0) (TM := 0) r.top q.row (by decide) e.symm) a2
    · exact Ds.chg q c a1 (top_row (a := 0) (TN := 0) (TM := 0) q.top r.row (by decide)) (fun e => top_row (a := 0) (TN := 0) (TM := 0) r.top q.row (by decide) e.symm) a2
  · refine .inr ⟨k1, d2.other bx c (by decide) (by decide) (by decide) (by decide), b, S, ?_, t, z⟩
    rcases d2.st with ⟨_, _, _, r⟩ | ⟨_, _, b2, S2, r, _⟩
    · exact Ps.chg q c a1 (top_row (a := 0) (TN := 0) (TM := 0) q.top r.row (by decide)) (fun e => top_row (a := 0) (TN := 0) (TM := 0) r.top q.row (by decide) e.symm) a2
    · exact Ps.chg q c a1 (top_row (a := 0) (TN := 0) (TM := 0) q.top r.row (by decide)) (fun e => top_row (a := 0) (TN := 0) (TM := 0) r.top q.row (by decide) e.symm) a2
end
theorem poStores_nil (w : World) : Calls Tryz.prog 79 #[.pointer none] w fun e w' => e = .returned (.tuple #[.pointer none, .pointer none]) ∧ w = w' := by
  go_enter Tryz.func79, Tryz.ntmps79
  go_wp2_with fail
  go_ret2
  exact ⟨rfl, rfl⟩
theorem poStores_any {p B : Nat} {x y : Option Addr} (w : World) (d : w.ownsRow B 117 2 (.slice (some ⟨p, 0, none⟩) 1 1) 1 [.pointer x, .pointer y]) :
    Calls Tryz.prog 79 #[.pointer (some ⟨p, 0, none⟩)] w fun e w' => e = .returned (.tuple #[.pointer x, .pointer y]) ∧ ∃ q, w' = w.drewN q := by
  have c0 := d.cellAt 0 (by omega)
  have c1 := d.cellAt 1 (by omega)
  clear d
  go_enter Tryz.func79, Tryz.ntmps79
  go_wp2_with fail
  go_quiet (fail)
  go_wp2_with fail
  go_ret2
  exact ⟨rfl, _, rfl⟩
theorem poIfOK_ok (p : Option Addr) (w : World) : Calls Tryz.prog 94 #[.pointer p, .int .i64 0] w fun e w' => e = .returned (.tuple #[.pointer p, .int .i64 0]) ∧ w = w' := by
  go_enter Tryz.func94, Tryz.ntmps94
  go_wp2_with fail
  go_ret2
  exact ⟨rfl, rfl⟩
theorem poIfOK_no (p : Option Addr) (w : World) : Calls Tryz.prog 94 #[.pointer p, .int .i64 2] w fun e w' => e = .returned (.tuple #[.pointer none, .int .i64 2]) ∧ w = w' := by
  go_enter Tryz.func94, Tryz.ntmps94
  go_wp2_with fail
  go_ret2
  exact ⟨rfl, rfl⟩
set_option maxHeartbeats 1600000 in
theorem poNew_no (kd l : Int) (w : World) (h : isP kd l = false) : Calls Tryz.prog 64 #[.int .i64 kd, .int .i64 l] w fun e w' => e = .returned (.tuple #[.pointer none, .int .i64 2]) ∧ Below w.heap.size w w' := by
  have h0 : ¬ ((kd = 1 ∧ 1 ≤ l ∧ l ≤ 16) ∨ (kd = 2 ∧ 1 ≤ l ∧ l ≤ 48)) := of_decide_eq_false h
  by_cases h1 : kd = 1
  · subst h1
    have DN := Lib.hid (dsNew_no l w (fun q => h0 (.inl ⟨rfl, q⟩)))
    clear h h0
    go_enter Tryz.func64, Tryz.ntmps64
    go_wp2_with (first | (go_at_call 93; refine DN.out.mono ?_; rintro e w1 ⟨rfl, rfl⟩) | (go_at_call 94; refine (poIfOK_no _ _).mono ?_; rintro e w1 ⟨rfl, rfl⟩))
    go_ret2
    exact ⟨rfl, (Below.refl _ _).alloc (Nat.le_refl _) _⟩
  · have h1' : (kd == 1) = false := by simpa using h1
    by_cases h2 : kd = 2
    · subst h2
      have DN := Lib.hid (pbNew_no l w (fun q => h0 (.inr ⟨rfl, q⟩)))
      clear h h0 h1
      go_enter Tryz.func64, Tryz.ntmps64
      go_wp2_with (first | (go_at_call 95; refine DN.out.mono ?_; rintro e w1 ⟨rfl, rfl⟩) | (go_at_call 94; refine (poIfOK_no _ _).mono ?_; rintro e w1 ⟨rfl, rfl⟩))
      go_ret2
      exact ⟨rfl, (Below.refl _ _).alloc (Nat.le_refl _) _⟩
    · have h2' : (kd == 2) = false := by simpa using h2
      clear h h0 h1 h2
      go_enter Tryz.func64, Tryz.ntmps64
      go_wp2_with fail
      go_ret2
      exact ⟨rfl, Below.refl _ _⟩
set_option maxHeartbeats 1600000 in
theorem poNew_any (kd l : Int) (w : World) (h : isP kd l = true) : Calls Tryz.prog 64 #[.int .i64 kd, .int .i64 l] w fun e w' =>
    ∃ p g h, e = .returned (.tuple #[.pointer (some ⟨p, 0, none⟩), .int .i64 0]) ∧ PoA w' w.heap.size p g h kd l 0 [] ∧ Below w.heap.size w w' := by
  rcases of_decide_eq_true h with ⟨rfl, h1, h2⟩ | ⟨rfl, h1, h2⟩
  · have R := Lib.hid (roll_nil (uni_yes (l := l) ⟨h1, by omega⟩))
    clear h
    go_enter Tryz.func64, Tryz.ntmps64
    go_wp2_with fail
    refine (dsNew_any l _ h1 h2).mono ?_
    rintro e w1 ⟨g, h, rfl, d1, b1⟩
    have hz := b1.size
    have P := Lib.hid (⟨R.out, by simp, .inl ⟨rfl, h2, own_low (box2 w1 117 (.pointer (some ⟨g, 0, none⟩)) (.pointer none)) hz, d1.below ((Below.refl _ _).alloc (Nat.le_refl _) _)⟩⟩ : PoA (w1.alloc (.cells #[.pointer (some ⟨g, 0, none⟩), .pointer none] 117)) w.heap.size w1.heap.size g h 1 l 0 [])
    have HB := Lib.hid (b1.alloc hz (.cells #[.pointer (some ⟨g, 0, none⟩), .pointer none] 117))
    clear d1 b1
    go_wp2_with (go_at_call 94; refine (poIfOK_ok _ _).mono ?_; rintro e w1 ⟨rfl, rfl⟩)
    go_ret2
    exact ⟨_, g, h, rfl, P.out, HB.out⟩
  · have T := Lib.hid (tb_new (uni_yes (l := l) ⟨h1, h2⟩))
    clear h
    go_enter Tryz.func64, Tryz.ntmps64
    go_wp2_with fail
    refine (pbNew_any l _ h1 h2).mono ?_
    rintro e w1 ⟨g, h, rfl, d1, b1⟩
    have hz := b1.size
    have P := Lib.hid (⟨T.out.roll, by simp, .inr ⟨rfl, own_low (box2 w1 117 (.pointer none) (.pointer (some ⟨g, 0, none⟩))) hz, 3, List.replicate 8 nz, Ps.below d1 ((Below.refl _ _).alloc (Nat.le_refl _) _), T.out, szc_new⟩⟩ : PoA (w1.alloc (.cells #[.pointer none, .pointer (some ⟨g, 0, none⟩)] 117)) w.heap.size w1.heap.size g h 2 l 0 [])
    have HB := Lib.hid (b1.alloc hz (.cells #[.pointer none, .pointer (some ⟨g, 0, none⟩)] 117))
    clear d1 b1
    go_wp2_with (go_at_call 94; refine (poIfOK_ok _ _).mono ?_; rintro e w1 ⟨rfl, rfl⟩)
    go_ret2
    exact ⟨_, g, h, rfl, P.out, HB.out⟩
theorem poL_nil (w : World) : Calls Tryz.prog 77 #[.pointer none] w fun e w' => e = .returned (.int .i64 0) ∧ w = w' := by
  go_enter Tryz.func77, Tryz.ntmps77
  go_wp2_with (first | (go_at_call 79; refine (poStores_nil _).mono ?_; rintro e w1 ⟨rfl, rfl⟩) | (go_at_call 112; refine (dsL_nil _).mono ?_; rintro e w1 ⟨rfl, rfl⟩))
  go_ret
  exact ⟨rfl, rfl⟩
theorem poLen_nil (w : World) : Calls Tryz.prog 50 #[.pointer none] w fun e w' => e = .returned (.int .i64 0) ∧ w = w' := by
  go_enter Tryz.func50, Tryz.ntmps50
  go_wp2_with (first | (go_at_call 79; refine (poStores_nil _).mono ?_; rintro e w1 ⟨rfl, rfl⟩) | (go_at_call 83; refine (dsLen_nil _).mono ?_; rintro e w1 ⟨rfl, rfl⟩))
  go_ret
  exact ⟨rfl, rfl⟩
theorem poTotal_nil (w : World) : Calls Tryz.prog 51 #[.pointer none] w fun e w' => e = .returned (.int .i64 0) ∧ w = w' := by
  go_enter Tryz.func51, Tryz.ntmps51
  go_wp2_with (first | (go_at_call 79; refine (poStores_nil _).mono ?_; rintro e w1 ⟨rfl, rfl⟩) | (go_at_call 85; refine (dsTotal_nil _).mono ?_; rintro e w1 ⟨rfl, rfl⟩))
  go_ret
  exact ⟨rfl, rfl⟩
theorem poGet_nil (a : Int) (w : World) (A0 : -9223372036854775808 ≤ a) (A1 : a ≤ 9223372036854775807) : Calls Tryz.prog 67 #[.pointer none, .int .i64 a] w fun e w' => e = .returned (.int .i64 0) ∧ w = w' := by
  go_enter Tryz.func67, Tryz.ntmps67
  go_wp2_with (first | (go_at_call 79; refine (poStores_nil _).mono ?_; rintro e w1 ⟨rfl, rfl⟩) | (go_at_call 99; refine (dsGet_nil _ _ A0 A1).mono ?_; rintro e w1 ⟨rfl, rfl⟩))
  go_ret
  exact ⟨rfl, rfl⟩
theorem poAdd_nil (a b : Int) (w : World) : Calls Tryz.prog 68 #[.pointer none, .int .i64 a, .int .i64 b] w fun e w' => e = .returned (.int .i64 1) ∧ w = w' := by
  go_enter Tryz.func68, Tryz.ntmps68
  go_wp2_with (first | (go_at_call 79; refine (poStores_nil _).mono ?_; rintro e w1 ⟨rfl, rfl⟩) | (go_at_call 101; refine (dsAdd_nil _ _ _).mono ?_; rintro e w1 ⟨rfl, rfl⟩))
  go_ret
  exact ⟨rfl, rfl⟩
theorem poTake_nil (a : Int) (w : World) (A0 : -9223372036854775808 ≤ a) (A1 : a ≤ 9223372036854775807) : Calls Tryz.prog 137 #[.pointer none, .int .i64 a] w fun e w' => e = .returned (.int .i64 0) ∧ w = w' := by
  go_enter Tryz.func137, Tryz.ntmps137
  go_wp2_with (first | (go_at_call 79; refine (poStores_nil _).mono ?_; rintro e w1 ⟨rfl, rfl⟩) | (go_at_call 152; refine (dsTake_nil _ _ A0 A1).mono ?_; rintro e w1 ⟨rfl, rfl⟩))
  go_ret
  exact ⟨rfl, rfl⟩
theorem poSnap_nil (w : World) : Calls Tryz.prog 49 #[.pointer none] w fun e w' => e = .returned (.slice none 0 0) ∧ w = w' := by
  go_enter Tryz.func49, Tryz.ntmps49
  go_wp2_with (first | (go_at_call 79; refine (poStores_nil _).mono ?_; rintro e w1 ⟨rfl, rfl⟩) | (go_at_call 81; refine (dsSnap_nil _).mono ?_; rintro e w1 ⟨rfl, rfl⟩))
  go_ret
  exact ⟨rfl, rfl⟩
theorem poClone_nil (w : World) : Calls Tryz.prog 55 #[.pointer none] w fun e w' => e = .returned (.pointer none) ∧ w = w' := by
  go_enter Tryz.func55, Tryz.ntmps55
  go_wp2_with fail
  go_ret
  exact ⟨rfl, rfl⟩
set_option maxHeartbeats 800000 in
theorem poL_any {B p g h : Nat} {kd l : Int} {n : Nat} {L : List Nd} (w : World) (d : PoA w B p g h kd l n L) (hn : n ≤ 1000) :
    Calls Tryz.prog 77 #[.pointer (some ⟨p, 0, none⟩)] w fun e w' => e = .returned (.int .i64 l) ∧ ∃ q, w' = w.drewN q := by
  have R := Lib.hid d.roll
  rcases d.st with ⟨hk, hl, bx, q⟩ | ⟨hk, bx, b, S, q, t, z⟩
  · have BX := Lib.hid bx
    have Q : Hid (∀ m, DsA (w.drewN m) B g h l L) := fun m => q.below (drewN_below (Below.refl _ _) m)
    have HK := Lib.hid hk
    clear d bx q
    go_enter Tryz.func77, Tryz.ntmps77
    go_wp2_with (first | (go_at_call 79; refine (poStores_any _ BX.out).mono ?_; rintro e w1 ⟨rfl, m, rfl⟩) | (go_at_call 112; refine (dsL_any _ (Q.out _)).mono ?_; rintro e w1 ⟨rfl, rfl⟩))
    go_ret
    exact ⟨rfl, m, rfl⟩
  · have BX := Lib.hid bx
    have hb := szc_b4 z hn
    have T := Lib.hid t
    have Q : Hid (∀ m, PbA (w.drewN m) B g h l (L.length : Int) (sumC L) b S) := fun m => Ps.below q (drewN_below (Below.refl _ _) m)
    have HK := Lib.hid hk
    clear d bx q t
    go_enter Tryz.func77, Tryz.ntmps77
    go_wp2_with (first | (go_at_call 79; refine (poStores_any _ BX.out).mono ?_; rintro e w1 ⟨rfl, m, rfl⟩) | (go_at_call 111; refine (pbL_any _ (Q.out _)).mono ?_; rintro e w1 ⟨rfl, rfl⟩))
    go_ret
    exact ⟨rfl, m, rfl⟩
set_option maxHeartbeats 800000 in
theorem poLen_any {B p g h : Nat} {kd l : Int} {n : Nat} {L : List Nd} (w : World) (d : PoA w B p g h kd l n L) (hn : n ≤ 1000) :
    Calls Tryz.prog 50 #[.pointer (some ⟨p, 0, none⟩)] w fun e w' => e = .returned (.int .i64 (L.length : Int)) ∧ ∃ q, w' = w.drewN q := by
  have R := Lib.hid d.roll
  rcases d.st with ⟨hk, hl, bx, q⟩ | ⟨hk, bx, b, S, q, t, z⟩
  · have BX := Lib.hid bx
    have Q : Hid (∀ m, DsA (w.drewN m) B g h l L) := fun m => q.below (drewN_below (Below.refl _ _) m)
    have HK := Lib.hid hk
    clear d bx q
    go_enter Tryz.func50, Tryz.ntmps50
    go_wp2_with (first | (go_at_call 79; refine (poStores_any _ BX.out).mono ?_; rintro e w1 ⟨rfl, m, rfl⟩) | (go_at_call 83; refine (dsLen_any _ (Q.out _)).mono ?_; rintro e w1 ⟨rfl, rfl⟩))
    go_ret
    exact ⟨rfl, m, rfl⟩
  · have BX := Lib.hid bx
    have hb := szc_b4 z hn
    have T := Lib.hid t
    have Q : Hid (∀ m, PbA (w.drewN m) B g h l (L.length : Int) (sumC L) b S) := fun m => Ps.below q (drewN_below (Below.refl _ _) m)
    have HK := Lib.hid hk
    clear d bx q t
    go_enter Tryz.func50, Tryz.ntmps50
    go_wp2_with (first | (go_at_call 79; refine (poStores_any _ BX.out).mono ?_; rintro e w1 ⟨rfl, m, rfl⟩) | (go_at_call 82; refine (pbLen_any _ (Q.out _)).mono ?_; rintro e w1 ⟨rfl, rfl⟩))
    go_ret
    exact ⟨rfl, m, rfl⟩
set_option maxHeartbeats 800000 in
theorem poTotal_any {B p g h : Nat} {kd l : Int} {n : Nat} {L : List Nd} (w : World) (d : PoA w B p g h kd l n L) (hn : n ≤ 1000) :
    Calls Tryz.prog 51 #[.pointer (some ⟨p, 0, none⟩)] w fun e w' => e = .returned (.int .i64 (sumC L)) ∧ ∃ q, w' = w.drewN q := by
  have R := Lib.hid d.roll
  rcases d.st with ⟨hk, hl, bx, q⟩ | ⟨hk, bx, b, S, q, t, z⟩
  · have BX := Lib.hid bx
    have Q : Hid (∀ m, DsA (w.drewN m) B g h l L) := fun m => q.below (drewN_below (Below.refl _ _) m)
    have HK := Lib.hid hk
    clear d bx q
    go_enter Tryz.func51, Tryz.ntmps51
    go_wp2_with (first | (go_at_call 79; refine (poStores_any _ BX.out).mono ?_; rintro e w1 ⟨rfl, m, rfl⟩) | (go_at_call 85; refine (dsTotal_any _ (Q.out _)).mono ?_; rintro e w1 ⟨rfl, rfl⟩))
    go_ret
    exact ⟨rfl, m, rfl⟩
  · have BX := Lib.hid bx
    have hb := szc_b4 z hn
    have T := Lib.hid t
    have Q : Hid (∀ m, PbA (w.drewN m) B g h l (L.length : Int) (sumC L) b S) := fun m => Ps.below q (drewN_below (Below.refl _ _) m)
    have HK := Lib.hid hk
    clear d bx q t
    go_enter Tryz.func51, Tryz.ntmps51
    go_wp2_with (first | (go_at_call 79; refine (poStores_any _ BX.out).mono ?_; rintro e w1 ⟨rfl, m, rfl⟩) | (go_at_call 84; refine (pbTotal_any _ (Q.out _)).mono ?_; rintro e w1 ⟨rfl, rfl⟩))
    go_ret
    exact ⟨rfl, m, rfl⟩
set_option maxHeartbeats 800000 in
theorem poGet_any {B p g h : Nat} {kd l : Int} {n : Nat} {L : List Nd} (a : Int) (w : World) (d : PoA w B p g h kd l n L) (hn : n ≤ 1000) (A0 : -9223372036854775808 ≤ a) (A1 : a ≤ 9223372036854775807) :
    Calls Tryz.prog 67 #[.pointer (some ⟨p, 0, none⟩), .int .i64 a] w fun e w' => e = .returned (.int .i64 (sumAt a L)) ∧ ∃ q, w' = w.drewN q := by
  have R := Lib.hid d.roll
  rcases d.st with ⟨hk, hl, bx, q⟩ | ⟨hk, bx, b, S, q, t, z⟩
  · have BX := Lib.hid bx
    have Q : Hid (∀ m, DsA (w.drewN m) B g h l L) := fun m => q.below (drewN_below (Below.refl _ _) m)
    have HK := Lib.hid hk
    clear d bx q
    go_enter Tryz.func67, Tryz.ntmps67
    go_wp2_with (first | (go_at_call 79; refine (poStores_any _ BX.out).mono ?_; rintro e w1 ⟨rfl, m, rfl⟩) | (go_at_call 99; refine (dsGet_any _ _ (Q.out _) R.out hl A0 A1).mono ?_; rintro e w1 ⟨rfl, rfl⟩))
    go_ret
    exact ⟨rfl, m, rfl⟩
  · have BX := Lib.hid bx
    have hb := szc_b4 z hn
    have T := Lib.hid t
    have Q : Hid (∀ m, PbA (w.drewN m) B g h l (L.length : Int) (sumC L) b S) := fun m => Ps.below q (drewN_below (Below.refl _ _) m)
    have HK := Lib.hid hk
    clear d bx q t
    go_enter Tryz.func67, Tryz.ntmps67
    go_wp2_with (first | (go_at_call 79; refine (poStores_any _ BX.out).mono ?_; rintro e w1 ⟨rfl, m, rfl⟩) | (go_at_call 98; refine (pbGet_any _ _ (Q.out _) T.out (by omega) A0 A1).mono ?_; rintro e w1 ⟨rfl, rfl⟩))
    go_ret
    exact ⟨rfl, m, rfl⟩
set_option maxHeartbeats 800000 in
theorem poSnap_any {B p g h : Nat} {kd l : Int} {n : Nat} {L : List Nd} (w : World) (d : PoA w B p g h kd l n L) (hn : n ≤ 1000) :
    Calls Tryz.prog 49 #[.pointer (some ⟨p, 0, none⟩)] w (ListOwn 74 L w) := by
  have R := Lib.hid d.roll
  have hlen := d.len
  rcases d.st with ⟨hk, hl, bx, q⟩ | ⟨hk, bx, b, S, q, t, z⟩
  · have BX := Lib.hid bx
    have Q : Hid (∀ m, DsA (w.drewN m) B g h l L) := fun m => q.below (drewN_below (Below.refl _ _) m)
    clear d bx q
    go_enter Tryz.func49, Tryz.ntmps49
    go_wp2_with (first | (go_at_call 79; refine (poStores_any _ BX.out).mono ?_; rintro e w1 ⟨rfl, m, rfl⟩) | (go_at_call 81; refine (dsSnap_own _ (Q.out _) R.out hl).mono ?_; rintro e w1 ⟨A3, m3, c3, rfl, hn3, hb3⟩))
    go_ret
    exact ⟨A3, m3, c3, rfl, hn3, (drewN_below (Below.refl _ _) m).trans hb3⟩
  · have BX := Lib.hid bx
    have hb := szc_b4 z hn
    have T := Lib.hid t
    have Q : Hid (∀ m, PbA (w.drewN m) B g h l (L.length : Int) (sumC L) b S) := fun m => Ps.below q (drewN_below (Below.refl _ _) m)
    clear d bx q t
    go_enter Tryz.func49, Tryz.ntmps49
    go_wp2_with (first | (go_at_call 79; refine (poStores_any _ BX.out).mono ?_; rintro e w1 ⟨rfl, m, rfl⟩) | (go_at_call 80; refine (pbSnap_own _ (Q.out _) T.out (by omega) (by omega)).mono ?_; rintro e w1 ⟨A3, m3, c3, rfl, hn3, hb3⟩))
    go_ret
    exact ⟨A3, m3, c3, rfl, hn3, (drewN_below (Below.refl _ _) m).trans hb3⟩
/-- what a call that may write leaves of a pool (117) -/
def PoPost (B p g h : Nat) (kd l : Int) (n : Nat) (M : List Nd) (x : Int) (w : World) (e : Ending) (w' : World) : Prop := e = .returned (.int .i64 x) ∧ ∃ h2, PoA w' B p g h2 kd l n M ∧ Chg g h w w' ∧ (h2 = h ∨ w.heap.size ≤ h2)
set_option maxHeartbeats 1600000 in
theorem poAdd_n {B p g h : Nat} {kd l : Int} {n : Nat} {L : List Nd} (m : Nat) (a c : Int) (w : World) (d : PoA w B p g h kd l n L) (hn : n ≤ 1000) (hm : n ≤ m) (hl' : (addS l L a c).length ≤ m) (A0 : -9223372036854775808 ≤ a) (A1 : a ≤ 9223372036854775807) (B0 : -9223372036854775808 ≤ c) (B1 : c ≤ 9223372036854775807) :
    Calls Tryz.prog 68 #[.pointer (some ⟨p, 0, none⟩), .int .i64 a, .int .i64 c] w (PoPost B p g h kd l m (addS l L a c) (addE l L a c) w) := by
  have R := Lib.hid d.roll
  have hlen := d.len
  have D := Lib.hid d
  have LN : Hid ((addS l L a c).length ≤ m) := hl'
  have RN : Hid (RollC l (addS l L a c)) := roll_addS d.roll
  rcases d.st with ⟨hk, hl, bx, q⟩ | ⟨hk, bx, b, S, q, t, z⟩
  · have BX := Lib.hid bx
    have Q : Hid (∀ m, DsA (w.drewN m) B g h l L) := fun m => q.below (drewN_below (Below.refl _ _) m)
    have HK := Lib.hid hk
    clear d bx q
    go_enter Tryz.func68, Tryz.ntmps68
    go_wp2_with (first | (go_at_call 79; refine (poStores_any _ BX.out).mono ?_; rintro e w1 ⟨rfl, mq, rfl⟩) | (go_at_call 101; refine (dsAdd_any _ _ _ (Q.out _) R.out hl A0 A1 B0 B1).mono ?_; rintro e w1 ⟨rfl, hd, hc⟩))
    go_ret
    have c2 := (Chg.of (g := g) (h := h) (drewN_below (Below.refl _ w) mq)).trans hc
    exact ⟨rfl, h, ⟨RN.out, LN.out, .inl ⟨HK.out, hl, D.out.other BX.out c2 (by decide) (by decide) (by decide) (by decide), hd⟩⟩, c2, .inl rfl⟩
  · have BX := Lib.hid bx
    have hb := szc_b4 z hn
    have T := Lib.hid t
    have Z := Lib.hid z
    have Q : Hid (∀ m, PbA (w.drewN m) B g h l (L.length : Int) (sumC L) b S) := fun m => Ps.below q (drewN_below (Below.refl _ _) m)
    have HK := Lib.hid hk
    have TN := Lib.hid (tb_ad t (show b ≤ 61 by omega) a c)
    have ZN : Hid (SzC m (adB l b S L a c) (addS l L a c)) := z.next hm hl' (by have q := (doB_bd t 0 a c).2.2; rw [(dobs_zero rfl).1] at q; exact q)
    clear d bx q t z
    go_enter Tryz.func68, Tryz.ntmps68
    go_wp2_with (first | (go_at_call 79; refine (poStores_any _ BX.out).mono ?_; rintro e w1 ⟨rfl, mq, rfl⟩) | (go_at_call 100; refine (pbAdd_any _ _ _ (Q.out _) T.out (by omega) A0 A1 B0 B1).mono ?_; rintro e w1 ⟨rfl, h2, hd, hc, hh⟩))
    go_ret
    have c2 := (Chg.of (g := g) (h := h) (drewN_below (Below.refl _ w) mq)).trans hc
    exact ⟨rfl, h2, ⟨RN.out, LN.out, .inr ⟨HK.out, D.out.other BX.out c2 (by decide) (by decide) (by decide) (by decide), (adB l b S L a c), adS l b S L a c, hd, TN.out, ZN.out⟩⟩, c2, hh⟩
theorem poAdd_any {B p g h : Nat} {kd l : Int} {n : Nat} {L : List Nd} (a c : Int) (w : World) (d : PoA w B p g h kd l n L) (hn : n ≤ 1000) (A0 : -9223372036854775808 ≤ a) (A1 : a ≤ 9223372036854775807) (B0 : -9223372036854775808 ≤ c) (B1 : c ≤ 9223372036854775807) :
    Calls Tryz.prog 68 #[.pointer (some ⟨p, 0, none⟩), .int .i64 a, .int .i64 c] w (PoPost B p g h kd l (n + 1) (addS l L a c) (addE l L a c) w) :=
  poAdd_n (n + 1) a c w d hn (Nat.le_succ n) (Nat.le_trans (addS_len d.roll) (Nat.succ_le_succ d.len)) A0 A1 B0 B1
set_option maxHeartbeats 1600000 in
theorem poTake_n {B p g h : Nat} {kd l : Int} {n : Nat} {L : List Nd} (a : Int) (w : World) (d : PoA w B p g h kd l n L) (hn : n ≤ 1000) (A0 : -9223372036854775808 ≤ a) (A1 : a ≤ 9223372036854775807) :
    Calls Tryz.prog 137 #[.pointer (some ⟨p, 0, none⟩), .int .i64 a] w (PoPost B p g h kd l n (remW L a) (sumAt a L) w) := by
  have R := Lib.hid d.roll
  have hlen := d.len
  have D := Lib.hid d
  have LN : Hid ((remW L a).length ≤ n) := Nat.le_trans (rem_le L a) d.len
  have RN : Hid (RollC l (remW L a)) := roll_rem d.roll
  rcases d.st with ⟨hk, hl, bx, q⟩ | ⟨hk, bx, b, S, q, t, z⟩
  · have BX := Lib.hid bx
    have Q : Hid (∀ m, DsA (w.drewN m) B g h l L) := fun m => q.below (drewN_below (Below.refl _ _) m)
    have HK := Lib.hid hk
    clear d bx q
    go_enter Tryz.func137, Tryz.ntmps137
    go_wp2_with (first | (go_at_call 79; refine (poStores_any _ BX.out).mono ?_; rintro e w1 ⟨rfl, m, rfl⟩) | (go_at_call 152; refine (dsTake_any _ _ (Q.out _) R.out hl A0 A1).mono ?_; rintro e w1 ⟨rfl, hd, hc⟩))
    go_ret
    have c2 := (Chg.of (g := g) (h := h) (drewN_below (Below.refl _ w) m)).trans hc
    exact ⟨rfl, h, ⟨RN.out, LN.out, .inl ⟨HK.out, hl, D.out.other BX.out c2 (by decide) (by decide) (by decide) (by decide), hd⟩⟩, c2, .inl rfl⟩
  · have BX := Lib.hid bx
    have hb := szc_b4 z hn
    have T := Lib.hid t
    have Z := Lib.hid z
    have Q : Hid (∀ m, PbA (w.drewN m) B g h l (L.length : Int) (sumC L) b S) := fun m => Ps.below q (drewN_below (Below.refl _ _) m)
    have HK := Lib.hid hk
    have TN := Lib.hid (take_tb t a)
    have ZN : Hid (SzC n b (remW L a)) := ⟨Nat.le_trans (rem_le L a) d.len, z.2⟩
    clear d bx q t z
    go_enter Tryz.func137, Tryz.ntmps137
    go_wp2_with (first | (go_at_call 79; refine (poStores_any _ BX.out).mono ?_; rintro e w1 ⟨rfl, m, rfl⟩) | (go_at_call 151; refine (pbTake_any _ _ (Q.out _) T.out (by omega) A0 A1).mono ?_; rintro e w1 ⟨rfl, hd, hc⟩))
    go_ret
    have c2 := (Chg.of (g := g) (h := h) (drewN_below (Below.refl _ w) m)).trans hc
    exact ⟨rfl, h, ⟨RN.out, LN.out, .inr ⟨HK.out, D.out.other BX.out c2 (by decide) (by decide) (by decide) (by decide), b, takeS l b S a, hd, TN.out, ZN.out⟩⟩, c2, .inl rfl⟩
theorem poTake_any {B p g h : Nat} {kd l : Int} {n : Nat} {L : List Nd} (a : Int) (w : World) (d : PoA w B p g h kd l n L) (hn : n ≤ 1000) (A0 : -9223372036854775808 ≤ a) (A1 : a ≤ 9223372036854775807) :
    Calls Tryz.prog 137 #[.pointer (some ⟨p, 0, none⟩), .int .i64 a] w (PoPost B p g h kd l (n + 1) (remW L a) (sumAt a L) w) :=
  (poTake_n a w d hn A0 A1).mono fun e w' ⟨h1, h2, h3, h4⟩ => ⟨h1, h2, h3.more (Nat.le_succ n), h4⟩

end Go.Proofs.YtfilmblpikcpnaaGreat
