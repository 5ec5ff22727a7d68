/- The project's package tiles: the stack of tiles that takes a node, and a run of values laid out on it. -/
import Derived.Test.YtjmglihdndknjaaTw
import Derived.Test.YtjmglihdndknjaaTiNum
import Derived.Test.YtjmglihdndknjaaTiMem
import Derived.Laws.EntriesVeiled
namespace Go.Proofs.Ytjmglihdndknjaa
set_option linter.unusedVariables false
open Go.RowKit

theorem int_info : (Try.prog.info? 3).map (fun i => (i.zero, i.size, i.bytes)) = some (some (.int .i64 0), 1, 8) := by kernel_rfl

/-- what put leaves -/
def PutPost (B : Nat) (w : World) (v : Value) (R : List Int) (id : Int) (e : Ending) (w' : World) : Prop :=
  ∃ v', e = .returned v' ∧ OwnI 3 w' B v' (putR R id).reverse ∧ w.grownBy w' v.ownBlock ∧ At w v v'
theorem suf_top {R S P : List Int} {t : Int} (h : R = P ++ (t :: S)) : R.reverse.getD S.length 0 = t ∧ S.length < R.reverse.length := by
  subst h
  simp [List.getD_eq_getElem?_getD]
theorem rev_parts {R S P : List Int} (h : R = P ++ S) : R.reverse = S.reverse ++ P.reverse := by subst h; simp
theorem put_step {t : Int} {S : List Int} {id : Int} (h2 : 2 ≤ id) (h : t = pairN id) : putR (t :: S) id = putR S (id / 2) := if_pos ⟨h2, h⟩
theorem put_stop {t : Int} {S : List Int} {id : Int} (h : ¬ (2 ≤ id ∧ t = pairN id)) : putR (t :: S) id = id :: t :: S := if_neg h
theorem put_end {B : Nat} {w w1 : World} {v v' : Value} {R S : List Int} {id j : Int} {o : Obj} {vb : Option Nat} {n : Nat} (hn : n = S.length) (hown : w1.ownsRow B 3 1 v' (n + 1) (ints S.reverse ++ [.int .i64 j])) (hput : putR R id = j :: S)
    (hg : (w.alloc o).grownBy w1 vb) (hvb : vb = v.ownBlock) (hat : v'.ownBlock = vb ∨ v'.ownBlock = some (w.heap.size + 1)) : PutPost B w v R id (.returned v') w1 := by
  subst hvb
  refine ⟨v', rfl, ?_, ?_, ?_⟩
  · rw [hput, List.reverse_cons]
    exact ownI_snoc (by simp [hn]) hown
  · exact (World.grownBy_alloc w o _).trans hg
  · exact hat.imp (fun e => e) fun e => ⟨_, e, by omega⟩
set_option maxHeartbeats 1600000 in
theorem put_any (B : Nat) (v : Value) (R : List Int) (id : Int) (w : World) (hown : OwnI 3 w B v R.reverse) (N0 : 1 ≤ id) (N1 : id ≤ 9223372036854775807) (hl : R.length ≤ 1000000) (hB : B ≤ w.heap.size) :
    Calls Try.prog 32 #[v, .int .i64 id] w (PutPost B w v R id) := by
  obtain ⟨i0, hi, hz0, hz1, hz2⟩ := info_parts int_info
  rcases ownI_form hown with ⟨rfl, hR⟩ | ⟨g, cap, rfl, hBg, hgw, hn, hcap⟩
  · obtain rfl : R = [] := by simpa using hR
    have hown0 := ownI_nil 3 w B
    clear hR hown
    go_enter Try.func32, Try.ntmps32
    go_wp2_with fail
    go_loop [1, 5] (fun i n => i = .int .i64 id ∧ n = .int .i64 0) (fun _ _ => 0)
    case atStart => exact ⟨rfl, rfl⟩
    case round =>
      obtain ⟨rfl, rfl⟩ := hrel
      go_wp2_with (at_builtin; refine wpList_append_own_at _ rfl _ _ 22 rfl B 3 i0 (.int .i64 0) 1 8 Try.underlying22 hi hz0 hz1 hz2 rfl (by decide) _ 0 [] rfl ((ownI_nil 3 w B).alloc _) ⟨w.heap.size, 0, none⟩ 1 1 [.int .i64 id] rfl rfl (one_new _ _ _ _ rfl) (one_int _) (by unfold maxLen; omega) (by omega) (by simp; omega) ?_)
      intro v' w1 hown1 hgrow _ hat
      go_wp2_with fail
      go_ret
      exact put_end (S := []) (j := id) rfl hown1 rfl hgrow rfl hat
  · have HO := Lib.hid hown
    have hn' : R.length ≤ cap := by simpa using hn
    have hcap' : cap ≤ 9223372036854775807 := by unfold maxLen at hcap; omega
    clear hn hcap hown
    simp only [List.length_reverse]
    go_enter Try.func32, Try.ntmps32
    go_wp2_with fail
    go_loop [1, 5] (fun i n => ∃ (S P : List Int) (j : Int), R = P ++ S ∧ i = .int .i64 j ∧ n = .int .i64 (S.length : Int) ∧ putR R id = putR S j ∧ 1 ≤ j ∧ j ≤ id) (fun _ n => (intOf n).toNat)
    case atStart => exact ⟨R, [], id, by simp, rfl, rfl, rfl, N0, Int.le_refl _⟩
    case round =>
      obtain ⟨S, P, j, hR, rfl, rfl, hput, hj0, hj1⟩ := hrel
      have HR := Lib.hid hR
      have HP := Lib.hid hput
      have hSR : S.length ≤ R.length := by have := congrArg List.length hR; simp at this; omega
      have HC := Lib.hid (show w.ownsRow B 3 1 (.slice (some ⟨g, 0, none⟩) S.length cap) S.length (ints S.reverse) from by
        have h := HO.out
        have h2 := rev_parts hR
        rw [h2] at h
        have h3 := ownI_cut h
        unfold OwnI at h3
        rwa [List.length_reverse] at h3)
      clear hR hput
      cases S with
      | nil =>
        simp only [List.length_nil]
        go_wp2_with (at_builtin; refine wpList_append_own_at _ rfl _ _ 22 rfl B 3 i0 (.int .i64 0) 1 8 Try.underlying22 hi hz0 hz1 hz2 rfl (by decide) _ 0 [] rfl (World.ownsRow.alloc HC.out _) ⟨w.heap.size, 0, none⟩ 1 1 [.int .i64 j] rfl rfl (one_new _ _ _ _ rfl) (one_int _) (by unfold maxLen; omega) (by omega) (by simp; omega) ?_)
        intro v' w1 hown1 hgrow _ hat
        go_wp2_with fail
        go_ret
        exact put_end (S := []) (j := j) rfl hown1 HP.out hgrow rfl hat
      | cons t S =>
        simp only [List.length_cons] at *
        push_cast
        have hcell : w.cell? ⟨g, S.length, none⟩ = some (.int .i64 t) := by
          have h1 := suf_top HR.out
          have h2 := HO.out
          rw [ownI_cell h2 S.length h1.2, h1.1]
        by_cases h2 : 2 ≤ j
        · have hb := (pair_yes h2).2
          by_cases ht : t = pairN j
          · have HS := Lib.hid (put_step h2 ht (S := S))
            have hq : (t == pairN j) = true := by simpa using ht
            have hq' : (t != pairN j) = false := by simpa using ht
            have hu := tUp_yes (id := j) (b := 1) ⟨by omega, by omega, by have := dep_of (id := j) (by omega) (by omega); obtain ⟨k, _, e, _, hd⟩ := this; rw [e]; cases k with | zero => have := dep_zero hd; omega | succ k => omega⟩
            have hu1 : tUpN j 1 = j / 2 := by rw [hu.1]; rfl
            have hu2 := hu.2
            clear hu ht
            go_wp2_with (first | (go_at_call 23; refine (pair_any _ _ (by omega) (by omega)).mono ?_; rintro e w1 ⟨rfl, rfl⟩) | (go_at_call 48; refine (tUp_any _ _ _ (by omega) (by omega) (by omega) (by omega)).mono ?_; rintro e w1 ⟨rfl, rfl⟩))
            go_round
            case rel => exact ⟨S, P ++ [t], j / 2, by rw [HR.out]; simp, rfl, by go_num, by rw [HP.out, HS.out], by omega, by omega⟩
            case measure => simp [intOf]
          · have hq : (t == pairN j) = false := by simpa using ht
            have hq' : (t != pairN j) = true := by simpa using ht
            have HS := Lib.hid (put_stop (S := S) (t := t) (id := j) (fun g => ht g.2))
            clear ht
            go_wp2_with (first | (go_at_call 23; refine (pair_any _ _ (by omega) (by omega)).mono ?_; rintro e w1 ⟨rfl, rfl⟩) | (at_builtin; refine wpList_append_own_at _ rfl _ _ 22 rfl B 3 i0 (.int .i64 0) 1 8 Try.underlying22 hi hz0 hz1 hz2 rfl (by decide) _ (S.length + 1) (ints (t :: S).reverse) rfl (World.ownsRow.alloc HC.out _) ⟨w.heap.size, 0, none⟩ 1 1 [.int .i64 j] rfl rfl (one_new _ _ _ _ rfl) (one_int _) (by unfold maxLen; omega) (by omega) (by simp; omega) ?_))
            intro v' w1 hown1 hgrow _ hat
            go_wp2_with fail
            go_ret
            exact put_end (S := t :: S) (j := j) rfl (by rw [List.reverse_cons]; exact hown1) (HP.out.trans HS.out) hgrow rfl hat
        · have hb := (pair_no h2).2
          have HS := Lib.hid (put_stop (S := S) (t := t) (id := j) (fun g => h2 g.1))
          go_wp2_with (first | (go_at_call 23; refine (pair_any _ _ (by omega) (by omega)).mono ?_; rintro e w1 ⟨rfl, rfl⟩) | (at_builtin; refine wpList_append_own_at _ rfl _ _ 22 rfl B 3 i0 (.int .i64 0) 1 8 Try.underlying22 hi hz0 hz1 hz2 rfl (by decide) _ (S.length + 1) (ints (t :: S).reverse) rfl (World.ownsRow.alloc HC.out _) ⟨w.heap.size, 0, none⟩ 1 1 [.int .i64 j] rfl rfl (one_new _ _ _ _ rfl) (one_int _) (by unfold maxLen; omega) (by omega) (by simp; omega) ?_))
          intro v' w1 hown1 hgrow _ hat
          go_wp2_with fail
          go_ret
          exact put_end (S := t :: S) (j := j) rfl (by rw [List.reverse_cons]; exact hown1) (HP.out.trans HS.out) hgrow rfl hat

/-- the function value that goes into itself -/
def layF (N : Nat) : Value := .func (.func 39) #[] #[.pointer (some ⟨N + 1, 0, none⟩), .pointer (some ⟨N + 2, 0, none⟩), .pointer (some ⟨N + 3, 0, none⟩), .pointer (some ⟨N, 0, none⟩), .pointer (some ⟨N + 4, 0, none⟩)]
/-- what it captured: the stack, the universe, both ends, itself -/
def LayAt (B N : Nat) (l a b : Int) (w : World) (v : Value) (R : List Int) : Prop :=
  N + 4 < w.heap.size ∧ B ≤ N ∧ w.heap[N]? = some (.cells #[v] 22 (0, 0)) ∧ w.cell? ⟨N + 1, 0, none⟩ = some (.int .i64 l) ∧ w.cell? ⟨N + 2, 0, none⟩ = some (.int .i64 a) ∧ w.cell? ⟨N + 3, 0, none⟩ = some (.int .i64 b) ∧
  w.cell? ⟨N + 4, 0, none⟩ = some (layF N) ∧ w.ownsRow B 3 1 v R.length (ints R.reverse) ∧ (∀ g, v.ownBlock = some g → g < N ∨ N + 4 < g)
/-- all but the stack's cell and its row is as it was -/
structure Moved (N : Nat) (w w' : World) (v : Value) : Prop where
  os : w'.os = w.os
  tape : w'.tape = w.tape
  output : w'.output = w.output
  size : w.heap.size ≤ w'.heap.size
  block : ∀ k, k < w.heap.size → k ≠ N → some k ≠ v.ownBlock → w'.heap[k]? = w.heap[k]?
theorem Moved.refl (N : Nat) (w : World) (v : Value) : Moved N w w v := ⟨rfl, rfl, rfl, Nat.le_refl _, fun _ _ _ _ => rfl⟩
theorem Moved.trans {N : Nat} {w w1 w2 : World} {v v1 : Value} (h : Moved N w w1 v) (h1 : Moved N w1 w2 v1) (ha : At w v v1) : Moved N w w2 v :=
  ⟨h1.os.trans h.os, h1.tape.trans h.tape, h1.output.trans h.output, Nat.le_trans h.size h1.size, fun k hk hN hne => by
    rw [h1.block k (Nat.lt_of_lt_of_le hk h.size) hN ?_, h.block k hk hN hne]
    rcases ha with e | ⟨j, e, hj⟩
    · rw [e]; exact hne
    · rw [e]; intro g; injection g; omega⟩
theorem moved_put {N : Nat} {w w1 : World} {v u : Value} (h : w.grownBy w1 v.ownBlock) : Moved N w (w1.setCell ⟨N, 0, none⟩ u) v :=
  ⟨h.os, h.tape, h.output, by simpa using h.size, fun k hk hN hne => by rw [Below.heap_setCell _ _ _ _ hN]; exact h.block k hk hne⟩
theorem layAt_put {B N : Nat} {l a b : Int} {w w1 : World} {v v' : Value} {R R' : List Int} (h : LayAt B N l a b w v R) (hg : w.grownBy w1 v.ownBlock) (ha : At w v v') (hown : OwnI 3 w1 B v' R'.reverse) :
    LayAt B N l a b (w1.setCell ⟨N, 0, none⟩ v') v' R' ∧ w1.cell? ⟨N, 0, none⟩ = some v ∧ w1.frozen? ⟨N, 0, none⟩ = false := by
  obtain ⟨h1, h2, h3, h4, h5, h6, h7, h8, h9⟩ := h
  have hs := hg.size
  have hne : ∀ i, i ≤ 4 → some (N + i) ≠ v.ownBlock := fun i hi e => by have := h9 _ e.symm; omega
  have hv' : ∀ g, v'.ownBlock = some g → g < N ∨ N + 4 < g := fun g e => by
    rcases ha with q | ⟨k, q, hk⟩
    · exact h9 g (q.symm.trans e)
    · rw [q] at e; injection e with e; omega
  have hb : ∀ i, i ≤ 4 → w1.heap[N + i]? = w.heap[N + i]? := fun i hi => hg.block _ (by omega) (hne i hi)
  have hN := hb 0 (by omega)
  rw [Nat.add_zero] at hN
  have h3' := hN.trans h3
  have cell : ∀ i x, 1 ≤ i → i ≤ 4 → w.cell? ⟨N + i, 0, none⟩ = some x → (w1.setCell ⟨N, 0, none⟩ v').cell? ⟨N + i, 0, none⟩ = some x := fun i x hi hi4 hx => by
    rw [World.cell?_setCell_other _ _ _ _ (fun e => by injection e with e; omega)]
    exact (World.cell?_of_block (a := ⟨N + i, 0, none⟩) (hb i hi4)).trans hx
  refine ⟨⟨by simp; omega, h2, one_setCell h3', cell 1 _ (by omega) (by omega) h4, cell 2 _ (by omega) (by omega) h5, cell 3 _ (by omega) (by omega) h6, cell 4 _ (by omega) (by omega) h7, ?_, hv'⟩, cell_of_one h3', free_of_one h3'⟩
  unfold OwnI at hown
  rw [List.length_reverse] at hown
  exact ownsRow_setCell_other hown (fun e => by have q := hv' N e; omega) _
def IntoPost (B N : Nat) (l a b : Int) (w : World) (v : Value) (R' : List Int) (e : Ending) (w' : World) : Prop :=
  ∃ v', e = .returned (.tuple #[]) ∧ LayAt B N l a b w' v' R' ∧ Moved N w w' v ∧ At w v v'
theorem into_one {l a b : Int} {h : Nat} {id : Int} {R : List Int} (c : a ≤ loN l id ∧ hiN l id ≤ b) : intoR l a b h id R = putR R id ∧ cnt l a b h id = 1 := by
  cases h <;> simp [intoR, cnt, c]
theorem into_two {l a b : Int} {h : Nat} {id : Int} {R : List Int} (c : ¬ (a ≤ loN l id ∧ hiN l id ≤ b)) (d : loN l id ≤ b ∧ a ≤ hiN l id) :
    intoR l a b (h + 1) id R = intoR l a b h (2 * id + 1) (intoR l a b h (2 * id) R) ∧ cnt l a b (h + 1) id = cnt l a b h (2 * id) + cnt l a b h (2 * id + 1) := by
  simp [intoR, cnt, c, d]
theorem into_none {l a b : Int} {h : Nat} {id : Int} {R : List Int} (c : ¬ (a ≤ loN l id ∧ hiN l id ≤ b)) (d : ¬ (loN l id ≤ b ∧ a ≤ hiN l id)) : intoR l a b h id R = R := by
  cases h <;> simp [intoR, c, d]

set_option maxHeartbeats 1600000 in
theorem into_full (B N : Nat) (l a b : Int) (h : Nat) (id : Int) (hn : Node l id) (R : List Int) (v : Value) (w : World) (hlay : LayAt B N l a b w v R) (hl0 : R.length ≤ 1000000) (c1 : a ≤ loN l id) (c2 : hiN l id ≤ b) :
    Calls Try.prog 39 #[.int .i64 id, .pointer (some ⟨N + 1, 0, none⟩), .pointer (some ⟨N + 2, 0, none⟩), .pointer (some ⟨N + 3, 0, none⟩), .pointer (some ⟨N, 0, none⟩), .pointer (some ⟨N + 4, 0, none⟩)] w (IntoPost B N l a b w v (intoR l a b h id R)) := by
  have HI := Lib.hid (into_one (h := h) (R := R) ⟨c1, c2⟩)
  have hbd := node_bd hn
  have hl1 := hn.1.1
  have hl2 := hn.1.2.1
  have hid := right_id hn.1 hn.2
  have L := Lib.hid hlay
  obtain ⟨g1, g2, g3, g4, g5, g6, g7, g8, g9⟩ := hlay
  have g3' := cell_of_one g3
  unfold layF at g7
  have he := (end_yes hn.1).2.2
  have G9 := Lib.hid g9
  clear g9 g3
  go_enter Try.func39, Try.ntmps39
  go_wp2_with (go_at_call 22; refine (ends_any _ _ _ (by omega) (by omega) (by omega) (by omega)).mono ?_; rintro e w1 ⟨rfl, rfl⟩)
  refine (put_any B v R id w (by unfold OwnI; rw [List.length_reverse]; exact g8) (by omega) (by omega) hl0 (by omega)).mono ?_
  rintro e w1 ⟨v', rfl, hown1, hg1, ha1⟩
  obtain ⟨L1, q1, q2⟩ := layAt_put L.out hg1 ha1 hown1
  have M1 := moved_put (N := N) (u := v') hg1
  clear g1 g3' g4 g5 g6 g7 g8 hg1
  obtain ⟨A', m', c', rfl⟩ := own_slice hown1
  clear hown1
  go_wp2_with fail
  go_end0
  refine ⟨_, rfl, ?_, M1, ha1⟩
  rw [HI.out.1]
  exact L1
set_option maxHeartbeats 1600000 in
theorem into_out (B N : Nat) (l a b : Int) (h : Nat) (id : Int) (hn : Node l id) (R : List Int) (v : Value) (w : World) (hlay : LayAt B N l a b w v R) (c0 : ¬ (a ≤ loN l id ∧ hiN l id ≤ b)) (c : ¬ (loN l id ≤ b ∧ a ≤ hiN l id)) :
    Calls Try.prog 39 #[.int .i64 id, .pointer (some ⟨N + 1, 0, none⟩), .pointer (some ⟨N + 2, 0, none⟩), .pointer (some ⟨N + 3, 0, none⟩), .pointer (some ⟨N, 0, none⟩), .pointer (some ⟨N + 4, 0, none⟩)] w (IntoPost B N l a b w v (intoR l a b h id R)) := by
  have HI := Lib.hid (into_none (h := h) (R := R) c0 c)
  have hbd := node_bd hn
  have hl1 := hn.1.1
  have hl2 := hn.1.2.1
  have hid := right_id hn.1 hn.2
  have L := Lib.hid hlay
  obtain ⟨g1, g2, g3, g4, g5, g6, g7, g8, g9⟩ := hlay
  have g3' := cell_of_one g3
  unfold layF at g7
  have he := (end_yes hn.1).2.2
  have G9 := Lib.hid g9
  clear g9 g3
  rcases (show (loN l id < a ∧ b < loN l id) ∨ (loN l id < a ∧ loN l id ≤ b ∧ hiN l id < a) ∨ (a ≤ loN l id ∧ b < hiN l id ∧ b < loN l id) by omega) with ⟨c1, c2⟩ | ⟨c1, c2, c3⟩ | ⟨c1, c2, c3⟩
  all_goals
    clear c c0
    go_enter Try.func39, Try.ntmps39
    go_wp2_with (go_at_call 22; refine (ends_any _ _ _ (by omega) (by omega) (by omega) (by omega)).mono ?_; rintro e w1 ⟨rfl, rfl⟩)
    go_end0
    refine ⟨v, rfl, ?_, Moved.refl .., At.refl ..⟩
    rw [HI.out]
    exact L.out
set_option maxHeartbeats 3200000 in
theorem into_kids (B N : Nat) (l a b : Int) (h k : Nat) (IH : Hid (∀ (k : Nat) (id : Int), Form l id k h → Node l id → ∀ (R : List Int) (v : Value) (w : World), LayAt B N l a b w v R → R.length + cnt l a b h id ≤ 1000000 →
    Calls Try.prog 39 #[.int .i64 id, .pointer (some ⟨N + 1, 0, none⟩), .pointer (some ⟨N + 2, 0, none⟩), .pointer (some ⟨N + 3, 0, none⟩), .pointer (some ⟨N, 0, none⟩), .pointer (some ⟨N + 4, 0, none⟩)] w (IntoPost B N l a b w v (intoR l a b h id R))))
    (id : Int) (f : Form l id k (h + 1)) (hn : Node l id) (R : List Int) (v : Value) (w : World) (hlay : LayAt B N l a b w v R) (hlen : R.length + cnt l a b (h + 1) id ≤ 1000000) (c0 : ¬ (a ≤ loN l id ∧ hiN l id ≤ b)) (c : loN l id ≤ b ∧ a ≤ hiN l id) :
    Calls Try.prog 39 #[.int .i64 id, .pointer (some ⟨N + 1, 0, none⟩), .pointer (some ⟨N + 2, 0, none⟩), .pointer (some ⟨N + 3, 0, none⟩), .pointer (some ⟨N, 0, none⟩), .pointer (some ⟨N + 4, 0, none⟩)] w (IntoPost B N l a b w v (intoR l a b (h + 1) id R)) := by
  have HI := Lib.hid (into_two (h := h) (R := R) c0 c)
  have HK := Lib.hid (kids_form f)
  have hk := kid_yes (l := l) (id := id) ⟨hn.1, fun g => by have q := f.1; have q2 := g.2.2.2; have q3 := (dep_is f.2.2.2.1 hn.2).1; omega⟩
  have hk1 := hk.1
  have hk2 := hk.2.1
  have hk3 := hk.2.2
  clear hk f
  have hbd := node_bd hn
  have hl1 := hn.1.1
  have hl2 := hn.1.2.1
  have hid := right_id hn.1 hn.2
  have L := Lib.hid hlay
  obtain ⟨g1, g2, g3, g4, g5, g6, g7, g8, g9⟩ := hlay
  have g3' := cell_of_one g3
  unfold layF at g7
  have he := (end_yes hn.1).2.2
  have G9 := Lib.hid g9
  clear g9 g3
  obtain ⟨c2, c3⟩ := c
  rcases (show loN l id < a ∨ (a ≤ loN l id ∧ b < hiN l id) by omega) with c1 | ⟨c1, c4⟩
  all_goals
    clear c0
    go_enter Try.func39, Try.ntmps39
    go_wp2_with (first | (go_at_call 22; refine (ends_any _ _ _ (by omega) (by omega) (by omega) (by omega)).mono ?_; rintro e w1 ⟨rfl, rfl⟩) | (go_at_call 40; refine (kids_any _ _ _ (by omega) (by omega) (by omega) (by omega)).mono ?_; rintro e w1 ⟨rfl, rfl⟩))
    refine (IH.out _ _ HK.out.1.2 HK.out.1.1 R v _ L.out (by have := HI.out.2; omega)).mono ?_
    rintro e w1 ⟨v1, rfl, L1, M1, A1⟩
    have L1' := Lib.hid L1
    have Z := M1.size
    have B1 := into_len l a b h (2 * id) R
    obtain ⟨q1, q2, q3, q4, q5, q6, q7, q8, q9⟩ := L1
    unfold layF at q7
    clear g1 g3' g4 g5 g6 g7 g8 q1 q3 q8 q9
    go_wp2_with fail
    refine (IH.out _ _ HK.out.2.1.2 HK.out.2.1.1 _ v1 _ L1'.out (by have := HI.out.2; omega)).mono ?_
    rintro e w2 ⟨v2, rfl, L2, M2, A2⟩
    clear q4 q5 q6 q7
    go_wp2_with fail
    go_end0
    refine ⟨_, rfl, ?_, M1.trans M2 A1, A1.trans A2 Z⟩
    rw [HI.out.1]
    exact L2
theorem into_any (B N : Nat) (l a b : Int) : ∀ (h k : Nat) (id : Int), Form l id k h → Node l id → ∀ (R : List Int) (v : Value) (w : World), LayAt B N l a b w v R → R.length + cnt l a b h id ≤ 1000000 →
    Calls Try.prog 39 #[.int .i64 id, .pointer (some ⟨N + 1, 0, none⟩), .pointer (some ⟨N + 2, 0, none⟩), .pointer (some ⟨N + 3, 0, none⟩), .pointer (some ⟨N, 0, none⟩), .pointer (some ⟨N + 4, 0, none⟩)] w (IntoPost B N l a b w v (intoR l a b h id R)) := by
  intro h
  induction h with
  | zero =>
    intro k id f hn R v w hlay hlen
    by_cases c : a ≤ loN l id ∧ hiN l id ≤ b
    · exact into_full B N l a b 0 id hn R v w hlay (by omega) c.1 c.2
    · exact into_out B N l a b 0 id hn R v w hlay c (by have e1 := f.2.2.2.2.1; have e2 := f.2.2.2.2.2.1; simp at e1 e2; omega)
  | succ h ih =>
    intro k id f hn R v w hlay hlen
    by_cases c : a ≤ loN l id ∧ hiN l id ≤ b
    · exact into_full B N l a b (h + 1) id hn R v w hlay (by omega) c.1 c.2
    · by_cases d : loN l id ≤ b ∧ a ≤ hiN l id
      · exact into_kids B N l a b h k (Lib.hid ih) id f hn R v w hlay hlen c d
      · exact into_out B N l a b (h + 1) id hn R v w hlay c d

def LayPost (B : Nat) (l a b : Int) (w : World) (v : Value) (R : List Int) (e : Ending) (w' : World) : Prop :=
  ∃ v' R', e = .returned v' ∧ OwnI 3 w' B v' R'.reverse ∧ Laid l a b R R' ∧ w.grownBy w' v.ownBlock ∧ At w v v'
set_option maxHeartbeats 1600000 in
theorem lay_none (B : Nat) (l a b : Int) (v : Value) (R : List Int) (w : World) (hown : OwnI 3 w B v R.reverse) (hs : Stack l R) (hab : b < a) :
    Calls Try.prog 26 #[v, .int .i64 l, .int .i64 a, .int .i64 b] w (LayPost B l a b w v R) := by
  have H := Lib.hid hown
  obtain ⟨A', m', c', rfl⟩ := own_slice hown
  clear hown
  go_enter Try.func26, Try.ntmps26
  go_wp2_with fail
  go_ret
  refine ⟨_, R, rfl, ?_, laid_none hs hab, ?_, At.refl ..⟩
  · exact (((H.out.alloc _).alloc _).alloc _).alloc _
  · exact (((World.grownBy_alloc _ _ _).trans (World.grownBy_alloc _ _ _)).trans (World.grownBy_alloc _ _ _)).trans (World.grownBy_alloc _ _ _)
theorem layAt_made (B : Nat) (l a b : Int) (w : World) (v : Value) (R : List Int) (hown : OwnI 3 w B v R.reverse) (hB : B ≤ w.heap.size) :
    LayAt B w.heap.size l a b (((((w.alloc (.cells #[v] 22)).alloc (.cells #[.int .i64 l] 3)).alloc (.cells #[.int .i64 a] 3)).alloc (.cells #[.int .i64 b] 3)).alloc (.cells #[layF w.heap.size] 55)) v R := by
  refine ⟨by simp, hB, ?_, ?_, ?_, ?_, ?_, ?_, fun g e => .inl (World.ownsRow.lt hown g e).2⟩
  · rw [old_blk (by simp <;> omega), old_blk (by simp <;> omega), old_blk (by simp <;> omega), old_blk (by simp)]
    exact heap_alloc_new w _
  · rw [old_cell (by simp <;> omega), old_cell (by simp <;> omega), old_cell (by simp), new_cell _ _ _ _ (by simp)]
  · rw [old_cell (by simp <;> omega), old_cell (by simp), new_cell _ _ _ _ (by simp)]
  · rw [old_cell (by simp), new_cell _ _ _ _ (by simp)]
  · rw [new_cell _ _ _ _ (by simp)]
  · unfold OwnI at hown
    rw [List.length_reverse] at hown
    exact ((((hown.alloc _).alloc _).alloc _).alloc _).alloc _
theorem moved_made {w w' : World} {v : Value} {o1 o2 o3 o4 o5 : Obj} (h : Moved w.heap.size (((((w.alloc o1).alloc o2).alloc o3).alloc o4).alloc o5) w' v) : w.grownBy w' v.ownBlock := by
  refine ⟨h.os, h.tape, h.output, by have := h.size; simp at this; omega, fun k hk hne => ?_⟩
  rw [h.block k (by simp <;> omega) (by omega) hne]
  rw [old_blk (by simp <;> omega), old_blk (by simp <;> omega), old_blk (by simp <;> omega), old_blk (by simp <;> omega), old_blk hk]
set_option maxHeartbeats 1600000 in
theorem lay_some (B : Nat) (l a b : Int) (v : Value) (R : List Int) (w : World) (hown : OwnI 3 w B v R.reverse) (hs : Stack l R) (hab : a ≤ b) (ha : ValC l a) (hb : ValC l b) (hR : ∀ t ∈ R, hiN l t < a) (hl : R.length ≤ 900000) (hB : B ≤ w.heap.size) :
    Calls Try.prog 26 #[v, .int .i64 l, .int .i64 a, .int .i64 b] w (LayPost B l a b w v R) := by
  have H := Lib.hid hown
  have HR := Lib.hid hR
  obtain ⟨k, h, f, hn, hmb, t1, t2, t3, t4⟩ := lay_top ha hb
  have F := Lib.hid f
  have h2 := (leaf_yes ha).2
  have h3 := (leaf_yes hb).2
  have hl1 := ha.1
  have hl2 := ha.2.1
  have b1 : (2 : Int) ^ l.toNat ≤ 281474976710656 := two_le l.toNat 48 (by omega)
  have hbd1 : 0 ≤ leafN l a ∧ leafN l a ≤ 562949953421312 := by rw [(leaf_yes ha).1]; have := ha.2.2; have := two_pos l.toNat; omega
  have hbd2 : 0 ≤ leafN l b ∧ leafN l b ≤ 562949953421312 := by rw [(leaf_yes hb).1]; have := hb.2.2; have := two_pos l.toNat; omega
  have ha2 := ha.2.2
  have hb2 := hb.2.2
  obtain ⟨A', m', c', rfl⟩ := own_slice hown
  clear hown hR f ha hb
  go_enter Try.func26, Try.ntmps26
  go_wp2_with (first | (go_at_call 38; refine (leaf_any _ _ _ (by omega) (by omega) (by omega) (by omega)).mono ?_; rintro e w1 ⟨rfl, rfl⟩) | (go_at_call 41; refine (meet_any _ _ _ (by omega) (by omega) (by omega) (by omega)).mono ?_; rintro e w1 ⟨rfl, rfl⟩))
  refine (into_any B w.heap.size l a b h k _ F.out hn R _ _ (layAt_made B l a b w _ R H.out hB) (by have := laid_cnt (a := a) (b := b) F.out; omega)).mono ?_
  rintro e w1 ⟨v1, rfl, L1, M1, A1⟩
  have A1' := Lib.hid A1
  have M1' := Lib.hid M1
  have HL := Lib.hid (laid_into F.out hn hs HR.out hab t1 t4)
  obtain ⟨q1, q2, q3, q4, q5, q6, q7, q8, q9⟩ := L1
  have q3' := cell_of_one q3
  have Q8 := Lib.hid q8
  obtain ⟨A2, m2, c2, rfl⟩ := own_slice q8
  clear q1 q3 q4 q5 q6 q7 q8 q9 A1 M1
  go_wp2_with fail
  go_ret
  refine ⟨_, _, rfl, ?_, HL.out, moved_made M1'.out, ?_⟩
  · unfold OwnI
    rw [List.length_reverse]
    exact Q8.out
  · rcases A1'.out with e | ⟨k, e, hk⟩
    · exact .inl e
    · exact .inr ⟨k, e, by simp at hk; omega⟩

end Go.Proofs.Ytjmglihdndknjaa
