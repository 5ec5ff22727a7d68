/- The project's package roll: placed nodes put in order: Post$1, slices.Clone, merge, inOrder at placed nodes. -/
import Derived.Test.YtiihckbjmhhioaaRo4
import Derived.Test.YtiihckbjmhhioaaPlMem
import Derived.Deep.RegionHeld3
import Derived.Deep.RegionWith
import Derived.Deep.DrawnRows
import Derived.WalkSpells
import Derived.Lib.SliceRun
namespace Go.Proofs.Ytiihckbjmhhioaa
set_option linter.unusedVariables false
open Go.RowKit
attribute [local go_sem ↓] Go.wp_at_zero Go.wp_at_succ

theorem pl_info : (Try.prog.info? 49).map (fun i => (i.zero, i.size, i.bytes)) = some (some (.agg #[.int .i64 0, .int .i64 0, .int .i64 0]), 3, 24) := by kernel_rfl
def RowPostP (S : List Pl) (w : World) (e : Ending) (w' : World) : Prop := ∃ v, e = .returned v ∧ PlacedAt w' v S ∧ Below w.heap.size w w'
set_option maxHeartbeats 800000 in
theorem postLess_any (a b : Pl) (w : World) :
    Calls Try.prog 36 #[.agg #[.int .i64 a.1.1, .int .i64 a.1.2, .int .i64 a.2], .agg #[.int .i64 b.1.1, .int .i64 b.1.2, .int .i64 b.2]] w fun e w' => e = .returned (.bool (plA a b)) ∧ Below w.heap.size w w' := by
  obtain ⟨⟨a1, a2⟩, a3⟩ := a
  obtain ⟨⟨b1, b2⟩, b3⟩ := b
  by_cases h : a3 < b3
  · have H := Lib.hid (show plA ((a1, a2), a3) ((b1, b2), b3) = true from decide_eq_true (.inl h))
    go_enter Try.func36, Try.ntmps36
    go_wp2_with fail
    go_ret
    exact ⟨by rw [H.out]; rfl, ((Below.refl _ _).alloc (Nat.le_refl _) _).alloc (by simp) _⟩
  · by_cases h1 : a3 = b3
    · subst h1
      by_cases h2 : b1 < a1
      · have H := Lib.hid (show plA ((a1, a2), a3) ((b1, b2), a3) = true from decide_eq_true (.inr ⟨rfl, h2⟩))
        go_enter Try.func36, Try.ntmps36
        go_wp2_with fail
        go_ret
        exact ⟨by rw [H.out]; rfl, ((Below.refl _ _).alloc (Nat.le_refl _) _).alloc (by simp) _⟩
      · have H := Lib.hid (show plA ((a1, a2), a3) ((b1, b2), a3) = false from decide_eq_false (by dsimp only; omega))
        go_enter Try.func36, Try.ntmps36
        go_wp2_with fail
        go_ret
        exact ⟨by rw [H.out]; rfl, ((Below.refl _ _).alloc (Nat.le_refl _) _).alloc (by simp) _⟩
    · have H := Lib.hid (show plA ((a1, a2), a3) ((b1, b2), b3) = false from decide_eq_false (by dsimp only; omega))
      have h1' : (a3 == b3) = false := by simpa using h1
      clear h1
      go_enter Try.func36, Try.ntmps36
      go_wp2_with fail
      go_ret
      exact ⟨by rw [H.out]; rfl, ((Below.refl _ _).alloc (Nat.le_refl _) _).alloc (by simp) _⟩
set_option maxHeartbeats 1600000 in
theorem clonePl_any (A : Option Addr) (n c : Nat) (L : List Pl) (w : World) (h : PlacedAt w (.slice A n c) L) (hn : n ≤ 1000000) :
    Calls Try.prog 46 #[.slice A n c] w (RowPostP L w) := by
  obtain ⟨hlen, hlc, hcm, hat⟩ := placed_cells h
  have HL := Lib.hid hlen
  have HA := Lib.hid hat
  clear hlen hat h hlc hcm
  obtain ⟨i0, hi, hz0, hz1, hz2⟩ := info_parts pl_info
  have q22 : ∀ (w : World) (a : Option Addr) (n c n' c' : Nat), (binOp .eql 45 (.slice a n c) (.slice none n' c')).run Try.prog w = .ok (.bool a.isNone) w := fun w a n c n' c' => Lib.run_eql_slice_nil w _ _ a n c n' c' Try.underlying45
  rcases Nat.eq_zero_or_pos n with h0 | h0
  · have hL0 : L = [] := List.eq_nil_of_length_eq_zero (by rw [← HL.out]; exact h0)
    subst hL0
    cases A with
    | none =>
      go_enter Try.func46, Try.ntmps46
      go_wp2_with fail
      go_ret
      exact ⟨_, rfl, placed_nil w, Below.refl ..⟩
    | some a =>
      subst h0
      go_enter Try.func46, Try.ntmps46
      go_wp2_with (at_builtin; refine wpList_append_own _ rfl _ _ 45 rfl w.heap.size 49 i0 (.agg #[.int .i64 0, .int .i64 0, .int .i64 0]) 3 24 Try.underlying45 hi hz0 hz1 hz2 rfl (by decide) _ _ _ rfl (World.ownsRow_made w #[] 0 (Nat.le_refl _) (Nat.zero_le _) rfl) a 0 c [] rfl rfl ?qc1 ?qc2 ?qc3 ?qc4 ?qc5 ?qc6)
      case qc1 => intro j u hj; simp at hj
      case qc2 => intro u hu; simp at hu
      case qc3 => unfold maxLen; omega
      case qc4 => omega
      case qc5 => simp
      intro v' w1 hown hgrow hnil
      go_wp2
      go_ret
      exact ⟨v', rfl, ownPl_nodes (e := 49) (B := w.heap.size) (by simpa [OwnPl, plas] using hown), ((Below.refl _ w).alloc (Nat.le_refl _) _).grown hgrow (by simp) (by intro k hk; simp [Value.ownBlock] at hk; omega)⟩
  · obtain ⟨b, o, rfl, hin⟩ := HA.out (by have := HL.out; omega)
    have HI := Lib.hid hin
    have hbl := hin.1
    have NL := Lib.hid (show (plas L).length = n * 3 by rw [plas_len]; have := HL.out; omega)
    clear hin
    go_enter Try.func46, Try.ntmps46
    go_wp2_with (at_builtin; refine wpList_append_own _ rfl _ _ 45 rfl w.heap.size 49 i0 (.agg #[.int .i64 0, .int .i64 0, .int .i64 0]) 3 24 Try.underlying45 hi hz0 hz1 hz2 rfl (by decide) _ _ _ rfl (World.ownsRow_made w #[] 0 (Nat.le_refl _) (Nat.zero_le _) rfl) ⟨b, o, none⟩ n c (plas L) rfl NL.out ?pc1 ?pc2 ?pc3 ?pc4 ?pc5 ?pc6)
    case pc1 => exact (HI.out.below ((Below.refl _ w).alloc (Nat.le_refl _) _) hbl).news
    case pc2 => exact plas_one L
    case pc3 => unfold maxLen; omega
    case pc4 => omega
    case pc5 => simp
    intro v' w1 hown hgrow hnil
    go_wp2
    go_ret
    exact ⟨v', rfl, ownPl_nodes (e := 49) (B := w.heap.size) (by have q := hown; rw [HL.out] at q; simpa [OwnPl] using q), ((Below.refl _ w).alloc (Nat.le_refl _) _).grown hgrow (by simp) (by intro k hk; simp [Value.ownBlock] at hk; omega)⟩
/-- how far the merging has come -/
structure MInvP (B : Nat) (w wr : World) (ad bd : Addr) (ca cb : Nat) (v : Value) (P Q R LM : List Pl) : Prop where
  a : PlAt w (some ad) P
  b : PlAt w (some bd) Q
  ca : P.length ≤ ca
  cb : Q.length ≤ cb
  own : OwnPl 49 wr B v R
  goes : R ++ mrg plA P Q = LM
  below : Below w.heap.size w wr
theorem minvP_len {B : Nat} {w wr : World} {ad bd : Addr} {ca cb : Nat} {v : Value} {P Q R LM : List Pl} (h : MInvP B w wr ad bd ca cb v P Q R LM) : R.length + (P.length + Q.length) = LM.length := by
  have := congrArg List.length h.goes
  rw [List.length_append, (mrg_perm plA P Q).length_eq, List.length_append] at this
  exact this
theorem minvP_b {w wr w2 : World} {ad bd : Addr} {ca cb : Nat} {v v' : Value} {x y : Pl} {P Q R LM : List Pl} (h : MInvP w.heap.size w wr ad bd ca cb v (x :: P) (y :: Q) R LM) (hlt : plA y x = true) (hown : OwnPl 49 w2 w.heap.size v' (R ++ [y])) (hb : Below w.heap.size w w2) :
    MInvP w.heap.size w w2 ad (advA bd cb 1 3) ca (cb - 1) v' (x :: P) Q (R ++ [y]) LM :=
  ⟨h.a, by have := h.b.adv (k := 1) h.cb; simpa using this, h.ca, by have := h.cb; simp at this; omega, hown, by rw [← h.goes, mrg_b hlt]; simp, hb⟩
theorem minvP_a {w wr w2 : World} {ad bd : Addr} {ca cb : Nat} {v v' : Value} {x y : Pl} {P Q R LM : List Pl} (h : MInvP w.heap.size w wr ad bd ca cb v (x :: P) (y :: Q) R LM) (hlt : plA y x = false) (hown : OwnPl 49 w2 w.heap.size v' (R ++ [x])) (hb : Below w.heap.size w w2) :
    MInvP w.heap.size w w2 (advA ad ca 1 3) bd (ca - 1) cb v' P (y :: Q) (R ++ [x]) LM :=
  ⟨by have := h.a.adv (k := 1) h.ca; simpa using this, h.b, by have := h.ca; simp at this; omega, h.cb, hown, by rw [← h.goes, mrg_a hlt]; simp, hb⟩
theorem minvP_end {B : Nat} {w wr : World} {ad bd : Addr} {ca cb : Nat} {v : Value} {P Q R LM : List Pl} (h : MInvP B w wr ad bd ca cb v P Q R LM) (hd : P = [] ∨ Q = []) : R ++ P ++ Q = LM := by
  rw [← h.goes]
  rcases hd with rfl | rfl
  · rw [nil_mrg]; simp
  · rw [mrg_nil]; simp
set_option maxHeartbeats 6400000 in
set_option maxRecDepth 100000 in
theorem mergeP_any (ad bd : Addr) (n c n2 c2 : Nat) (L M : List Pl) (w : World) (h : PlacedAt w (.slice (some ad) n c) L) (h2 : PlacedAt w (.slice (some bd) n2 c2) M) (hn : n ≤ 1000000) (hn2 : n2 ≤ 1000000) :
    Calls Try.prog 47 #[.slice (some ad) n c, .slice (some bd) n2 c2, .func (.func 36) #[] #[]] w (RowPostP (mrg plA L M) w) := by
  obtain ⟨hlen, hlc, hcm, hat⟩ := placed_cells h
  obtain ⟨hlen2, hlc2, hcm2, hat2⟩ := placed_cells h2
  obtain ⟨i0, hi, hz0, hz1, hz2⟩ := info_parts pl_info
  have hlm : Hid ((mrg plA L M).length = n + n2) := by show _ = _; rw [(mrg_perm plA L M).length_eq, List.length_append]; omega
  have INV0 := Lib.hid (fun (v : Value) (w1 : World) (q : OwnPl 49 w1 w.heap.size v []) (hb : Below w.heap.size w w1) => (show MInvP w.heap.size w w1 ad bd c c2 v L M [] (mrg plA L M) from ⟨hat, hat2, hlc, hlc2, q, rfl, hb⟩))
  have HL := Lib.hid hlen
  have HL2 := Lib.hid hlen2
  clear hlen hat h hlc hcm hlen2 hat2 h2 hlc2 hcm2
  have hmk := make_room (P := Try.prog) Try.underlying45 hi hz0 hz1 hz2 (n + n2) (by omega) (by omega) w
  rw [Int.natCast_add] at hmk
  go_enter Try.func47, Try.ntmps47
  go_wp2_with fail
  clear hmk
  go_loopw [0, 1, 7] (fun a b v wr => ∃ (P Q R : List Pl) (ad' bd' : Addr) (m p ca cb : Nat), a = .slice (some ad') m ca ∧ b = .slice (some bd') p cb ∧ m = P.length ∧ p = Q.length ∧ m ≤ n ∧ p ≤ n2 ∧ MInvP w.heap.size w wr ad' bd' ca cb v P Q R (mrg plA L M)) (fun a b _ _ => (match a with | .slice _ m _ => m | _ => 0) + (match b with | .slice _ m _ => m | _ => 0))
  case atStart => exact ⟨L, M, [], ad, bd, n, n2, c, c2, rfl, rfl, HL.out, HL2.out, Nat.le_refl _, Nat.le_refl _, INV0.out _ _ (room_own (Nat.le_refl _) (by unfold maxLen; omega)) ((Below.refl _ _).alloc (Nat.le_refl _) _)⟩
  case round =>
    rename_i wr
    obtain ⟨P, Q, R, ad', bd', m, p, ca, cb, rfl, rfl, hm, hp, hmn, hpn, hinv⟩ := hrel
    have HM := Lib.hid hm
    have HP := Lib.hid hp
    have INV := Lib.hid hinv
    have hlen : R.length + (m + p) = n + n2 := by have := minvP_len hinv; rw [hlm.out] at this; omega
    have zs := hinv.below.size
    obtain ⟨A3, m3, c3, rfl⟩ := ownNd_slice hinv.own
    clear hm hp hinv
    by_cases hmp : 0 < m ∧ 0 < p
    · obtain ⟨hm0, hp0⟩ := hmp
      obtain ⟨⟨⟨x1, x2⟩, x3⟩, P, rfl⟩ : ∃ x P', P = x :: P' := by
        cases P with
        | nil => have := HM.out; simp at this; omega
        | cons x P => exact ⟨x, P, rfl⟩
      obtain ⟨⟨⟨y1, y2⟩, y3⟩, Q, rfl⟩ : ∃ x P', Q = x :: P' := by
        cases Q with
        | nil => have := HP.out; simp at this; omega
        | cons x P => exact ⟨x, P, rfl⟩
      obtain ⟨b1, o1, rfl, hb1, e0, e1, e4⟩ := INV.out.a.first INV.out.below
      obtain ⟨b2, o2, rfl, hb2, e2, e3, e5⟩ := INV.out.b.first INV.out.below
      dsimp only at e0 e1 e2 e3 e4 e5
      have hsa := sl_one (P := Try.prog) Try.underlying45 hi hz1 ⟨b1, o1, none⟩ m ca hm0
      have hsb := sl_one (P := Try.prog) Try.underlying45 hi hz1 ⟨b2, o2, none⟩ p cb hp0
      have hm1 : Hid (m - 1 = P.length) := by have := HM.out; show _ = _; simp at this; omega
      have hp1 : Hid (p - 1 = Q.length) := by have := HP.out; show _ = _; simp at this; omega
      cases q : plA ((y1, y2), y3) ((x1, x2), x3)
      · have Q0 := Lib.hid q
        go_wp2_with fail
        go_region_held3 (fun w' => w'.cell? ⟨b1, o1, none⟩ = some (.int .i64 x1) ∧ w'.cell? ⟨b1, o1 + 1, none⟩ = some (.int .i64 x2) ∧ w'.cell? ⟨b1, o1 + 2, none⟩ = some (.int .i64 x3) ∧ w'.cell? ⟨b2, o2, none⟩ = some (.int .i64 y1) ∧ w'.cell? ⟨b2, o2 + 1, none⟩ = some (.int .i64 y2) ∧ w'.cell? ⟨b2, o2 + 2, none⟩ = some (.int .i64 y3) ∧ Below wr.heap.size wr w')
          (first | (exact keep6 (by assumption) (by assumption) (by dsimp only; omega) (by dsimp only; omega) (by dsimp only; omega) (by dsimp only; omega) (by dsimp only; omega) (by dsimp only; omega)) | (exact ⟨e0, e1, e4, e2, e3, e5, below_drew _⟩))
          (first | (go_at_call 36; refine (postLess_any ((y1, y2), y3) ((x1, x2), x3) _).mono ?_; rintro e w1 ⟨rfl, hbc⟩))
        rename_i hH
        obtain ⟨f0, f1, f4, f2, f3, f5, hbr⟩ := hH
        have hzr := hbr.size
        have hown1 := own_below INV.out.own hbr
        clear hbc e0 e1 e2 e3 e4 e5
        go_wp2_with fail
        clear q
        go_region_held3 (fun w' => w'.cell? ⟨b1, o1, none⟩ = some (.int .i64 x1) ∧ w'.cell? ⟨b1, o1 + 1, none⟩ = some (.int .i64 x2) ∧ w'.cell? ⟨b1, o1 + 2, none⟩ = some (.int .i64 x3))
          (first | go_keep | (exact keep3g (by simp [*]) (by simp [*]) (by simp [*]) hown1 hgrow (by dsimp only; omega) (by dsimp only; omega) (by dsimp only; omega) (by simp; omega)))
          ((refine step_append_lies _ (by rfl) _ _ _ (by rfl) w.heap.size 49 i0 _ 3 24 Try.underlying45 hi hz0 hz1 hz2 rfl (by omega) (.slice A3 m3 c3) R.length (plas R) (by rfl) ((hown1.alloc _).drew) ⟨w1.heap.size, 0, none⟩ 1 1 [.int .i64 x1, .int .i64 x2, .int .i64 x3] (by rfl) (by rfl) (World.news_of_block (cs := #[.int .i64 x1, .int .i64 x2, .int .i64 x3]) (t := 49) (fr := (0, 0)) (heap_alloc_new w1 _)) (pl_cell3 _ _ _) (by omega) (by unfold maxLen; omega) (by omega) (by simp; omega) (w1.heap.size + 1) (by simp) ?_; intro gg cap w2 hown2 hgrow hat2 hlt2))
        go_wp2_with fail
        clear f0 f1 f2 f3 f4 f5
        have hown3 := Lib.hid (ownPl_snoc hown2)
        have hb2w : Below w.heap.size w w2 := (((INV.out.below.trans (hbr.mono zs)).alloc (by omega) _).drew).grown hgrow (by simp; omega) (fun g hg => (hown1.lt g hg).1)
        have INV3 := Lib.hid (minvP_a INV.out Q0.out hown3.out hb2w)
        clear hown2 hgrow hat2 hown1 hbr
        go_roundw
        case rel => exact ⟨P, ((y1, y2), y3) :: Q, R ++ [((x1, x2), x3)], _, _, m - 1, p, ca - 1, cb, rfl, rfl, hm1.out, HP.out, by omega, by omega, INV3.out⟩
        case measure => simp; omega
      · have Q0 := Lib.hid q
        go_wp2_with fail
        go_region_held3 (fun w' => w'.cell? ⟨b1, o1, none⟩ = some (.int .i64 x1) ∧ w'.cell? ⟨b1, o1 + 1, none⟩ = some (.int .i64 x2) ∧ w'.cell? ⟨b1, o1 + 2, none⟩ = some (.int .i64 x3) ∧ w'.cell? ⟨b2, o2, none⟩ = some (.int .i64 y1) ∧ w'.cell? ⟨b2, o2 + 1, none⟩ = some (.int .i64 y2) ∧ w'.cell? ⟨b2, o2 + 2, none⟩ = some (.int .i64 y3) ∧ Below wr.heap.size wr w')
          (first | (exact keep6 (by assumption) (by assumption) (by dsimp only; omega) (by dsimp only; omega) (by dsimp only; omega) (by dsimp only; omega) (by dsimp only; omega) (by dsimp only; omega)) | (exact ⟨e0, e1, e4, e2, e3, e5, below_drew _⟩))
          (first | (go_at_call 36; refine (postLess_any ((y1, y2), y3) ((x1, x2), x3) _).mono ?_; rintro e w1 ⟨rfl, hbc⟩))
        rename_i hH
        obtain ⟨f0, f1, f4, f2, f3, f5, hbr⟩ := hH
        have hzr := hbr.size
        have hown1 := own_below INV.out.own hbr
        clear hbc e0 e1 e2 e3 e4 e5
        go_wp2_with fail
        clear q
        go_region_held3 (fun w' => w'.cell? ⟨b2, o2, none⟩ = some (.int .i64 y1) ∧ w'.cell? ⟨b2, o2 + 1, none⟩ = some (.int .i64 y2) ∧ w'.cell? ⟨b2, o2 + 2, none⟩ = some (.int .i64 y3))
          (first | go_keep | (exact keep3g (by simp [*]) (by simp [*]) (by simp [*]) hown1 hgrow (by dsimp only; omega) (by dsimp only; omega) (by dsimp only; omega) (by simp; omega)))
          ((refine step_append_lies _ (by rfl) _ _ _ (by rfl) w.heap.size 49 i0 _ 3 24 Try.underlying45 hi hz0 hz1 hz2 rfl (by omega) (.slice A3 m3 c3) R.length (plas R) (by rfl) ((hown1.alloc _).drew) ⟨w1.heap.size, 0, none⟩ 1 1 [.int .i64 y1, .int .i64 y2, .int .i64 y3] (by rfl) (by rfl) (World.news_of_block (cs := #[.int .i64 y1, .int .i64 y2, .int .i64 y3]) (t := 49) (fr := (0, 0)) (heap_alloc_new w1 _)) (pl_cell3 _ _ _) (by omega) (by unfold maxLen; omega) (by omega) (by simp; omega) (w1.heap.size + 1) (by simp) ?_; intro gg cap w2 hown2 hgrow hat2 hlt2))
        go_wp2_with fail
        clear f0 f1 f2 f3 f4 f5
        have hown3 := Lib.hid (ownPl_snoc hown2)
        have hb2w : Below w.heap.size w w2 := (((INV.out.below.trans (hbr.mono zs)).alloc (by omega) _).drew).grown hgrow (by simp; omega) (fun g hg => (hown1.lt g hg).1)
        have INV3 := Lib.hid (minvP_b INV.out Q0.out hown3.out hb2w)
        clear hown2 hgrow hat2 hown1 hbr
        go_roundw
        case rel => exact ⟨((x1, x2), x3) :: P, Q, R ++ [((y1, y2), y3)], _, _, m, p - 1, ca, cb - 1, rfl, rfl, HM.out, hp1.out, by omega, by omega, INV3.out⟩
        case measure => simp; omega
    · have hd : P = [] ∨ Q = [] := by
        rcases Nat.eq_zero_or_pos m with q | q
        · exact .inl (List.eq_nil_of_length_eq_zero (by rw [← HM.out]; exact q))
        · exact .inr (List.eq_nil_of_length_eq_zero (by rw [← HP.out]; omega))
      have HE := Lib.hid (minvP_end INV.out hd)
      have NM := Lib.hid (show (plas P).length = m * 3 by rw [plas_len, HM.out])
      have NP := Lib.hid (show (plas Q).length = p * 3 by rw [plas_len, HP.out])
      clear hd
      by_cases hm0 : 0 < m
      all_goals
        have hown := INV.out.own
        go_wp2_with (first
          | (at_builtin; refine wpList_append_own _ rfl (.tmp 46) (.tmp 47) 45 rfl w.heap.size 49 i0 (.agg #[.int .i64 0, .int .i64 0, .int .i64 0]) 3 24 Try.underlying45 hi hz0 hz1 hz2 rfl (by decide) (.slice A3 m3 c3) R.length (plas R) rfl hown ad' m ca (plas P) rfl NM.out (INV.out.a.news INV.out.below) (plas_one P) (by unfold maxLen; omega) (by omega) zs ?_; intro v1 w1 hown1 hgrow1 _; obtain ⟨A4, m4, c4, rfl⟩ := ownNd_slice hown1; have hb1 := INV.out.below.grown hgrow1 zs (fun g hg => (hown.lt g hg).1); have zs1 := hb1.size)
          | (at_builtin; refine wpList_append_own _ rfl (.tmp 48) (.tmp 49) 45 rfl w.heap.size 49 i0 (.agg #[.int .i64 0, .int .i64 0, .int .i64 0]) 3 24 Try.underlying45 hi hz0 hz1 hz2 rfl (by decide) (.slice A4 m4 c4) (R.length + m) (plas R ++ plas P) rfl hown1 bd' p cb (plas Q) rfl NP.out (INV.out.b.news hb1) (plas_one Q) (by unfold maxLen; omega) (by omega) zs1 ?_; intro v2 w2 hown2 hgrow2 _))
        have hb2 := hb1.grown hgrow2 zs1 (fun g hg => (hown1.lt g hg).1)
        go_ret
        exact ⟨v2, rfl, ownPl_nodes (e := 49) (B := w.heap.size) (by
          have q := hown2
          rw [HM.out, HP.out, ← plas_app, ← plas_app, HE.out] at q
          have e : R.length + P.length + Q.length = (mrg plA L M).length := by rw [← HE.out, List.length_append, List.length_append]
          rw [e] at q
          exact q), hb2⟩
/-- what a call that puts a list in order leaves -/
def OrdPostP (L : List Pl) (w : World) (e : Ending) (w' : World) : Prop :=
  ∃ S A c, e = .returned (.slice A (List.length S) c) ∧ Srt plA L S ∧ PlacedAt w' (.slice A S.length c) S ∧ (0 < S.length → ∃ a, A = some a) ∧ Below w.heap.size w w'
theorem ordP_of {L S : List Pl} {w w' : World} {e : Ending} (h : RowPostP S w e w') (hs : Srt plA L S) : OrdPostP L w e w' := by
  obtain ⟨v, rfl, hn, hb⟩ := h
  have hf := hn
  obtain ⟨A, c, rfl, _, _, _, hat⟩ := hn
  exact ⟨S, A, c, rfl, hs, hf, fun h0 => by obtain ⟨b, o, e, _⟩ := hat h0; exact ⟨_, e⟩, hb⟩
theorem placed_cut {w : World} {a : Addr} {n c k : Nat} {L : List Pl} (h : PlacedAt w (.slice (some a) n c) L) (hk : k ≤ n) :
    PlacedAt w (.slice (some a) k c) (L.take k) ∧ PlacedAt w (.slice (some (advA a c k 3)) (n - k) (c - k)) (L.drop k) := by
  obtain ⟨hl, hlc, hcm, hat⟩ := placed_cells h
  refine ⟨⟨_, c, by rw [List.length_take, Nat.min_eq_left (by omega)], by rw [List.length_take]; omega, hcm, fun e => by simp at e, hat.take⟩, ⟨_, c - k, by rw [List.length_drop, hl], by rw [List.length_drop]; omega, by omega, fun e => by simp at e, hat.adv hlc⟩⟩
set_option maxHeartbeats 3200000 in
theorem inOrderP_any (k : Nat) : ∀ (A : Option Addr) (n c : Nat) (L : List Pl) (w : World), n ≤ k → PlacedAt w (.slice A n c) L → n ≤ 1000000 →
    Calls Try.prog 35 #[.slice A n c, .func (.func 36) #[] #[]] w (OrdPostP L w) := by
  induction k with
  | zero =>
    intro A n c L w hk h hn
    have HN := Lib.hid h
    have hs := Lib.hid (Srt.small plA (L := L) (by rw [← (placed_cells h).1]; omega))
    clear h
    go_enter Try.func35, Try.ntmps35
    go_wp2_with (go_at_call 46; refine (clonePl_any _ _ _ _ _ HN.out hn).mono ?_; rintro e w1 ⟨v, rfl, hv, hb⟩)
    go_ret
    exact ordP_of ⟨v, rfl, hv, hb⟩ hs.out
  | succ k ih =>
    intro A n c L w hk h hn
    have HN := Lib.hid h
    by_cases h2 : n < 2
    · have hs := Lib.hid (Srt.small plA (L := L) (by rw [← (placed_cells h).1]; omega))
      clear h ih
      go_enter Try.func35, Try.ntmps35
      go_wp2_with (go_at_call 46; refine (clonePl_any _ _ _ _ _ HN.out hn).mono ?_; rintro e w1 ⟨v, rfl, hv, hb⟩)
      go_ret
      exact ordP_of ⟨v, rfl, hv, hb⟩ hs.out
    · obtain ⟨hl, hlc, hcm, hat⟩ := placed_cells h
      obtain ⟨b, o, rfl, _⟩ := hat (by omega)
      obtain ⟨i0, hi, hz0, hz1, hz2⟩ := info_parts pl_info
      have IH := Lib.hid ih
      have hc := Lib.hid (placed_cut h (k := n / 2) (by omega))
      have e2 : ((n / 2 : Nat) : Int) = (n : Int) / 2 := by omega
      have hsa := sl_to (P := Try.prog) Try.underlying45 hi hz1 (some ⟨b, o, none⟩) n c (n / 2) (by omega)
      have hsb := sl_from (P := Try.prog) Try.underlying45 hi hz1 ⟨b, o, none⟩ n c (n / 2) (by omega)
      rw [e2] at hsa hsb
      have l1 : Hid ((L.take (n / 2)).length = n / 2) := by show _ = _; rw [List.length_take]; omega
      have l2 : Hid ((L.drop (n / 2)).length = n - n / 2) := by show _ = _; rw [List.length_drop]; omega
      clear h ih hl hat e2
      have hb0 := Lib.hid (Below.refl w.heap.size w)
      go_enter Try.func35, Try.ntmps35
      go_wp2_with fail
      go_region_held3 (fun w' => Below w.heap.size w w')
        (first | (exact below_drew _) | (exact Below.trans (by assumption) (Below.mono (by assumption) (Below.size (by assumption)))))
        (first
          | ((with_reducible refine (IH.out _ _ _ _ _ (by omega) (hc.out.1.below (by assumption)) (by omega)).mono ?_); rintro e w1 ⟨S1, A1, c1, rfl, hs1, hn1, hA1, hb1⟩; obtain ⟨a1, rfl⟩ := hA1 (by rw [hs1.len, l1.out]; omega); have z1 : S1.length ≤ 1000000 := by (rw [hs1.len, l1.out]; omega))
          | ((with_reducible refine (IH.out _ _ _ _ _ (by omega) (hc.out.2.below (by assumption)) (by omega)).mono ?_); rintro e w2 ⟨S2, A2, c2, rfl, hs2, hn2, hA2, hb2⟩; obtain ⟨a2, rfl⟩ := hA2 (by rw [hs2.len, l2.out]; omega); have z2 : S2.length ≤ 1000000 := by (rw [hs2.len, l2.out]; omega))
          | (go_at_call 47; refine (mergeP_any a1 a2 _ _ _ _ S1 S2 _ (by first | exact hn1 | exact hn1.below hb2) (by first | exact hn2 | exact hn2.below hb1) z1 z2).mono ?_; rintro e w3 ⟨v3, rfl, hn3, hb3⟩))
      all_goals
        go_wp2_with fail
        go_ret
        exact ordP_of ⟨v3, rfl, hn3, by assumption⟩ (srt_mrg_cut plA_ahd (n / 2) hs1 hs2)

end Go.Proofs.Ytiihckbjmhhioaa
