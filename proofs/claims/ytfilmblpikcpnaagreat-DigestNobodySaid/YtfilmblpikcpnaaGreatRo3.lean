/- The project's package roll: two lists in order merged, and lists put in order by that. -/
import Derived.Test.YtfilmblpikcpnaaGreatRo2
import Derived.Test.YtfilmblpikcpnaaGreatMmy
import Derived.Deep.RegionHeld3
import Derived.Deep.RegionWith
import Derived.Deep.DrawnRows
import Derived.WalkSpells
import Derived.Laws.AppendOwnNone
namespace Go.Proofs.YtfilmblpikcpnaaGreat
set_option linter.unusedVariables false
open Go.RowKit
attribute [local go_sem ↓] Go.wp_at_zero Go.wp_at_succ

/-- how far the merging has come -/
structure MInv (B : Nat) (w wr : World) (ad bd : Addr) (ca cb : Nat) (v : Value) (P Q R LM : List Nd) : Prop where
  a : NdAt w (some ad) P
  b : NdAt w (some bd) Q
  ca : P.length ≤ ca
  cb : Q.length ≤ cb
  own : OwnNd 74 wr B v R
  goes : R ++ mrg idA P Q = LM
  below : Below w.heap.size w wr
theorem minv_len {B : Nat} {w wr : World} {ad bd : Addr} {ca cb : Nat} {v : Value} {P Q R LM : List Nd} (h : MInv B w wr ad bd ca cb v P Q R LM) : R.length + (P.length + Q.length) = LM.length := by
  have := congrArg List.length h.goes
  rw [List.length_append, (mrg_perm idA P Q).length_eq, List.length_append] at this
  exact this
theorem minv_b {w wr w2 : World} {ad bd : Addr} {ca cb : Nat} {v v' : Value} {x y : Nd} {P Q R LM : List Nd} (h : MInv w.heap.size w wr ad bd ca cb v (x :: P) (y :: Q) R LM) (hlt : idA y x = true) (hown : OwnNd 74 w2 w.heap.size v' (R ++ [y])) (hb : Below w.heap.size w w2) :
    MInv w.heap.size w w2 ad (advA bd cb 1 2) ca (cb - 1) v' (x :: P) Q (R ++ [y]) LM :=
  ⟨h.a, by have := h.b.adv (k := 1) h.cb; simpa using this, h.ca, by have := h.cb; simp at this; omega, hown, by rw [← h.goes, mrg_b hlt]; simp, hb⟩
theorem minv_a {w wr w2 : World} {ad bd : Addr} {ca cb : Nat} {v v' : Value} {x y : Nd} {P Q R LM : List Nd} (h : MInv w.heap.size w wr ad bd ca cb v (x :: P) (y :: Q) R LM) (hlt : idA y x = false) (hown : OwnNd 74 w2 w.heap.size v' (R ++ [x])) (hb : Below w.heap.size w w2) :
    MInv w.heap.size w w2 (advA ad ca 1 2) bd (ca - 1) cb v' P (y :: Q) (R ++ [x]) LM :=
  ⟨by have := h.a.adv (k := 1) h.ca; simpa using this, h.b, by have := h.ca; simp at this; omega, h.cb, hown, by rw [← h.goes, mrg_a hlt]; simp, hb⟩
theorem minv_end {B : Nat} {w wr : World} {ad bd : Addr} {ca cb : Nat} {v : Value} {P Q R LM : List Nd} (h : MInv B w wr ad bd ca cb v P Q R LM) (hd : P = [] ∨ Q = []) : R ++ P ++ Q = LM := by
  rw [← h.goes]
  rcases hd with rfl | rfl
  · rw [nil_mrg]; simp
  · rw [mrg_nil]; simp
set_option maxHeartbeats 6400000 in
set_option maxRecDepth 100000 in
theorem merge_own (ad bd : Addr) (n c n2 c2 : Nat) (L M : List Nd) (w : World) (h : NodesAt w (.slice (some ad) n c) L) (h2 : NodesAt w (.slice (some bd) n2 c2) M) (hn : n ≤ 1000000) (hn2 : n2 ≤ 1000000) :
    Calls Tryz.prog 148 #[.slice (some ad) n c, .slice (some bd) n2 c2, .func (.func 131) #[] #[]] w (RowOwn (mrg idA L M) w) := by
  obtain ⟨hlen, hlc, hcm, hat⟩ := nodes_cells h
  obtain ⟨hlen2, hlc2, hcm2, hat2⟩ := nodes_cells h2
  obtain ⟨i0, hi, hz0, hz1, hz2⟩ := info_parts node_info
  have hlm : Hid ((mrg idA L M).length = n + n2) := by show _ = _; rw [(mrg_perm idA L M).length_eq, List.length_append]; omega
  have INV0 := Lib.hid (fun (v : Value) (w1 : World) (q : OwnNd 74 w1 w.heap.size v []) (hb : Below w.heap.size w w1) => (show MInv w.heap.size w w1 ad bd c c2 v L M [] (mrg idA L M) from ⟨hat, hat2, hlc, hlc2, q, rfl, hb⟩))
  have HL := Lib.hid hlen
  have HL2 := Lib.hid hlen2
  clear hlen hat h hlc hcm hlen2 hat2 h2 hlc2 hcm2
  have hmk := make_room (P := Tryz.prog) Tryz.underlying32 hi hz0 hz1 hz2 (n + n2) (by omega) (by omega) w
  rw [Int.natCast_add] at hmk
  go_enter Tryz.func148, Tryz.ntmps148
  go_wp2_with fail
  clear hmk
  go_loopw [0, 1, 7] (fun a b v wr => ∃ (P Q R : List Nd) (ad' bd' : Addr) (m p ca cb : Nat), a = .slice (some ad') m ca ∧ b = .slice (some bd') p cb ∧ m = P.length ∧ p = Q.length ∧ m ≤ n ∧ p ≤ n2 ∧ MInv w.heap.size w wr ad' bd' ca cb v P Q R (mrg idA L M)) (fun a b _ _ => (match a with | .slice _ m _ => m | _ => 0) + (match b with | .slice _ m _ => m | _ => 0))
  case atStart => exact ⟨L, M, [], ad, bd, n, n2, c, c2, rfl, rfl, HL.out, HL2.out, Nat.le_refl _, Nat.le_refl _, INV0.out _ _ (room_own (Nat.le_refl _) (by unfold maxLen; omega)) ((Below.refl _ _).alloc (Nat.le_refl _) _)⟩
  case round =>
    rename_i wr
    obtain ⟨P, Q, R, ad', bd', m, p, ca, cb, rfl, rfl, hm, hp, hmn, hpn, hinv⟩ := hrel
    have HM := Lib.hid hm
    have HP := Lib.hid hp
    have INV := Lib.hid hinv
    have hlen : R.length + (m + p) = n + n2 := by have := minv_len hinv; rw [hlm.out] at this; omega
    have zs := hinv.below.size
    obtain ⟨A3, m3, c3, rfl⟩ := ownNd_slice hinv.own
    clear hm hp hinv
    by_cases hmp : 0 < m ∧ 0 < p
    · obtain ⟨hm0, hp0⟩ := hmp
      obtain ⟨⟨x1, x2⟩, P, rfl⟩ : ∃ x P', P = x :: P' := by
        cases P with
        | nil => have := HM.out; simp at this; omega
        | cons x P => exact ⟨x, P, rfl⟩
      obtain ⟨⟨y1, y2⟩, Q, rfl⟩ : ∃ x P', Q = x :: P' := by
        cases Q with
        | nil => have := HP.out; simp at this; omega
        | cons x P => exact ⟨x, P, rfl⟩
      obtain ⟨b1, o1, rfl, hb1, e0, e1⟩ := INV.out.a.first INV.out.below
      obtain ⟨b2, o2, rfl, hb2, e2, e3⟩ := INV.out.b.first INV.out.below
      dsimp only at e0 e1 e2 e3
      have hsa := sl_one (P := Tryz.prog) Tryz.underlying32 hi hz1 ⟨b1, o1, none⟩ m ca hm0
      have hsb := sl_one (P := Tryz.prog) Tryz.underlying32 hi hz1 ⟨b2, o2, none⟩ p cb hp0
      have hm1 : Hid (m - 1 = P.length) := by have := HM.out; show _ = _; simp at this; omega
      have hp1 : Hid (p - 1 = Q.length) := by have := HP.out; show _ = _; simp at this; omega
      cases q : idA (y1, y2) (x1, x2)
      · have Q0 := Lib.hid q
        go_wp2_with fail
        go_region_held3 (fun w' => w'.cell? ⟨b1, o1, none⟩ = some (.int .i64 x1) ∧ w'.cell? ⟨b1, o1 + 1, none⟩ = some (.int .i64 x2) ∧ w'.cell? ⟨b2, o2, none⟩ = some (.int .i64 y1) ∧ w'.cell? ⟨b2, o2 + 1, none⟩ = some (.int .i64 y2) ∧ Below wr.heap.size wr w')
          (first | (exact keep4 (by assumption) (by assumption) (by dsimp only; omega) (by dsimp only; omega) (by dsimp only; omega) (by dsimp only; omega)) | (exact ⟨e0, e1, e2, e3, below_drew _⟩))
          (first | (go_at_call 131; refine (sortedLess_any (y1, y2) (x1, x2) _).mono ?_; rintro e w1 ⟨rfl, hbc⟩))
        rename_i hH
        obtain ⟨f0, f1, f2, f3, hbr⟩ := hH
        have hzr := hbr.size
        have hown1 := own_below INV.out.own hbr
        clear hbc e0 e1 e2 e3
        go_wp2_with fail
        clear q
        go_region_held3 (fun w' => w'.cell? ⟨b1, o1, none⟩ = some (.int .i64 x1) ∧ w'.cell? ⟨b1, o1 + 1, none⟩ = some (.int .i64 x2))
          (first | go_keep | (exact keep2g (by simp [*]) (by simp [*]) hown1 hgrow (by dsimp only; omega) (by dsimp only; omega) (by simp; omega)))
          ((refine step_append_lies _ (by rfl) _ _ _ (by rfl) w.heap.size 74 i0 _ 2 16 Tryz.underlying32 hi hz0 hz1 hz2 rfl (by omega) (.slice A3 m3 c3) R.length (nods R) (by rfl) ((hown1.alloc _).drew) ⟨w1.heap.size, 0, none⟩ 1 1 [.int .i64 x1, .int .i64 x2] (by rfl) (by rfl) (World.news_of_block (cs := #[.int .i64 x1, .int .i64 x2]) (t := 74) (fr := (0, 0)) (heap_alloc_new w1 _)) (two_cell _ _) (by omega) (by unfold maxLen; omega) (by omega) (by simp; omega) (w1.heap.size + 1) (by simp) ?_; intro gg cap w2 hown2 hgrow hat2 hlt2))
        go_wp2_with fail
        clear f0 f1 f2 f3
        have hown3 := Lib.hid (ownNd_snoc hown2)
        have hb2w : Below w.heap.size w w2 := (((INV.out.below.trans (hbr.mono zs)).alloc (by omega) _).drew).grown hgrow (by simp; omega) (fun g hg => (hown1.lt g hg).1)
        have INV3 := Lib.hid (minv_a INV.out Q0.out hown3.out hb2w)
        clear hown2 hgrow hat2 hown1 hbr
        go_roundw
        case rel => exact ⟨P, (y1, y2) :: Q, R ++ [(x1, x2)], _, _, m - 1, p, ca - 1, cb, rfl, rfl, hm1.out, HP.out, by omega, by omega, INV3.out⟩
        case measure => simp; omega
      · have Q0 := Lib.hid q
        go_wp2_with fail
        go_region_held3 (fun w' => w'.cell? ⟨b1, o1, none⟩ = some (.int .i64 x1) ∧ w'.cell? ⟨b1, o1 + 1, none⟩ = some (.int .i64 x2) ∧ w'.cell? ⟨b2, o2, none⟩ = some (.int .i64 y1) ∧ w'.cell? ⟨b2, o2 + 1, none⟩ = some (.int .i64 y2) ∧ Below wr.heap.size wr w')
          (first | (exact keep4 (by assumption) (by assumption) (by dsimp only; omega) (by dsimp only; omega) (by dsimp only; omega) (by dsimp only; omega)) | (exact ⟨e0, e1, e2, e3, below_drew _⟩))
          (first | (go_at_call 131; refine (sortedLess_any (y1, y2) (x1, x2) _).mono ?_; rintro e w1 ⟨rfl, hbc⟩))
        rename_i hH
        obtain ⟨f0, f1, f2, f3, hbr⟩ := hH
        have hzr := hbr.size
        have hown1 := own_below INV.out.own hbr
        clear hbc e0 e1 e2 e3
        go_wp2_with fail
        clear q
        go_region_held3 (fun w' => w'.cell? ⟨b2, o2, none⟩ = some (.int .i64 y1) ∧ w'.cell? ⟨b2, o2 + 1, none⟩ = some (.int .i64 y2))
          (first | go_keep | (exact keep2g (by simp [*]) (by simp [*]) hown1 hgrow (by dsimp only; omega) (by dsimp only; omega) (by simp; omega)))
          ((refine step_append_lies _ (by rfl) _ _ _ (by rfl) w.heap.size 74 i0 _ 2 16 Tryz.underlying32 hi hz0 hz1 hz2 rfl (by omega) (.slice A3 m3 c3) R.length (nods R) (by rfl) ((hown1.alloc _).drew) ⟨w1.heap.size, 0, none⟩ 1 1 [.int .i64 y1, .int .i64 y2] (by rfl) (by rfl) (World.news_of_block (cs := #[.int .i64 y1, .int .i64 y2]) (t := 74) (fr := (0, 0)) (heap_alloc_new w1 _)) (two_cell _ _) (by omega) (by unfold maxLen; omega) (by omega) (by simp; omega) (w1.heap.size + 1) (by simp) ?_; intro gg cap w2 hown2 hgrow hat2 hlt2))
        go_wp2_with fail
        clear f0 f1 f2 f3
        have hown3 := Lib.hid (ownNd_snoc hown2)
        have hb2w : Below w.heap.size w w2 := (((INV.out.below.trans (hbr.mono zs)).alloc (by omega) _).drew).grown hgrow (by simp; omega) (fun g hg => (hown1.lt g hg).1)
        have INV3 := Lib.hid (minv_b INV.out Q0.out hown3.out hb2w)
        clear hown2 hgrow hat2 hown1 hbr
        go_roundw
        case rel => exact ⟨(x1, x2) :: P, Q, R ++ [(y1, y2)], _, _, m, p - 1, ca, cb - 1, rfl, rfl, HM.out, hp1.out, by omega, by omega, INV3.out⟩
        case measure => simp; omega
    · have hd : P = [] ∨ Q = [] := by
        rcases Nat.eq_zero_or_pos m with q | q
        · exact .inl (List.eq_nil_of_length_eq_zero (by rw [← HM.out]; exact q))
        · exact .inr (List.eq_nil_of_length_eq_zero (by rw [← HP.out]; omega))
      have HE := Lib.hid (minv_end INV.out hd)
      have NM := Lib.hid (show (nods P).length = m * 2 by rw [nods_len, HM.out])
      have NP := Lib.hid (show (nods Q).length = p * 2 by rw [nods_len, HP.out])
      clear hd
      by_cases hm0 : 0 < m
      all_goals
        have hown := INV.out.own
        go_wp2_with (first
          | (at_builtin; refine wpList_append_own _ rfl (.tmp 46) (.tmp 47) 32 rfl w.heap.size 74 i0 (.agg #[.int .i64 0, .int .i64 0]) 2 16 Tryz.underlying32 hi hz0 hz1 hz2 rfl (by decide) (.slice A3 m3 c3) R.length (nods R) rfl hown ad' m ca (nods P) rfl NM.out (INV.out.a.news INV.out.below) (nods_one P) (by unfold maxLen; omega) (by omega) zs ?_; intro v1 w1 hown1 hgrow1 _; obtain ⟨A4, m4, c4, rfl⟩ := ownNd_slice hown1; have hb1 := INV.out.below.grown hgrow1 zs (fun g hg => (hown.lt g hg).1); have zs1 := hb1.size)
          | (at_builtin; refine wpList_append_own _ rfl (.tmp 48) (.tmp 49) 32 rfl w.heap.size 74 i0 (.agg #[.int .i64 0, .int .i64 0]) 2 16 Tryz.underlying32 hi hz0 hz1 hz2 rfl (by decide) (.slice A4 m4 c4) (R.length + m) (nods R ++ nods P) rfl hown1 bd' p cb (nods Q) rfl NP.out (INV.out.b.news hb1) (nods_one Q) (by unfold maxLen; omega) (by omega) zs1 ?_; intro v2 w2 hown2 hgrow2 _))
        have hb2 := hb1.grown hgrow2 zs1 (fun g hg => (hown1.lt g hg).1)
        go_ret
        exact ⟨v2, rfl, (by
          have q := hown2
          rw [HM.out, HP.out, ← nods_app, ← nods_app, HE.out] at q
          have e : R.length + P.length + Q.length = (mrg idA L M).length := by rw [← HE.out, List.length_append, List.length_append]
          rw [e] at q
          exact q), hb2⟩
theorem merge_any (ad bd : Addr) (n c n2 c2 : Nat) (L M : List Nd) (w : World) (h : NodesAt w (.slice (some ad) n c) L) (h2 : NodesAt w (.slice (some bd) n2 c2) M) (hn : n ≤ 1000000) (hn2 : n2 ≤ 1000000) :
    Calls Tryz.prog 148 #[.slice (some ad) n c, .slice (some bd) n2 c2, .func (.func 131) #[] #[]] w (RowPost (mrg idA L M) w) := (merge_own ad bd n c n2 c2 L M w h h2 hn hn2).mono fun _ _ q => row_post q

end Go.Proofs.YtfilmblpikcpnaaGreat
