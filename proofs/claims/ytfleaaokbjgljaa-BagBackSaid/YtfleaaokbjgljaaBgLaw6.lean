/- The walk of BagPours. -/
import Derived.Test.YtfleaaokbjgljaaBgLaw5
namespace Go.Proofs.Ytfleaaokbjgljaa
set_option linter.unusedVariables false
set_option maxRecDepth 100000
open Go.RowKit
attribute [local go_sem ↓] Go.wp_at_zero Go.wp_at_succ

/-- a list of the document's that lies in none of the blocks of F -/
def OffI (w : World) (X : Value) (S : List Nd) (F : Nat → Prop) : Prop := (X = .slice none 0 0 ∧ S = []) ∨ ((∃ B, OwnNd 31 w B X S) ∧ ∀ k, X.ownBlock = some k → ¬ F k)
theorem OffI.nodes {w : World} {X : Value} {S : List Nd} {F : Nat → Prop} (o : OffI w X S F) : NodesAt w X S := by
  rcases o with ⟨rfl, rfl⟩ | ⟨⟨B, o⟩, _⟩
  · exact nodes_nil _
  · exact ownNd_nodes o
theorem OffI.below {w w' : World} {X : Value} {S : List Nd} {F : Nat → Prop} (o : OffI w X S F) (hb : Below w.heap.size w w') : OffI w' X S F := o.imp id fun ⟨⟨B, o⟩, h⟩ => ⟨⟨B, own_below o hb⟩, h⟩
theorem OffI.kp {w w' : World} {X : Value} {S : List Nd} {F : Nat → Prop} (o : OffI w X S F) (p : Kp F w w') : OffI w' X S F := o.imp id fun ⟨⟨B, o⟩, h⟩ => ⟨⟨B, own_kp o p h⟩, h⟩
theorem OffI.post {w w' : World} {X Y : Value} {S T : List Nd} {F : Nat → Prop} {N : Nat} (o : OffI w X S F) (hb : Below w.heap.size w w') (nd : NodesAt w' Y T) (own : Y = X ∨ OwnNd 31 w' N Y T) (hF : ∀ k, F k → k < N) : OffI w' Y T F := by
  rcases own with e | q
  · subst e
    have e := nodes_uniq nd (o.below hb).nodes
    subst e
    exact o.below hb
  · exact .inr ⟨⟨N, q⟩, fun k hk h => by have := (q.lt k hk).1; have := hF k h; omega⟩
theorem MadeI.off {w0 w : World} {g : Nat} {l : Int} {L : List Nd} {v : Value} {A : Option Addr} {n c N : Nat} (m : MadeI w0 w g l L v A n c N) {F : Nat → Prop} (hF : ∀ k, F k → k < N) : OffI w (.slice A n c) L F := by
  rcases m.own with e | q
  · have n := m.nodes
    rw [e] at n ⊢
    exact .inl ⟨rfl, (nodes_none n).2.2⟩
  · exact .inr ⟨⟨N, q⟩, fun k hk h => by have := (q.lt k hk).1; have := hF k h; omega⟩
theorem MadeI.big {w0 w : World} {g : Nat} {l : Int} {L : List Nd} {v : Value} {A : Option Addr} {n c N : Nat} (m : MadeI w0 w g l L v A n c N) : w0.heap.size < N := by
  have := m.blocks g (.inl rfl)
  have := m.bag.lt.1
  omega
theorem box_at (w : World) (a b : Value) : (w.alloc (.cells #[a, b] 29)).cell? ⟨w.heap.size, 0, none⟩ = some a ∧ (w.alloc (.cells #[a, b] 29)).cell? ⟨w.heap.size, 1, none⟩ = some b ∧ (w.alloc (.cells #[a, b] 29)).heap.size = w.heap.size + 1 ∧ Below w.heap.size w (w.alloc (.cells #[a, b] 29)) :=
  ⟨by simp, by simp, by simp, (Below.refl _ _).alloc (Nat.le_refl _) _⟩
/-- two cells of a box, in later worlds -/
theorem box_to {w w' : World} {o : Nat} {a b : Value} (h : w.cell? ⟨o, 0, none⟩ = some a ∧ w.cell? ⟨o, 1, none⟩ = some b) (ho : o < w.heap.size) (hb : Below w.heap.size w w') : w'.cell? ⟨o, 0, none⟩ = some a ∧ w'.cell? ⟨o, 1, none⟩ = some b :=
  ⟨(hb.cell (p := ⟨o, 0, none⟩) ho).trans h.1, (hb.cell (p := ⟨o, 1, none⟩) ho).trans h.2⟩
theorem box_kp {w w' : World} {o : Nat} {a b : Value} {F : Nat → Prop} (h : w.cell? ⟨o, 0, none⟩ = some a ∧ w.cell? ⟨o, 1, none⟩ = some b) (ho : o < w.heap.size) (hb : Kp F w w') (hF : ¬ F o) : w'.cell? ⟨o, 0, none⟩ = some a ∧ w'.cell? ⟨o, 1, none⟩ = some b :=
  ⟨(hb.cell ho hF).trans h.1, (hb.cell ho hF).trans h.2⟩
set_option maxHeartbeats 12800000 in
theorem walk_bagPours (l m : Int) (A : Option Addr) (n c : Nat) (R : List Nd) (A2 : Option Addr) (n2 c2 : Nat) (R2 : List Nd) (L0 : -9223372036854775808 ≤ l) (L1 : l ≤ 9223372036854775807) (M0 : -9223372036854775808 ≤ m) (M1 : m ≤ 9223372036854775807) (hB : NBds R) (hc : n ≤ 9223372036854775807) (hB2 : NBds R2) (hc2 : n2 ≤ 9223372036854775807) (w : World) (h : NodesAt w (.slice A n c) R) (h2 : NodesAt w (.slice A2 n2 c2) R2) :
    Calls Try.prog 5 #[.int .i64 l, .int .i64 m, .agg #[.slice A n c, .slice A2 n2 c2]] w fun e w' => e = .returned (.bool true) ∧ Below w.heap.size w w' := by
  have hb0 : Below w.heap.size w (w.alloc (.cells #[.slice A n c, .slice A2 n2 c2] 51)) := (Below.refl _ _).alloc (Nat.le_refl _) _
  have HB0 := Lib.hid hb0
  have HN := Lib.hid (h.below hb0)
  have HN2 := Lib.hid (h2.below hb0)
  have HNB := Lib.hid hB
  have HNB2 := Lib.hid hB2
  have hL := Lib.hid (nodes_cells h).1
  have hL2 := Lib.hid (nodes_cells h2).1
  clear h h2 hB hB2
  by_cases hn : n ≤ 60 ∧ n2 ≤ 60 ∧ (1 ≤ l ∧ l ≤ 48) ∧ (1 ≤ m ∧ m ≤ 48)
  · obtain ⟨n1, n3, ⟨u0, u1⟩, u2, u3⟩ := hn
    have x0 : (w.alloc (.cells #[.slice A n c, .slice A2 n2 c2] 51)).cell? ⟨w.heap.size, 0, none⟩ = some (.slice A n c) := by simp
    have x1 : (w.alloc (.cells #[.slice A n c, .slice A2 n2 c2] 51)).cell? ⟨w.heap.size, 1, none⟩ = some (.slice A2 n2 c2) := by simp
    have hzW : Hid ((w.alloc (.cells #[.slice A n c, .slice A2 n2 c2] 51)).heap.size = w.heap.size + 1) := by show _ = _; simp
    go_enter Try.func5, Try.ntmps5
    go_wp2_with fail
    generalize w.alloc (.cells #[.slice A n c, .slice A2 n2 c2] 51) = w1 at *
    have hz1 := hzW.out
    refine (bgMade_any l A n c R w1 HN.out HNB.out ⟨u0, u1⟩ (by omega)).mono ?_
    rintro e w2 ⟨g, v, A5, m5, c5, N, rfl, M⟩
    have hSl : (ofS l R).length ≤ 60 := by have := of_len l R; have := hL.out; omega
    have b2 := M.below
    have hg2 := M.bag.blocks
    have BL := Lib.hid hg2
    generalize ofS l R = S at *
    have bx := box_at w2 (.int .i64 l) (.slice A5 m5 c5)
    have M3 := Lib.hid (M.to bx.2.2.2)
    have C8 := Lib.hid bx
    have BW3 := Lib.hid (bel_tr (bel_tr HB0.out b2 (Nat.le_refl _)) bx.2.2.2 (Nat.le_refl _))
    have z2 := b2.size
    have y0 := (bx.2.2.2.cell (p := ⟨w.heap.size, 1, none⟩) (by show w.heap.size < _; omega)).trans ((b2.cell (p := ⟨w.heap.size, 1, none⟩) (by show w.heap.size < _; omega)).trans x1)
    have B13 := Lib.hid (bel_tr b2 bx.2.2.2 (Nat.le_refl _))
    clear M b2 x0 x1 bx hg2
    go_wp2_with fail
    generalize w2.alloc (.cells #[.int .i64 l, .slice A5 m5 c5] 29) = w3 at *
    have hz3 := C8.out.2.2.1
    refine (bgMade_any m A2 n2 c2 R2 w3 (HN2.out.below B13.out) HNB2.out ⟨u2, u3⟩ (by omega)).mono ?_
    rintro e w4 ⟨g4, v4, A6, m6, c6, N4, rfl, Mb⟩
    have hTl : (ofS m R2).length ≤ 60 := by have := of_len m R2; have := hL2.out; omega
    generalize ofS m R2 = T at *
    have b4 := Mb.below
    have bx := box_at w4 (.int .i64 m) (.slice A6 m6 c6)
    have BL4 := Lib.hid Mb.bag.blocks
    have BIG := Mb.big
    have M5 := Lib.hid (Mb.to bx.2.2.2)
    have B35 := Lib.hid (bel_tr b4 bx.2.2.2 (Nat.le_refl _))
    have C10 := Lib.hid bx
    have z4 := b4.size
    clear Mb b4 bx y0
    have hm5b : m5 ≤ 1000 := by have := (nodes_cells M3.out.nodes).1; omega
    have hm6b : m6 ≤ 1000 := by have := (nodes_cells M5.out.nodes).1; omega
    go_wp2_with fail
    generalize w4.alloc (.cells #[.int .i64 m, .slice A6 m6 c6] 29) = w5 at *
    have hz5 := C10.out.2.2.1
    have D8 := Lib.hid (box_to ⟨C8.out.1, C8.out.2.1⟩ (by omega) B35.out)
    have hq1 : ∀ (g : Nat) w, (binOp .eql 24 (.pointer (some ⟨g, 0, none⟩)) (.pointer none)).run Try.prog w = .ok (.bool false) w := fun _ _ => by kernel_rfl
    have MA5 := Lib.hid (M3.out.to B35.out)
    have k0 : Hid (w2.heap.size < w5.heap.size) := by show _ < _; omega
    have k1 : Hid (w4.heap.size < w5.heap.size) := by show _ < _; omega
    obtain ⟨s0, s1⟩ := D8.out
    have s2 := C10.out.1
    have s3 := C10.out.2.1
    have SM := Lib.hid (fun w6 (q : Below w5.heap.size w5 w6) => (bgSame_any w6 (MA5.out.bag.below q) (M5.out.bag.below q) (by omega) (by omega)).mono (R' := fun e w' => e = .returned (.bool (bsamB l m S T)) ∧ Below w6.heap.size w6 w') fun e w' ⟨a, k, b⟩ => ⟨a, by rw [b]; exact drewN_below (Below.refl _ _) _⟩)
    have SA := Lib.hid (fun w6 (q : Below w5.heap.size w5 w6) => (bgSame_any w6 (MA5.out.bag.below q) (MA5.out.bag.below q) (by omega) (by omega)).mono (R' := fun e w' => e = .returned (.bool true) ∧ Below w6.heap.size w6 w') fun e w' ⟨a, k, b⟩ => ⟨by rw [a]; simp [bsamB], by rw [b]; exact drewN_below (Below.refl _ _) _⟩)
    have RS := Lib.hid (fun w6 (q : Below w5.heap.size w5 w6) => (rgSame_any l m A5 A6 m5 c5 m6 c6 S T w6 (MA5.out.nodes.below q) (M5.out.nodes.below q) (by omega) (by omega)).mono (R' := fun e w' => e = .returned (.bool (bsamB l m S T)) ∧ Below w6.heap.size w6 w') fun e w' ⟨a, b⟩ => ⟨a, b⟩)
    generalize bsamB l m S T = sb at *
    go_wp2_with fail
    go_region_held3 (fun w' => w'.cell? ⟨w2.heap.size, 0, none⟩ = some (.int .i64 l) ∧ w'.cell? ⟨w2.heap.size, 1, none⟩ = some (.slice A5 m5 c5) ∧ w'.cell? ⟨w4.heap.size, 0, none⟩ = some (.int .i64 m) ∧ w'.cell? ⟨w4.heap.size, 1, none⟩ = some (.slice A6 m6 c6) ∧ Below w5.heap.size w5 w')
      (first | assumption | (exact held4 (by assumption) (by assumption) k0.out k0.out k1.out k1.out) | (exact held4N (by assumption) _) | (exact ⟨s0, s1, s2, s3, below_drew _⟩))
      (first
        | (go_at_call 22; (with_reducible refine (SM.out _ (held4B (p := ⟨w2.heap.size, 0, none⟩) (q := ⟨w2.heap.size, 1, none⟩) (r := ⟨w4.heap.size, 0, none⟩) (s := ⟨w4.heap.size, 1, none⟩) (x := .int .i64 l) (y := .slice A5 m5 c5) (z := .int .i64 m) (u := .slice A6 m6 c6) (by assumption))).mono ?_); rintro e w6 ⟨rfl, hb6⟩)
        | (go_at_call 22; (with_reducible refine (SA.out _ (held4B (p := ⟨w2.heap.size, 0, none⟩) (q := ⟨w2.heap.size, 1, none⟩) (r := ⟨w4.heap.size, 0, none⟩) (s := ⟨w4.heap.size, 1, none⟩) (x := .int .i64 l) (y := .slice A5 m5 c5) (z := .int .i64 m) (u := .slice A6 m6 c6) (by assumption))).mono ?_); rintro e w6 ⟨rfl, hb6⟩)
        | (go_at_call 23; refine (RS.out _ (held4B (p := ⟨w2.heap.size, 0, none⟩) (q := ⟨w2.heap.size, 1, none⟩) (r := ⟨w4.heap.size, 0, none⟩) (s := ⟨w4.heap.size, 1, none⟩) (x := .int .i64 l) (y := .slice A5 m5 c5) (z := .int .i64 m) (u := .slice A6 m6 c6) (by assumption))).mono ?_; rintro e w6 ⟨rfl, hb6⟩))
    rename_i hH
    obtain ⟨t0, t1, t2, t3, hbr⟩ := hH
    have BR := Lib.hid hbr
    have MA6 := Lib.hid (MA5.out.to hbr)
    have MB6 := Lib.hid (M5.out.to hbr)
    have z6 := hbr.size
    have hk1' : w2.heap.size < w6.heap.size := by omega
    have hk2' : w4.heap.size < w6.heap.size := by omega
    have CA := Lib.hid (show w6.cell? ⟨w2.heap.size, 0, none⟩ = some (.int .i64 l) ∧ w6.cell? ⟨w2.heap.size, 1, none⟩ = some (.slice A5 m5 c5) from ⟨t0, t1⟩)
    have CB := Lib.hid (show w6.cell? ⟨w4.heap.size, 0, none⟩ = some (.int .i64 m) ∧ w6.cell? ⟨w4.heap.size, 1, none⟩ = some (.slice A6 m6 c6) from ⟨t2, t3⟩)
    have BW6 := Lib.hid (bel_tr (bel_tr BW3.out B35.out (Nat.le_refl _)) hbr (Nat.le_refl _))
    clear s0 s1 s2 s3 SM SA RS hbr D8 BR
    go_wp2_with fail
    -- the document's Pour
    refine (rgPour_any l m A5 A6 m5 c5 m6 c6 S T w6 MA6.out.nodes MB6.out.nodes MA6.out.bag.bag MB6.out.bag.bag (by omega) (by omega)).mono ?_
    rintro e w7 ⟨A7, m7, c7, rfl, nd7, b7, own7⟩
    have hPl : (pourS l m S T).length ≤ 120 := by have := pour_len l m S T; omega
    have hFa : ∀ k, bgF g v k → k < w2.heap.size := fun k h => (BL.out k h).2
    have OA := MA6.out.off (F := bgF g v) MA6.out.blocks
    have OB := MB6.out.off (F := fun k => bgF g v k ∨ bgF g4 v4 k) (fun k hk => by rcases hk with q | q; (have := hFa k q; omega); exact MB6.out.blocks k q)
    have OX := OA.post b7 nd7 own7 (fun k hk => by have := hFa k hk; omega)
    have bx := box_at w7 (.int .i64 l) (.slice A7 m7 c7)
    have B68 := Lib.hid (bel_tr b7 bx.2.2.2 (Nat.le_refl _))
    have OX8 := Lib.hid (OX.below bx.2.2.2)
    have OB8 := Lib.hid (OB.below B68.out)
    have MA8 := Lib.hid (MA6.out.to B68.out)
    have MB8 := Lib.hid (MB6.out.to B68.out)
    have CA8 := box_to CA.out hk1' B68.out
    have CB8 := box_to CB.out hk2' B68.out
    have C11 := Lib.hid bx
    have z7 := b7.size
    have z8 := B68.out.size
    obtain ⟨p0, p1⟩ := CB8
    have CBh := Lib.hid (show _ ∧ _ from ⟨p0, p1⟩)
    obtain ⟨p2, p3⟩ := CA8
    clear t0 t1 t2 t3 nd7 b7 own7 OA OB OX bx
    obtain ⟨pe, hpe⟩ : ∃ pe, pe = pourE l m S T := ⟨_, rfl⟩
    have POUR := Lib.hid (fun w8 (d : BgA w8 w1.heap.size g l S v) (d2 : BgA w8 w3.heap.size g4 m T v4) => bgPour_any w8 d d2 (by omega) (by omega))
    rw [← hpe] at POUR ⊢
    clear hpe
    go_wp2_with fail
    generalize w7.alloc (.cells #[.int .i64 l, .slice A7 m7 c7] 29) = w8 at *
    have hz8 := C11.out.2.2.1
    refine (POUR.out w8 MA8.out.bag MB8.out.bag).mono ?_
    rintro e w9 ⟨v9, rfl, d9, k9, a9⟩
    have D9 := Lib.hid d9
    have X9 := Lib.hid (OX8.out.kp k9)
    have V9 := Lib.hid (OB8.out.kp (k9.mono fun _ _ q => .inl q))
    have E9 := Lib.hid (MB8.out.bag.kp k9 fun k hk q => by have := (MB8.out.bag.blocks k hk).1; have := hFa k q; omega)
    have B89 := Lib.hid (bg_below MA8.out.bag k9 (by omega))
    have z9 := k9.size
    have q11 := box_kp (o := w7.heap.size) ⟨C11.out.1, C11.out.2.1⟩ (by omega) k9 (fun q => by have := hFa _ q; omega)
    have q10 := box_kp CBh.out (by omega) k9 (fun q => by have := hFa _ q; omega)
    have Q10 := Lib.hid q10
    obtain ⟨r0, r1⟩ := q11
    obtain ⟨r2, r3⟩ := q10
    clear d9 k9 a9 p0 p1 p2 p3 POUR
    go_wp2_with fail
    refine (bgLike_any A7 m7 c7 w9 D9.out X9.out.nodes (by omega)).mono ?_
    rintro e w10 ⟨rfl, b10⟩
    have E10 := Lib.hid (E9.out.below b10)
    have V10 := Lib.hid (V9.out.below b10)
    have z10 := b10.size
    have q10 := box_to Q10.out (by omega) b10
    have B10 := Lib.hid b10
    obtain ⟨t2, t3⟩ := q10
    clear b10 r0 r1 r2 r3
    go_wp2_with fail
    refine (bgLike_any A6 m6 c6 w10 E10.out V10.out.nodes (by omega)).mono ?_
    rintro e w11 ⟨rfl, b11⟩
    have B11 := Lib.hid (bel_tr B10.out b11 (Nat.le_refl _))
    have E11 := Lib.hid (E10.out.below b11)
    have V11 := Lib.hid (V10.out.below b11)
    have z11 := b11.size
    have q11 := box_to Q10.out (by omega) B11.out
    have hk3' : w4.heap.size < w11.heap.size := by omega
    obtain ⟨t4, t5⟩ := q11
    clear b11 t2 t3
    go_wp2_with fail
    refine (rgPour_any m m A6 A6 m6 c6 m6 c6 T T w11 V11.out.nodes V11.out.nodes E11.out.bag E11.out.bag (by omega) (by omega)).mono ?_
    rintro e w12 ⟨A8, m8, c8, rfl, nd12, b12, own12⟩
    have hPl2 : (pourS m m T T).length ≤ 120 := by have := pour_len m m T T; omega
    have hFb : ∀ k, bgF g4 v4 k → k < w4.heap.size := fun k h => (BL4.out k h).2
    have OY := V11.out.post b12 nd12 own12 (fun k hk => by rcases hk with q | q; (have := hFa k q; omega); (have := hFb k q; omega))
    have bx := box_at w12 (.int .i64 m) (.slice A8 m8 c8)
    have B1113 := Lib.hid (bel_tr b12 bx.2.2.2 (Nat.le_refl _))
    have OY13 := Lib.hid (OY.below bx.2.2.2)
    have E13 := Lib.hid (E11.out.below B1113.out)
    have C13 := Lib.hid bx
    have z12 := b12.size
    have z13 := B1113.out.size
    obtain ⟨pf, hpf⟩ : ∃ pf, pf = pourE m m T T := ⟨_, rfl⟩
    have POUR := Lib.hid (fun w8 (d : BgA w8 w3.heap.size g4 m T v4) => bgPour_any w8 d d (by omega) (by omega))
    rw [← hpf] at POUR ⊢
    clear hpf nd12 b12 own12 OY bx t4 t5
    go_wp2_with fail
    generalize w12.alloc (.cells #[.int .i64 m, .slice A8 m8 c8] 29) = w13 at *
    have hz13 := C13.out.2.2.1
    refine (POUR.out w13 E13.out).mono ?_
    rintro e w14 ⟨v14, rfl, d14, k14, _⟩
    have Y14 := Lib.hid (OY13.out.kp (k14.mono fun _ _ q => .inr q))
    have B1314 := Lib.hid (bg_below E13.out k14 (by omega))
    have q13 := box_kp (o := w12.heap.size) ⟨C13.out.1, C13.out.2.1⟩ (by omega) k14 (fun q => by have := hFb _ q; omega)
    have z14 := k14.size
    have D14 := Lib.hid d14
    obtain ⟨r0, r1⟩ := q13
    clear d14 k14 POUR
    go_wp2_with fail
    refine (bgLike_any A8 m8 c8 w14 D14.out Y14.out.nodes (by omega)).mono ?_
    rintro e w15 ⟨rfl, b15⟩
    have zw := BW6.out.size
    have F1 := bel_tr BW6.out B68.out (Nat.le_refl _)
    have F2 := F1.trans (B89.out.mono (by omega))
    have F3 := bel_tr (bel_tr F2 B11.out (Nat.le_refl _)) B1113.out (Nat.le_refl _)
    have F4 := F3.trans (B1314.out.mono (by omega))
    have FZ := Lib.hid (bel_tr F4 b15 (Nat.le_refl _))
    clear F1 F2 F3 F4 b15
    go_wp2_with (go_at_call 9; refine (bgAlive_any _).mono ?_; rintro e w16 ⟨rfl, b16⟩)
    go_ret
    exact ⟨rfl, bel_tr FZ.out b16 (Nat.le_refl _)⟩
  · rcases (show ¬ n ≤ 60 ∨ (n ≤ 60 ∧ ¬ n2 ≤ 60) ∨ (n ≤ 60 ∧ n2 ≤ 60 ∧ l < 1) ∨ (n ≤ 60 ∧ n2 ≤ 60 ∧ ¬ l < 1 ∧ 48 < l) ∨ (n ≤ 60 ∧ n2 ≤ 60 ∧ ¬ l < 1 ∧ ¬ 48 < l ∧ m < 1) ∨ (n ≤ 60 ∧ n2 ≤ 60 ∧ ¬ l < 1 ∧ ¬ 48 < l ∧ ¬ m < 1 ∧ 48 < m) by omega) with q | ⟨q, q2⟩ | ⟨q, q2, q3⟩ | ⟨q, q2, q3, q4⟩ | ⟨q, q2, q3, q4, q5⟩ | ⟨q, q2, q3, q4, q5, q6⟩
    all_goals
      clear hn
      go_enter Try.func5, Try.ntmps5
      go_wp2_with (go_at_call 9; refine (bgAlive_any _).mono ?_; rintro e w3 ⟨rfl, b3⟩)
      go_ret
      exact ⟨rfl, HB0.out.trans (b3.mono HB0.out.size)⟩

end Go.Proofs.Ytfleaaokbjgljaa
