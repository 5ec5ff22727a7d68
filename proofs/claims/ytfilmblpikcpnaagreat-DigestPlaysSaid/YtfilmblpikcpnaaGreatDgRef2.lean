/- The document's answer of package dewpondref13: Compress. -/
import Derived.Test.YtfilmblpikcpnaaGreatDgRef
namespace Go.Proofs.YtfilmblpikcpnaaGreat
set_option linter.unusedVariables false
set_option maxRecDepth 100000
open Go.RowKit

/-- the two boxes of a call: the digest that is turned, and the one that is handed out -/
structure DgI (w W : World) (k l : Int) (v y0 y1 y2 : Value) : Prop where
  s : W.ownsRow w.heap.size 36 3 (.slice (some ⟨w.heap.size, 0, none⟩) 1 1) 1 [.int .i64 k, .int .i64 l, v]
  r : W.ownsRow w.heap.size 36 3 (.slice (some ⟨w.heap.size + 1, 0, none⟩) 1 1) 1 [y0, y1, y2]
  b : Below w.heap.size w W
theorem dgI_new (w : World) (k l : Int) (v : Value) : DgI w ((w.alloc (.cells #[.int .i64 k, .int .i64 l, v] 36)).alloc (.cells #[.int .i64 0, .int .i64 0, .slice none 0 0] 36)) k l v (.int .i64 0) (.int .i64 0) (.slice none 0 0) := by
  have e1 : (w.alloc (.cells #[.int .i64 k, .int .i64 l, v] 36)).heap.size = w.heap.size + 1 := by simp
  have q := tri_new (w.alloc (.cells #[.int .i64 k, .int .i64 l, v] 36)) 36 (.int .i64 0) (.int .i64 0) (.slice none 0 0)
  rw [e1] at q
  exact ⟨(tri_new w _ _ _ _).alloc _, own_low q (by omega), ((Below.refl _ _).alloc (Nat.le_refl _) _).alloc (by simp) _⟩
theorem DgI.below {w W W' : World} {k l : Int} {v y0 y1 y2 : Value} (h : DgI w W k l v y0 y1 y2) (hb : Below W.heap.size W W') : DgI w W' k l v y0 y1 y2 := ⟨own_below h.s hb, own_below h.r hb, h.b.trans (hb.mono h.b.size)⟩
/-- the store is put anew -/
theorem DgI.set2 {w W : World} {k l : Int} {v y0 y1 y2 : Value} (h : DgI w W k l v y0 y1 y2) (u : Value) : DgI w ((W.setCell ⟨w.heap.size, 1, none⟩ (.int .i64 l)).setCell ⟨w.heap.size, 2, none⟩ u) k l u y0 y1 y2 := by
  have q := tri_set2 h.s (.int .i64 l) u
  exact ⟨q.1, q.2.2.2 _ _ _ _ _ _ (by simp [Value.ownBlock]) h.r, h.b.trans q.2.2.1⟩
/-- the whole digest is put anew -/
theorem DgI.set3 {w W : World} {k l : Int} {v y0 y1 y2 : Value} (h : DgI w W k l v y0 y1 y2) (u : Value) : DgI w (((W.setCell ⟨w.heap.size, 0, none⟩ (.int .i64 k)).setCell ⟨w.heap.size, 1, none⟩ (.int .i64 l)).setCell ⟨w.heap.size, 2, none⟩ u) k l u y0 y1 y2 := by
  have q := tri_set h.s (.int .i64 k) (.int .i64 l) u
  exact ⟨q.1, q.2.2.2 _ _ _ _ _ _ (by simp [Value.ownBlock]) h.r, h.b.trans q.2.2.1⟩
/-- a digest handed out, and a number: its list is a row of its own, the one that came in or a new one -/
def RDgPost (k l : Int) (M : List Nd) (x : Int) (v0 : Value) (w : World) (e : Ending) (w' : World) : Prop :=
  ∃ A m c, e = .returned (.tuple #[.agg #[.int .i64 k, .int .i64 l, .slice A m c], .int .i64 x]) ∧ OwnNd 74 w' 0 (.slice A m c) M ∧ Below w.heap.size w w' ∧ NewB v0 (.slice A m c) w.heap.size
theorem HasL.own {w W : World} {A0 A : Option Addr} {n0 c0 n c : Nat} {L0 L : List Nd} (h : HasL w W A0 n0 c0 L0 (.slice A n c) L) (h0 : OwnNd 74 w 0 (.slice A0 n0 c0) L0) (hb : Below w.heap.size w W) : OwnNd 74 W 0 (.slice A n c) L ∧ NewB (.slice A0 n0 c0) (.slice A n c) w.heap.size := by
  rcases h with ⟨e, e2⟩ | o
  · rw [e, e2]; exact ⟨own_below h0 hb, .inl rfl⟩
  · exact ⟨own_low o (Nat.zero_le _), newB_of o (Nat.le_refl _)⟩
set_option maxHeartbeats 3200000 in
theorem rDgCompress_any (l k : Int) (A : Option Addr) (n c : Nat) (L : List Nd) (w : World) (h : OwnNd 74 w 0 (.slice A n c) L) (hr : RollC l L) (hn : n ≤ 100) (k1 : 1 ≤ k) (k2 : k ≤ 1048576) :
    Calls Tryz.prog 41 #[.agg #[.int .i64 k, .int .i64 l, .slice A n c]] w (RDgPost k l (pressW l k L) (pressN l k L : Int) (.slice A n c) w) := by
  have I0 := Lib.hid (dgI_new w k l (.slice A n c))
  have HN := Lib.hid (own_below h I0.out.b)
  have hk : kIs k = true := decide_eq_true ⟨k1, k2⟩
  have RN := Lib.hid (rPrRun_has l k A n c L _ (ownNd_nodes HN.out) hr hn hk)
  have HU := Lib.hid (fun j hl hx => press_uniq (cap := capW L k) (j := j) hr hl hx)
  have HPW : Hid (pressW l k L = preA l (capW L k) L (pressJ l (capW L k) L) ∧ pressN l k L = pressJ l (capW L k) L) := ⟨rfl, rfl⟩
  obtain ⟨x0, x1, x2, _, _, _, _⟩ := tri_all I0.out.s
  clear h hr hk
  generalize pressW l k L = M at *
  generalize pressN l k L = x at *
  generalize hcap : capW L k = cap at *
  clear hcap
  go_enter Tryz.func41, Tryz.ntmps41
  go_wp2_with fail
  generalize (w.alloc (.cells #[.int .i64 k, .int .i64 l, .slice A n c] 36)).alloc (.cells #[.int .i64 0, .int .i64 0, .slice none 0 0] 36) = W0 at *
  refine RN.out.mono ?_
  rintro e w1 ⟨j, A1, m1, c1, A2, m2, c2, rfl, hl, hh, ho, hb1⟩
  have hm2 : m2 = j := by have a := (ints_cells (ownI_ints ho)).1; rw [preS_len] at a; exact a
  have ej := HU.out j hl.1 hl.2
  have hx : x = m2 := by rw [HPW.out.2, hm2]; exact ej.symm
  have hM : preA l cap L j = M := by rw [HPW.out.1, ← ej]
  rw [hM] at hh
  have HO := Lib.hid (hh.own HN.out hb1)
  subst hx
  have I1 := Lib.hid (I0.out.below hb1)
  clear hl hh ho hb1 hm2 ej hM x0 x1 x2 HU HPW RN
  have hba : Below w1.heap.size w1 (w1.alloc (.cells #[.int .i64 l, .slice A1 m1 c1] 34)) := (Below.refl _ _).alloc (Nat.le_refl _) _
  have I2 := Lib.hid (I1.out.below hba)
  have O2 := Lib.hid (own_below HO.out.1 hba)
  obtain ⟨t0, t1, _, _, ht⟩ := box_cells (foBx2 w1 34 (.int .i64 l) (.slice A1 m1 c1))
  obtain ⟨x0, x1, x2, g0, g1, g2, hz⟩ := tri_all I1.out.s
  obtain ⟨y0, y1, y2, h0, h1, h2, hz2⟩ := tri_all I1.out.r
  have T1 := Lib.hid (tri_set2 I1.out.s (.int .i64 l) (.slice A1 m1 c1))
  have I2' := Lib.hid (I1.out.set2 (.slice A1 m1 c1))
  have T2 := Lib.hid (tri_set I2'.out.r (.int .i64 k) (.int .i64 l) (.slice A1 m1 c1))
  obtain ⟨q0, q1, q2⟩ := set_three I2'.out.r (.int .i64 k) (.int .i64 l) (.slice A1 m1 c1)
  have O3 := Lib.hid (T2.out.2.1 _ _ _ _ _ _ (by decide) (T1.out.2.1 _ _ _ _ _ _ (by decide) HO.out.1))
  have B3 := Lib.hid (I2'.out.b.trans T2.out.2.2.1)
  have NW := Lib.hid HO.out.2
  clear hba
  go_wp2_with fail
  exact bodyPost_ret (v := .tuple #[.agg #[.int .i64 k, .int .i64 l, .slice A1 m1 c1], .int .i64 (x : Int)]) (by simp [results, Tryz.results41, go_sem, q0, q1, q2, hz2]) rfl ⟨A1, m1, c1, rfl, World.ownsRow.alloc O3.out _, B3.out.alloc B3.out.size _, NW.out.mono I0.out.b.size⟩

end Go.Proofs.YtfilmblpikcpnaaGreat
