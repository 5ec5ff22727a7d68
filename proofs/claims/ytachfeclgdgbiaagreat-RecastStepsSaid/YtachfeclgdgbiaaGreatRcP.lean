/- Texts laid together: RcK, RcMv, RcTurn, RcGrow, RcGrow2. -/
import Derived.Test.YtachfeclgdgbiaaGreatBl
import Derived.Test.YtachfeclgdgbiaaGreatRcLaw
import Derived.Test.YtachfeclgdgbiaaGreatRcR
import Derived.Test.YtachfeclgdgbiaaGreatTw
import Derived.Deep.RegionWith
import Derived.Deep.Cut
import Derived.Deep.DeepCutAuto
/- What the statements of layer recast ask of the project's package: its contracts, laid as one premise. -/
namespace Go.Proofs.YtachfeclgdgbiaaGreat
set_option linter.unusedVariables false
set_option maxRecDepth 100000
open Go.RowKit

/-- the project's Grow, Coarsen and Turn, and the chapter's example -/
structure RcK : Prop where
  grow_nil : ∀ (l : Int) (w : World), Calls Tryz.prog 8 #[.pointer none, .int .i64 l] w (BlNo 1 w)
  grow_no : ∀ {B q p g h : Nat} {kd l0 k : Int} {n : Nat} {L : List Nd} (l : Int) (w : World), DgA w B q p g h kd l0 k n L → n ≤ 400 → -9223372036854775808 ≤ l → l ≤ 9223372036854775807 → ¬ (l0 ≤ l ∧ isP kd l = true) → Calls Tryz.prog 8 #[.pointer (some ⟨q, 0, none⟩), .int .i64 l] w (BlNo 2 w)
  grow : ∀ {B q p g h : Nat} {kd l0 k : Int} {n : Nat} {L : List Nd} (l : Int) (w : World), DgA w B q p g h kd l0 k n L → n ≤ 400 → l0 ≤ l → isP kd l = true → Calls Tryz.prog 8 #[.pointer (some ⟨q, 0, none⟩), .int .i64 l] w (BlPost kd l k (growW (l - l0) L) w)
  coarsen_nil : ∀ (b : Int) (w : World), Calls Tryz.prog 15 #[.pointer none, .int .i64 b] w (BlNo 1 w)
  coarsen_no : ∀ {B q p g h : Nat} {kd l0 k : Int} {n : Nat} {L : List Nd} (b : Int) (w : World), DgA w B q p g h kd l0 k n L → n ≤ 400 → ¬ (0 ≤ b ∧ b < l0) → Calls Tryz.prog 15 #[.pointer (some ⟨q, 0, none⟩), .int .i64 b] w (BlNo 2 w)
  coarsen : ∀ {B q p g h : Nat} {kd l0 k : Int} {n : Nat} {L : List Nd} (b : Int) (w : World), DgA w B q p g h kd l0 k n L → n ≤ 400 → 0 ≤ b → b < l0 → Calls Tryz.prog 15 #[.pointer (some ⟨q, 0, none⟩), .int .i64 b] w (BlPost kd (l0 - b) k (pruW (l0 - b) L) w)
  alive : ∀ (w : World), Calls Tryz.prog 10 #[] w fun e w' => e = .returned (.bool true) ∧ Below w.heap.size w w'
/-- Turn -/
structure RcT : Prop where
  turn_nil : ∀ (kind : Int) (w : World), Calls Tryz.prog 17 #[.pointer none, .int .i64 kind] w (BlNo 1 w)
  turn_no : ∀ {B q p g h : Nat} {kd l0 k : Int} {n : Nat} {L : List Nd} (kind : Int) (w : World), DgA w B q p g h kd l0 k n L → n ≤ 400 → isP kind l0 = false → Calls Tryz.prog 17 #[.pointer (some ⟨q, 0, none⟩), .int .i64 kind] w (BlNo 2 w)
  turn : ∀ {B q p g h : Nat} {kd l0 k : Int} {n : Nat} {L : List Nd} (kind : Int) (w : World), DgA w B q p g h kd l0 k n L → n ≤ 400 → isP kind l0 = true → Calls Tryz.prog 17 #[.pointer (some ⟨q, 0, none⟩), .int .i64 kind] w (BlPost kind l0 k L w)

end Go.Proofs.YtachfeclgdgbiaaGreat

/- The project's package recast: nodes moved by a closure that is handed on. -/
namespace Go.Proofs.YtachfeclgdgbiaaGreat
set_option linter.unusedVariables false
set_option maxRecDepth 100000
open Go.RowKit

/-- nodes of which the first ones are moved -/
def mvL (f : Int → Int) (L : List Nd) (j : Nat) : List Nd := mapN f (L.take j) ++ L.drop j
theorem mvL_zero (f : Int → Int) (L : List Nd) : mvL f L 0 = L := by simp [mvL, mapN]
theorem mvL_all {f : Int → Int} {L : List Nd} {j : Nat} (h : L.length ≤ j) : mvL f L j = mapN f L := by
  unfold mvL
  rw [List.take_of_length_le h, List.drop_eq_nil_of_le h, List.append_nil]
theorem mvL_len (f : Int → Int) (L : List Nd) (j : Nat) : (mvL f L j).length = L.length := by
  unfold mvL mapN
  rw [List.length_append, List.length_map, List.length_take, List.length_drop]
  omega
theorem mvL_form (f : Int → Int) {L : List Nd} {j : Nat} (h : j < L.length) : mvL f L j = mapN f (L.take j) ++ L[j] :: L.drop (j + 1) ∧ (mapN f (L.take j)).length = j := by
  refine ⟨by unfold mvL; rw [List.drop_eq_getElem_cons h], ?_⟩
  unfold mapN
  rw [List.length_map, List.length_take]
  omega
theorem mvL_at (f : Int → Int) {L : List Nd} {j : Nat} (h : j < L.length) : tAt (mvL f L j) j = L[j] := by
  obtain ⟨e, n⟩ := mvL_form f h
  unfold tAt
  rw [e, List.getD_eq_getElem?_getD, List.getElem?_append_right (by omega), n, Nat.sub_self]
  rfl
theorem mvL_set (f : Int → Int) {L : List Nd} {j : Nat} (h : j < L.length) : mvL f L (j + 1) = (mvL f L j).set j (f L[j].1, L[j].2) := by
  obtain ⟨e, n⟩ := mvL_form f h
  rw [e, List.set_append_right _ _ (by omega), n, Nat.sub_self, List.set_cons_zero]
  unfold mvL mapN
  rw [List.take_succ_eq_append_getElem h, List.map_append, List.append_assoc]
  rfl
theorem nbds_gat {X : List Nd} (p : ∀ n ∈ X, 1 ≤ n.2) (h : foldB X = true) (b : NBds X) : NBds (gatW X) := fun n hn => by
  obtain ⟨m, hm, e⟩ := gat_mem p hn
  have g := gat_good p
  have c := sumC_mem (good_nonneg g) hn
  rw [gat_tot] at c
  have t : sumC X ≤ 72057594037927935 := (foldC_iff.1 h).1.2
  have q := g.pos n hn
  have bm := (b m hm).1
  rw [← e]; omega
theorem gat_same {l : Int} {L : List Nd} (h : RollC l L) : gatW (mapN (fun x => x) L) = L := by
  have e : mapN (fun x => x) L = L := by unfold mapN; exact List.map_id _
  rw [e]
  exact (gat_uniq (roll_good h) (roll_pos h) fun _ => rfl).symm
theorem mv_keep {W a b : World} {p : Addr} {x : Value} (h : a.cell? p = some x ∧ Below W.heap.size W a) (hb : Below a.heap.size a b) (hp : p.block < W.heap.size) : b.cell? p = some x ∧ Below W.heap.size W b :=
  ⟨(hb.cell (by have := h.2.size; omega)).trans h.1, h.2.trans (hb.mono h.2.size)⟩
theorem mv_store {T : TypeId} {W wr v2 : World} {f : Int → Int} {L : List Nd} {j g n1 c1 : Nat} {id id2 ct : Int} (e0 : wr.cell? ⟨g, j * 2, none⟩ = some (.int .i64 id)) (hv2 : n1 = (mvL f L j).length) (hBg : W.heap.size ≤ g) (hgw : g < wr.heap.size) (oo : OwnNd T wr W.heap.size (.slice (some ⟨g, 0, none⟩) n1 c1) (mvL f L j)) (rb : Below W.heap.size W wr)
    (hb2 : Below wr.heap.size wr v2) (ms : mvL f L (j + 1) = (mvL f L j).set j (id2, ct)) (ps : nods ((mvL f L j).set j (id2, ct)) = (nods (mvL f L j)).set (j * 2) (.int .i64 id2)) (hj : j * 2 < n1 * 2) :
    v2.cell? ⟨g, j * 2, none⟩ = some (.int .i64 id) ∧ v2.frozen? ⟨g, j * 2, none⟩ = false ∧ g < v2.heap.size ∧ OwnNd T (v2.setCell ⟨g, j * 2, none⟩ (.int .i64 id2)) W.heap.size (.slice (some ⟨g, 0, none⟩) n1 c1) (mvL f L (j + 1)) ∧ Below W.heap.size W (v2.setCell ⟨g, j * 2, none⟩ (.int .i64 id2)) := by
  have O2 := own_below oo hb2
  have R2 := rb.trans (hb2.mono rb.size)
  have Q2 : v2.ownsRow W.heap.size T 2 (.slice (some ⟨g, 0, none⟩) n1 c1) n1 (nods (mvL f L j)) := by
    have q := O2
    unfold OwnNd at q
    rw [← hv2] at q
    exact q
  refine ⟨(hb2.cell (p := ⟨g, j * 2, none⟩) hgw).trans e0, World.ownsRow.frozenAt Q2 (j * 2), Nat.lt_of_lt_of_le hgw hb2.size, ?_, R2.setCell (p := ⟨g, j * 2, none⟩) hBg _⟩
  show World.ownsRow _ _ _ _ _ _ _
  rw [ms, List.length_set, ← hv2, ps]
  exact (World.ownsRow.stored Q2 (j * 2) (.int .i64 id2)).1
/-- a closure that tells where a node goes -/
structure RcMv (W : World) (F : Nat) (caps : Array Value) (f : Int → Int) (L : List Nd) : Prop where
  eg : ∀ args w, (callFunc F args).run Tryz.prog w = .ok (.enter F args) w
  call : ∀ m ∈ L, ∀ w, Below W.heap.size W w → ∃ b, Calls Tryz.prog F (#[.int .i64 m.1] ++ caps) w fun e w' => e = .returned (.tuple #[.int .i64 (f m.1), .bool b]) ∧ Below w.heap.size w w'
set_option maxHeartbeats 12800000 in
theorem rcMoved_any {B q p g h F : Nat} {caps : Array Value} {f : Int → Int} {kd kd0 l0 l k0 k : Int} {n : Nat} {L : List Nd} (w : World) (d : DgA w B q p g h kd0 l0 k0 n L) (hn : n ≤ 400) (M : RcMv w F caps f L)
    (hg : ∀ m ∈ L, 1 ≤ f m.1 ∧ f m.1 ≤ 9223372036854775807) (L0 : -9223372036854775808 ≤ l) (L1 : l ≤ 9223372036854775807) :
    Calls Tryz.prog 27 #[.pointer (some ⟨q, 0, none⟩), .agg #[.int .i64 l, .int .i64 k, .int .i64 kd], .func (.func F) #[] caps] w (DgLoadPost kd l k (gatW (mapN f L)) w) := by
  have HB0 : Hid (Below w.heap.size w (w.alloc (.cells #[.int .i64 l, .int .i64 k, .int .i64 kd] 23))) := (Below.refl _ _).alloc (Nat.le_refl _) _
  have X0 := Lib.hid (tri_nw w 23 (.int .i64 l) (.int .i64 k) (.int .i64 kd))
  have LN := Lib.hid (show L.length ≤ 400 by have := d.po.len; omega)
  have ND := Lib.hid (dgNodes_any _ (d.below HB0.out).box (d.below HB0.out).po (by omega))
  have NB := Lib.hid (nbds_roll d.v.roll)
  have eg := M.eg
  have CL := Lib.hid M.call
  have XR := Lib.hid (rcMap_fold (g := f) d.v.roll hg)
  have PM := Lib.hid (map_pos (g := f) (roll_pos d.v.roll))
  have FU := Lib.hid (fun F (hF : FoldOf (mapN f L) F) => fold_gat PM.out hF)
  have GL : Hid ((gatW (mapN f L)).length ≤ 400) := by
    have a := gat_len PM.out
    have b := LN.out
    have c : (mapN f L).length = L.length := by unfold mapN; rw [List.length_map]
    show _ ≤ _
    omega
  have ML : Hid ((mapN f L).length ≤ 400) := by have := LN.out; show _ ≤ _; unfold mapN; rw [List.length_map]; omega
  have GB : Hid (NBds (gatW (mapN f L))) := nbds_gat PM.out XR.out.1 XR.out.2
  have BL := Lib.hid (And.intro L0 L1)
  clear d hg L0 L1 M
  generalize hF0 : gatW (mapN f L) = F0 at *
  clear hF0
  go_enter Tryz.func27, Tryz.ntmps27
  go_wp2_with fail
  generalize w.alloc (.cells #[.int .i64 l, .int .i64 k, .int .i64 kd] 23) = W at *
  refine ND.out.mono ?_
  rintro e w1 ⟨A1, n1, c1, rfl, ho1, hb1⟩
  have B1 := Lib.hid hb1
  have HL := Lib.hid (nodes_cells (ownNd_nodes ho1)).1
  have N4 : Hid (n1 ≤ 400) := by have := HL.out; have := LN.out; show _ ≤ _; omega
  have n400 := N4.out
  have O1 := Lib.hid ho1
  clear ho1 hb1 ND
  go_upto_region 3 with fail
  go_loopw [16] (fun i wr => ∃ j : Nat, j ≤ n1 ∧ i = .int .i64 j ∧ OwnNd 75 wr W.heap.size (.slice A1 n1 c1) (mvL f L j) ∧ Below W.heap.size W wr) (fun i _ => n1 - (intOf i).toNat)
  case atStart => exact ⟨0, by omega, rfl, by rw [mvL_zero]; exact O1.out, B1.out⟩
  case round =>
    obtain ⟨j, hj, rfl, ho, hb⟩ := hrel
    have RB := Lib.hid hb
    have OO := Lib.hid ho
    clear ho
    by_cases hlt : j < n1
    · have hjl : j < L.length := by have := HL.out; omega
      have ml := mvL_len f L j
      rcases ownNd_form OO.out with ⟨_, z⟩ | ⟨g, cap, hv, hBg, hgw, hgn, hgc, hin⟩
      · rw [z] at ml; simp at ml; omega
      · injection hv with hv1 hv2 hv3
        subst hv1
        obtain ⟨e0, e1⟩ := hin.2 j (by omega)
        have ta := mvL_at f hjl
        have hg : (mvL f L j).getD j nz = L[j] := ta
        rw [hg] at e0 e1
        obtain ⟨m, hm⟩ : ∃ m, m = L[j] := ⟨_, rfl⟩
        have CM := CL.out L[j] (List.getElem_mem hjl)
        have MS := Lib.hid (mvL_set f hjl)
        have nj := NB.out L[j] (List.getElem_mem hjl)
        rw [← hm] at e0 e1 ta CM MS nj
        obtain ⟨id, ct⟩ := m
        simp only at e0 e1 CM MS nj
        have PS := Lib.hid (nods_put0 (mvL f L j) j (f id) ct (by rw [ta]))
        have CMH := Lib.hid (fun v (hv : Below wr.heap.size wr v) => CM v (HB0.out.trans ((RB.out.trans (hv.mono RB.out.size)).mono HB0.out.size)))
        clear CM ta hg hm hb hin
        generalize f id = id2 at *
        simp only [Nat.zero_add] at e0 e1
        have k0' : (0 : Int) ≤ (j : Int) := Int.natCast_nonneg _
        have k1' : (j : Int) < (n1 : Int) := by omega
        obtain ⟨b, cm⟩ := CMH.out wr (Below.refl _ _)
        have ST := Lib.hid (fun (v2 : World) (hb2 : Below wr.heap.size wr v2) => mv_store (f := f) (ct := ct) e0 hv2 hBg hgw (OO.out) (RB.out) hb2 MS.out PS.out (by omega))
        clear ml hv2 hv3 hgn hgc
        go_wp2_with (go_at_fn F; refine cm.mono ?_; rintro e v2 ⟨rfl, hb2⟩; obtain ⟨e2, e3, hg2, _, _⟩ := ST.out v2 hb2)
        trace_state
        go_roundw
        case rel => exact ⟨j + 1, by omega, by go_num, (ST.out _ hb2).2.2.2⟩
        case measure => simp [intOf]; omega
    · obtain rfl : j = n1 := by omega
      rw [mvL_all (by have := HL.out; omega)] at OO
      have FD := Lib.hid (ownNd_nodes OO.out)
      have M4 := Lib.hid (nodes_cells FD.out).1
      have FO := Lib.hid ((fold_any A1 j c1 _ wr FD.out XR.out.2 (by have a := M4.out; have b := ML.out; omega)).mono (fun _ _ q => fold_is_yes XR.out.1 q))
      clear hlt hb
      go_wp2_with fail
      refine FO.out.mono ?_
      rintro e w7 ⟨F2, A7, c7, rfl, hF, hn7, hb7⟩
      obtain rfl : F2 = F0 := FU.out F2 hF
      have R7 := Lib.hid (RB.out.trans (hb7.mono RB.out.size))
      have LV := Lib.hid (dgLoad_any kd l k A7 F2.length c7 F2 w7 hn7 GB.out (by have a := GL.out; omega) BL.out.1 BL.out.2)
      obtain ⟨x0, x1, x2, _, _, _, hx⟩ := tri_all (own_below X0.out R7.out)
      clear hF hn7 hb7 FO
      go_wp2_with fail
      refine (LV.out.mono (R' := fun e w' => ∃ pa x, e = .returned (.tuple #[.pointer pa, .int .i64 x]) ∧ DgLoadPost kd l k F2 w7 (.returned (.tuple #[.pointer pa, .int .i64 x])) w') (fun e w' hh => by rcases hh with ⟨hb, ⟨h1, rfl⟩ | ⟨h1, q, p, g, h, rfl, h2⟩⟩; exact ⟨_, _, rfl, hb, .inl ⟨h1, rfl⟩⟩; exact ⟨_, _, rfl, hb, .inr ⟨h1, q, p, g, h, rfl, h2⟩⟩)).mono ?_
      rintro e w8 ⟨pa, x, rfl, hp8⟩
      have HP := Lib.hid hp8
      clear hp8 LV x0 x1 x2 hx
      go_wp2_with fail
      go_ret2
      have R8 := HB0.out.trans (R7.out.mono HB0.out.size)
      rcases HP.out with ⟨hb, ⟨h1, h2⟩ | ⟨h1, q', p', g', h', h2, h3⟩⟩
      · exact ⟨R8.trans (hb.mono R8.size), .inl ⟨h1, h2⟩⟩
      · exact ⟨R8.trans (hb.mono R8.size), .inr ⟨h1, q', p', g', h', h2, h3.low R8.size⟩⟩

end Go.Proofs.YtachfeclgdgbiaaGreat

/- The project's package recast: Turn. -/
namespace Go.Proofs.YtachfeclgdgbiaaGreat
set_option linter.unusedVariables false
set_option maxRecDepth 100000
open Go.RowKit

theorem rcTurn_nil (kind : Int) (w : World) : Calls Tryz.prog 17 #[.pointer none, .int .i64 kind] w (BlNo 1 w) := by
  go_enter Tryz.func17, Tryz.ntmps17
  go_wp2_with fail
  go_ret2
  exact ⟨rfl, Below.refl _ _⟩
theorem rc_tri_last {TS : TypeId} {w : World} {B q : Nat} {x y z : Value} (r : w.ownsRow B TS 3 (.slice (some ⟨q, 0, none⟩) 1 1) 1 [x, y, z]) (u : Value) :
    (w.setCell ⟨q, 2, none⟩ u).ownsRow B TS 3 (.slice (some ⟨q, 0, none⟩) 1 1) 1 [x, y, u] ∧ Below B w (w.setCell ⟨q, 2, none⟩ u) := by
  have s := World.ownsRow.stored r 2 u
  exact ⟨s.1, (Below.refl _ _).setCell (p := ⟨q, 2, none⟩) (r.lt q rfl).1 u⟩
theorem rcMvT_any (id : Int) (w : World) : Calls Tryz.prog 43 #[.int .i64 id] w fun e w' => e = .returned (.tuple #[.int .i64 id, .bool true]) ∧ Below w.heap.size w w' := by
  go_enter Tryz.func43, Tryz.ntmps43
  go_wp2_with fail
  go_ret2
  exact ⟨rfl, Below.refl _ _⟩
theorem rcMvT (W : World) (L : List Nd) : RcMv W 43 #[] (fun x => x) L :=
  ⟨enters_of Tryz.func43 (by kernel_rfl) rfl, fun m _ w _ => ⟨true, rcMvT_any m.1 w⟩⟩
/-- what a call handed out, of whatever kind it is -/
theorem rc_load_form {kd l k : Int} {L : List Nd} {w w' : World} {e : Ending} (h : DgLoadPost kd l k L w e w') : ∃ pa x, e = .returned (.tuple #[.pointer pa, .int .i64 x]) ∧ DgLoadPost kd l k L w (.returned (.tuple #[.pointer pa, .int .i64 x])) w' := by
  rcases h with ⟨hb, ⟨h1, rfl⟩ | ⟨h1, q, p, g, h, rfl, h2⟩⟩
  · exact ⟨_, _, rfl, hb, .inl ⟨h1, rfl⟩⟩
  · exact ⟨_, _, rfl, hb, .inr ⟨h1, q, p, g, h, rfl, h2⟩⟩
theorem rc_load_low {kd l k : Int} {L : List Nd} {w0 w w' : World} {e : Ending} (b : Below w0.heap.size w0 w) (h : DgLoadPost kd l k L w e w') : DgLoadPost kd l k L w0 e w' := by
  rcases h with ⟨hb, ⟨h1, h2⟩ | ⟨h1, q, p, g, h, h2, h3⟩⟩
  · exact ⟨b.trans (hb.mono b.size), .inl ⟨h1, h2⟩⟩
  · exact ⟨b.trans (hb.mono b.size), .inr ⟨h1, q, p, g, h, h2, h3.low b.size⟩⟩
set_option maxHeartbeats 3200000 in
theorem rcTurn_core {B q p g h : Nat} {kd l0 k : Int} {n : Nat} {L : List Nd} (kind : Int) (w : World) (d : DgA w B q p g h kd l0 k n L) (hn : n ≤ 400) :
    Calls Tryz.prog 17 #[.pointer (some ⟨q, 0, none⟩), .int .i64 kind] w (DgLoadPost kind l0 k L w) := by
  have PN : ∀ w, (binOp .eql 27 (.pointer (some ⟨q, 0, none⟩)) (.pointer none)).run Tryz.prog w = .ok (.bool false) w := fun _ => by kernel_rfl
  have u := d.po.uni
  have CF := Lib.hid (dgConf_any w d.box)
  have RR := roll_right d.v.roll
  have MV := Lib.hid (fun v (hb : Below w.heap.size w v) => rcMoved_any (f := fun x => x) (kd := kind) (k := k) (l := l0) v (d.below hb) hn (rcMvT v L) (fun m hm => ⟨(RR m hm).1.2.2.1, (RR m hm).2⟩) (by omega) (by omega))
  rw [gat_same d.v.roll] at MV
  clear d RR
  go_enter Tryz.func17, Tryz.ntmps17
  go_wp2_with fail
  refine CF.out.mono ?_
  rintro e w1 ⟨rfl, hb1⟩
  have X1 := Lib.hid (tri_nw w1 23 (.int .i64 l0) (.int .i64 k) (.int .i64 kd))
  have B1 := Lib.hid (hb1.alloc hb1.size (.cells #[.int .i64 l0, .int .i64 k, .int .i64 kd] 23))
  have S1 := Lib.hid hb1.size
  obtain ⟨x0, x1, x2, xf0, xf1, xf2, hx⟩ := tri_all X1.out
  clear hb1 CF
  go_upto_region 4 with fail
  generalize w1.alloc (.cells #[.int .i64 l0, .int .i64 k, .int .i64 kd] 23) = W1 at *
  go_upto_region 5 with fail
  have T2 := Lib.hid (rc_tri_last X1.out (.int .i64 kind))
  have B2 := Lib.hid (B1.out.trans (T2.out.2.mono S1.out))
  clear x0 x1 x2 xf0 xf1 xf2 hx
  obtain ⟨x0, x1, x2, _, _, _, hx⟩ := tri_all T2.out.1
  generalize W1.setCell ⟨w1.heap.size, 2, none⟩ (.int .i64 kind) = W2 at *
  go_wp2_with fail
  refine (MV.out _ B2.out).mono ?_
  intro e w4 hp
  obtain ⟨pa, x, rfl, hp4⟩ := rc_load_form hp
  have HP := Lib.hid (rc_load_low B2.out hp4)
  clear hp hp4 x0 x1 x2 hx
  go_wp2_with fail
  go_ret2
  exact HP.out
theorem rcTurn_no {B q p g h : Nat} {kd l0 k : Int} {n : Nat} {L : List Nd} (kind : Int) (w : World) (d : DgA w B q p g h kd l0 k n L) (hn : n ≤ 400) (hp : isP kind l0 = false) :
    Calls Tryz.prog 17 #[.pointer (some ⟨q, 0, none⟩), .int .i64 kind] w (BlNo 2 w) := by
  refine (rcTurn_core kind w d hn).mono ?_
  have e2 : dgLdE kind l0 k L = 2 := dgLdE_conf fun z => by rw [hp] at z; exact absurd z.2 (by simp)
  rintro e w' ⟨hb, ⟨_, z⟩ | ⟨z, _⟩⟩
  · rw [e2] at z; exact ⟨z, hb⟩
  · rw [e2] at z; omega
theorem rcTurn_any {B q p g h : Nat} {kd l0 k : Int} {n : Nat} {L : List Nd} (kind : Int) (w : World) (d : DgA w B q p g h kd l0 k n L) (hn : n ≤ 400) (hp : isP kind l0 = true) :
    Calls Tryz.prog 17 #[.pointer (some ⟨q, 0, none⟩), .int .i64 kind] w (BlPost kind l0 k L w) := by
  refine (rcTurn_core kind w d hn).mono ?_
  rintro e w' ⟨hb, ⟨z, _⟩ | ⟨_, z⟩⟩
  · exact absurd (dgLdE_v d.v hp) z
  · exact ⟨hb, z⟩
theorem rcT : RcT := ⟨rcTurn_nil, fun kind w d hn hp => rcTurn_no kind w d hn hp, fun kind w d hn hp => rcTurn_any kind w d hn hp⟩

end Go.Proofs.YtachfeclgdgbiaaGreat

/- The project's package recast: Grow. -/
namespace Go.Proofs.YtachfeclgdgbiaaGreat
set_option linter.unusedVariables false
set_option maxRecDepth 100000
open Go.RowKit

theorem rc_tri_first {TS : TypeId} {w : World} {B q : Nat} {x y z : Value} (r : w.ownsRow B TS 3 (.slice (some ⟨q, 0, none⟩) 1 1) 1 [x, y, z]) (u : Value) :
    (w.setCell ⟨q, 0, none⟩ u).ownsRow B TS 3 (.slice (some ⟨q, 0, none⟩) 1 1) 1 [u, y, z] ∧ Below B w (w.setCell ⟨q, 0, none⟩ u) ∧ Kp (fun i => i = q) w (w.setCell ⟨q, 0, none⟩ u) := by
  have s := World.ownsRow.stored r 0 u
  exact ⟨s.1, (Below.refl _ _).setCell (p := ⟨q, 0, none⟩) (r.lt q rfl).1 u, Kp.setCell w ⟨q, 0, none⟩ u⟩
theorem rcGrow_nil (l : Int) (w : World) : Calls Tryz.prog 8 #[.pointer none, .int .i64 l] w (BlNo 1 w) := by
  go_enter Tryz.func8, Tryz.ntmps8
  go_wp2_with fail
  go_ret2
  exact ⟨rfl, Below.refl _ _⟩
theorem rcCoarsen_nil (l : Int) (w : World) : Calls Tryz.prog 15 #[.pointer none, .int .i64 l] w (BlNo 1 w) := by
  go_enter Tryz.func15, Tryz.ntmps15
  go_wp2_with fail
  go_ret2
  exact ⟨rfl, Below.refl _ _⟩
theorem rcMvG_any (q5 : Nat) (b id : Int) (w : World) (c : w.cell? ⟨q5, 0, none⟩ = some (.int .i64 b)) (N0 : -9223372036854775808 ≤ id) (N1 : id ≤ 9223372036854775807) (B0 : -9223372036854775808 ≤ b) (B1 : b ≤ 9223372036854775807) :
    Calls Tryz.prog 28 #[.int .i64 id, .pointer (some ⟨q5, 0, none⟩)] w fun e w' => e = .returned (.tuple #[.int .i64 (graN id b), .bool (graB id b)]) ∧ Below w.heap.size w w' := by
  have GI := Lib.hid ((gra_any id b w N0 N1 B0 B1))
  go_enter Tryz.func28, Tryz.ntmps28
  go_wp2_with fail
  refine GI.out.mono ?_
  rintro e w1 ⟨rfl, hb1⟩
  go_wp2_with fail
  go_ret2
  exact ⟨rfl, hb1⟩
theorem rcMvG (W : World) (q5 : Nat) (b : Int) (L : List Nd) (c : W.cell? ⟨q5, 0, none⟩ = some (.int .i64 b)) (hq : q5 < W.heap.size) (nb : NBds L) (B0 : -9223372036854775808 ≤ b) (B1 : b ≤ 9223372036854775807) :
    RcMv W 28 #[.pointer (some ⟨q5, 0, none⟩)] (fun z => graN z b) L :=
  ⟨enters_of Tryz.func28 (by kernel_rfl) rfl, fun m hm w hb => ⟨_, rcMvG_any q5 b m.1 w ((hb.cell (p := ⟨q5, 0, none⟩) hq).trans c) (nb m hm).1.1 (nb m hm).1.2 B0 B1⟩⟩
set_option maxHeartbeats 6400000 in
theorem rcGrow_core {B q p g h : Nat} {kd l0 k : Int} {n : Nat} {L : List Nd} (l : Int) (w : World) (d : DgA w B q p g h kd l0 k n L) (hn : n ≤ 400) (hl : l0 ≤ l) (l48 : l ≤ 48) :
    Calls Tryz.prog 8 #[.pointer (some ⟨q, 0, none⟩), .int .i64 l] w (DgLoadPost kd l k (growW (l - l0) L) w) := by
  have PN : ∀ w, (binOp .eql 27 (.pointer (some ⟨q, 0, none⟩)) (.pointer none)).run Tryz.prog w = .ok (.bool false) w := fun _ => by kernel_rfl
  have u := d.po.uni
  have CF := Lib.hid (dgConf_any w d.box)
  have NB := Lib.hid (nbds_roll d.v.roll)
  have RR := roll_right d.v.roll
  have HG := Lib.hid (fun m (hm : m ∈ L) => ((fun y => ⟨y.2.2.1, right_max (right_yes y)⟩) (rcGra_right (RR m hm).1 (RR m hm).2 (show 0 ≤ l - l0 by omega) (by omega)) : 1 ≤ graN m.1 (l - l0) ∧ graN m.1 (l - l0) ≤ 9223372036854775807))
  have MV := Lib.hid (fun v q5 c hq5 (hb : Below w.heap.size w v) => rcMoved_any (f := fun z => graN z (l - l0)) (kd := kd) (k := k) (l := l) v (d.below hb) hn (rcMvG v q5 (l - l0) L c hq5 NB.out (by omega) (by omega)) HG.out (by omega) (by omega))
  have c1 : decide (l < l0) = false := decide_eq_false (by omega)
  have c2 : decide (48 < l) = false := decide_eq_false (by omega)
  have hw : IntKind.i64.wrap (l - l0) = l - l0 := wrap_lit rfl (by omega) (by omega)
  unfold growW
  clear d hl l48 RR HG NB
  generalize gatW (mapN (fun z => graN z (l - l0)) L) = F at *
  go_enter Tryz.func8, Tryz.ntmps8
  go_wp2_with fail
  refine CF.out.mono ?_
  rintro e w1 ⟨rfl, hb1⟩
  have X1 := Lib.hid (tri_nw w1 23 (.int .i64 l0) (.int .i64 k) (.int .i64 kd))
  have B1 := Lib.hid (hb1.alloc hb1.size (.cells #[.int .i64 l0, .int .i64 k, .int .i64 kd] 23))
  have S1 := Lib.hid hb1.size
  obtain ⟨x0, x1, x2, xf0, xf1, xf2, hx⟩ := tri_all X1.out
  clear hb1 CF
  go_upto_region 4 with fail
  generalize w1.alloc (.cells #[.int .i64 l0, .int .i64 k, .int .i64 kd] 23) = W1 at *
  have Y1 := Lib.hid (box1 W1 3 (.int .i64 (l - l0)))
  have B2 := Lib.hid (B1.out.alloc B1.out.size (.cells #[.int .i64 (l - l0)] 3))
  have X2 := Lib.hid (X1.out.alloc (.cells #[.int .i64 (l - l0)] 3))
  have Z1 := Lib.hid hx
  go_upto_region 7 with fail
  clear x0 x1 x2 xf0 xf1 xf2 hx
  generalize W1.alloc (.cells #[.int .i64 (l - l0)] 3) = W2 at *
  obtain ⟨x0, x1, x2, xf0, xf1, xf2, hx⟩ := tri_all X2.out
  go_upto_region 8 with fail
  have T3 := Lib.hid (rc_tri_first X2.out (.int .i64 l))
  have Y3 := Lib.hid (own_kp Y1.out T3.out.2.2 fun i e f => by simp only [Value.ownBlock, Option.some.injEq] at e; have := Z1.out; omega)
  have B3 := Lib.hid (B2.out.trans (T3.out.2.1.mono S1.out))
  clear x0 x1 x2 xf0 xf1 xf2 hx
  have X3 := Lib.hid T3.out.1
  generalize W2.setCell ⟨w1.heap.size, 0, none⟩ (.int .i64 l) = W3 at *
  obtain ⟨x0, x1, x2, _, _, _, hx⟩ := tri_all X3.out
  have yc : W3.cell? ⟨W1.heap.size, 0, none⟩ = some (.int .i64 (l - l0)) := Y3.out.cellAt 0 (by omega)
  have yz := (Y3.out.lt W1.heap.size rfl).2
  have MW := Lib.hid (MV.out W3 W1.heap.size yc yz B3.out)
  clear yc yz
  go_wp2_with fail
  refine MW.out.mono ?_
  intro e w5 hp
  obtain ⟨pa, x, rfl, hp5⟩ := rc_load_form hp
  have HP := Lib.hid (rc_load_low B3.out hp5)
  clear hp hp5 x0 x1 x2 hx
  go_wp2_with fail
  go_ret2
  exact HP.out
/-- a digest handed out, or none, as Load tells -/
theorem rc_post_no {kd l k : Int} {L : List Nd} {w w' : World} {e : Ending} (h : isP kd l = false) (hp : DgLoadPost kd l k L w e w') : BlNo 2 w e w' := by
  have e2 : dgLdE kd l k L = 2 := dgLdE_conf fun z => by rw [h] at z; exact absurd z.2 (by simp)
  rcases hp with ⟨hb, ⟨_, z⟩ | ⟨z, _⟩⟩
  · rw [e2] at z; exact ⟨z, hb⟩
  · rw [e2] at z; omega
theorem rc_post_yes {kd l k : Int} {L : List Nd} {w w' : World} {e : Ending} (v : DgV l k L) (h : isP kd l = true) (hp : DgLoadPost kd l k L w e w') : BlPost kd l k L w e w' := by
  rcases hp with ⟨hb, ⟨z, _⟩ | ⟨_, z⟩⟩
  · exact absurd (dgLdE_v v h) z
  · exact ⟨hb, z⟩
theorem rcGrow_any {B q p g h : Nat} {kd l0 k : Int} {n : Nat} {L : List Nd} (l : Int) (w : World) (d : DgA w B q p g h kd l0 k n L) (hn : n ≤ 400) (hl : l0 ≤ l) (hp : isP kd l = true) :
    Calls Tryz.prog 8 #[.pointer (some ⟨q, 0, none⟩), .int .i64 l] w (BlPost kd l k (growW (l - l0) L) w) := by
  have z := dgV_grow (b := l - l0) d.v (by omega) (by have := isP_le hp; omega)
  rw [show l0 + (l - l0) = l by omega] at z
  exact (rcGrow_core l w d hn hl (isP_le hp).2).mono fun e w' h => rc_post_yes z.1 hp h
set_option maxHeartbeats 6400000 in
theorem rcGrow_out {B q p g h : Nat} {kd l0 k : Int} {n : Nat} {L : List Nd} (l : Int) (w : World) (d : DgA w B q p g h kd l0 k n L) (hn : n ≤ 400) (A0 : -9223372036854775808 ≤ l) (A1 : l ≤ 9223372036854775807) (hk : l < l0 ∨ 48 < l) :
    Calls Tryz.prog 8 #[.pointer (some ⟨q, 0, none⟩), .int .i64 l] w (BlNo 2 w) := by
  have PN : ∀ w, (binOp .eql 27 (.pointer (some ⟨q, 0, none⟩)) (.pointer none)).run Tryz.prog w = .ok (.bool false) w := fun _ => by kernel_rfl
  have CF := Lib.hid (dgConf_any w d.box)
  have cs : (decide (l < l0) = true) ∨ (decide (l < l0) = false ∧ decide (48 < l) = true) := by
    by_cases z : l < l0
    · exact .inl (decide_eq_true z)
    · exact .inr ⟨decide_eq_false z, decide_eq_true (by omega)⟩
  clear d hk
  rcases cs with c1 | ⟨c1, c2⟩
  all_goals
    go_enter Tryz.func8, Tryz.ntmps8
    go_wp2_with fail
    refine CF.out.mono ?_
    rintro e w1 ⟨rfl, hb1⟩
    have X1 := Lib.hid (tri_nw w1 23 (.int .i64 l0) (.int .i64 k) (.int .i64 kd))
    have B1 := Lib.hid (hb1.alloc hb1.size (.cells #[.int .i64 l0, .int .i64 k, .int .i64 kd] 23))
    clear hb1 CF
    obtain ⟨x0, x1, x2, xf0, xf1, xf2, hx⟩ := tri_all X1.out
    go_wp2_with fail
    go_ret2
    exact ⟨rfl, B1.out⟩
theorem rcGrow_no {B q p g h : Nat} {kd l0 k : Int} {n : Nat} {L : List Nd} (l : Int) (w : World) (d : DgA w B q p g h kd l0 k n L) (hn : n ≤ 400) (A0 : -9223372036854775808 ≤ l) (A1 : l ≤ 9223372036854775807) (hk : ¬ (l0 ≤ l ∧ isP kd l = true)) :
    Calls Tryz.prog 8 #[.pointer (some ⟨q, 0, none⟩), .int .i64 l] w (BlNo 2 w) := by
  by_cases o : l < l0 ∨ 48 < l
  · exact rcGrow_out l w d hn A0 A1 o
  · exact (rcGrow_core l w d hn (by omega) (by omega)).mono fun e w' h => rc_post_no (Bool.eq_false_iff.2 fun x => hk ⟨by omega, x⟩) h

end Go.Proofs.YtachfeclgdgbiaaGreat

/- The project's package recast: Coarsen; the chapter's example; all contracts at once. -/
namespace Go.Proofs.YtachfeclgdgbiaaGreat
set_option linter.unusedVariables false
set_option maxRecDepth 100000
open Go.RowKit

theorem rcal_is : kIs 1 = true ∧ isP 2 2 = true ∧ isP 2 4 = true := by decide
theorem rcal_ins : dgE 2 [] 1 3 = 0 ∧ dgIns 2 1 [] 1 3 = [(5, 3)] ∧ growW 2 [(5, 3)] = [(17, 3)] ∧ pruW 1 [(5, 3)] = [(2, 3)] := by decide +kernel
set_option maxHeartbeats 6400000 in
theorem rcCoarsen_no {B q p g h : Nat} {kd l0 k : Int} {n : Nat} {L : List Nd} (b : Int) (w : World) (d : DgA w B q p g h kd l0 k n L) (hk : ¬ (0 ≤ b ∧ b < l0)) :
    Calls Tryz.prog 15 #[.pointer (some ⟨q, 0, none⟩), .int .i64 b] w (BlNo 2 w) := by
  have PN : ∀ w, (binOp .eql 27 (.pointer (some ⟨q, 0, none⟩)) (.pointer none)).run Tryz.prog w = .ok (.bool false) w := fun _ => by kernel_rfl
  have CF := Lib.hid (dgConf_any w d.box)
  have cs : decide (b < 0) = true ∨ (decide (b < 0) = false ∧ decide (l0 ≤ b) = true) := by
    by_cases z : b < 0
    · exact .inl (decide_eq_true z)
    · exact .inr ⟨decide_eq_false z, decide_eq_true (by omega)⟩
  clear d hk
  rcases cs with c1 | ⟨c1, c2⟩
  all_goals
    go_enter Tryz.func15, Tryz.ntmps15
    go_wp2_with fail
    refine CF.out.mono ?_
    rintro e w1 ⟨rfl, hb1⟩
    have X1 := Lib.hid (tri_nw w1 23 (.int .i64 l0) (.int .i64 k) (.int .i64 kd))
    have B1 := Lib.hid (hb1.alloc hb1.size (.cells #[.int .i64 l0, .int .i64 k, .int .i64 kd] 23))
    clear hb1 CF
    obtain ⟨x0, x1, x2, xf0, xf1, xf2, hx⟩ := tri_all X1.out
    go_wp2_with fail
    go_ret2
    exact ⟨rfl, B1.out⟩
theorem rcMvC_any (q5 : Nat) (b id : Int) (w : World) (c : w.cell? ⟨q5, 0, none⟩ = some (.int .i64 b)) (N0 : -9223372036854775808 ≤ id) (N1 : id ≤ 9223372036854775807) (B0 : -9223372036854775808 ≤ b) (B1 : b ≤ 9223372036854775807) :
    Calls Tryz.prog 40 #[.int .i64 id, .pointer (some ⟨q5, 0, none⟩)] w fun e w' => e = .returned (.tuple #[.int .i64 (pruN id b), .bool (pruB id b)]) ∧ Below w.heap.size w w' := by
  have GI := Lib.hid (((pru_any id b w N0 N1 B0 B1).mono (R' := fun e w' => e = .returned (.tuple #[.int .i64 (pruN id b), .bool (pruB id b)]) ∧ Below w.heap.size w w') fun e w' ⟨x, y⟩ => ⟨x, by rw [← y]; exact Below.refl _ _⟩))
  go_enter Tryz.func40, Tryz.ntmps40
  go_wp2_with fail
  refine GI.out.mono ?_
  rintro e w1 ⟨rfl, hb1⟩
  go_wp2_with fail
  go_ret2
  exact ⟨rfl, hb1⟩
theorem rcMvC (W : World) (q5 : Nat) (b : Int) (L : List Nd) (c : W.cell? ⟨q5, 0, none⟩ = some (.int .i64 b)) (hq : q5 < W.heap.size) (nb : NBds L) (B0 : -9223372036854775808 ≤ b) (B1 : b ≤ 9223372036854775807) :
    RcMv W 40 #[.pointer (some ⟨q5, 0, none⟩)] (fun z => pruN z b) L :=
  ⟨enters_of Tryz.func40 (by kernel_rfl) rfl, fun m hm w hb => ⟨_, rcMvC_any q5 b m.1 w ((hb.cell (p := ⟨q5, 0, none⟩) hq).trans c) (nb m hm).1.1 (nb m hm).1.2 B0 B1⟩⟩
set_option maxHeartbeats 6400000 in
theorem rcCoarsen_any {B q p g h : Nat} {kd l0 k : Int} {n : Nat} {L : List Nd} (b : Int) (w : World) (d : DgA w B q p g h kd l0 k n L) (hn : n ≤ 400) (b0 : 0 ≤ b) (b1 : b < l0) :
    Calls Tryz.prog 15 #[.pointer (some ⟨q, 0, none⟩), .int .i64 b] w (BlPost kd (l0 - b) k (pruW (l0 - b) L) w) := by
  have PN : ∀ w, (binOp .eql 27 (.pointer (some ⟨q, 0, none⟩)) (.pointer none)).run Tryz.prog w = .ok (.bool false) w := fun _ => by kernel_rfl
  have u := d.po.uni
  have CF := Lib.hid (dgConf_any w d.box)
  have HP : Hid (isP kd (l0 - b) = true) := by
    rcases of_decide_eq_true d.po.is with ⟨a, z, y⟩ | ⟨a, z, y⟩
    · exact decide_eq_true (.inl ⟨a, by omega, by omega⟩)
    · exact decide_eq_true (.inr ⟨a, by omega, by omega⟩)
  have GV := Lib.hid (dgV_prune d.v b0 b1).1
  have NB := Lib.hid (nbds_roll d.v.roll)
  have RR := roll_right d.v.roll
  have HG := Lib.hid (fun m (hm : m ∈ L) => ((fun y => ⟨y.2.2.1, right_max (right_yes y)⟩) (rcPru_right (RR m hm).1 (RR m hm).2 b0 b1) : 1 ≤ pruN m.1 (l0 - b) ∧ pruN m.1 (l0 - b) ≤ 9223372036854775807))
  have MV := Lib.hid (fun v q5 c hq5 (hb : Below w.heap.size w v) => rcMoved_any (f := fun z => pruN z (l0 - b)) (kd := kd) (k := k) (l := l0 - b) v (d.below hb) hn (rcMvC v q5 (l0 - b) L c hq5 NB.out (by omega) (by omega)) HG.out (by omega) (by omega))
  have c1 : decide (b < 0) = false := decide_eq_false (by omega)
  have c2 : decide (l0 ≤ b) = false := decide_eq_false (by omega)
  have hw : IntKind.i64.wrap (l0 - b) = l0 - b := wrap_lit rfl (by omega) (by omega)
  unfold pruW at GV ⊢
  clear d b0 b1 RR HG NB
  generalize gatW (mapN (fun z => pruN z (l0 - b)) L) = F at *
  go_enter Tryz.func15, Tryz.ntmps15
  go_wp2_with fail
  refine CF.out.mono ?_
  rintro e w1 ⟨rfl, hb1⟩
  have X1 := Lib.hid (tri_nw w1 23 (.int .i64 l0) (.int .i64 k) (.int .i64 kd))
  have B1 := Lib.hid (hb1.alloc hb1.size (.cells #[.int .i64 l0, .int .i64 k, .int .i64 kd] 23))
  have S1 := Lib.hid hb1.size
  obtain ⟨x0, x1, x2, xf0, xf1, xf2, hx⟩ := tri_all X1.out
  clear hb1 CF
  go_upto_region 4 with fail
  generalize w1.alloc (.cells #[.int .i64 l0, .int .i64 k, .int .i64 kd] 23) = W1 at *
  go_upto_region 7 with fail
  have T2 := Lib.hid (rc_tri_first X1.out (.int .i64 (l0 - b)))
  have B2 := Lib.hid (B1.out.trans (T2.out.2.1.mono S1.out))
  clear x0 x1 x2 xf0 xf1 xf2 hx
  have X2 := Lib.hid T2.out.1
  generalize W1.setCell ⟨w1.heap.size, 0, none⟩ (.int .i64 (l0 - b)) = W2 at *
  obtain ⟨x0, x1, x2, _, _, _, hx⟩ := tri_all X2.out
  have MW := Lib.hid (MV.out W2 w1.heap.size x0 hx B2.out)
  go_wp2_with fail
  refine MW.out.mono ?_
  intro e w5 hp
  obtain ⟨pa, x, rfl, hp5⟩ := rc_load_form hp
  have HQ := Lib.hid (rc_load_low B2.out hp5)
  clear hp hp5 x0 x1 x2 hx
  go_wp2_with fail
  go_ret2
  exact rc_post_yes GV.out HP.out HQ.out
set_option maxHeartbeats 3200000 in
theorem rcAlive_any (w : World) : Calls Tryz.prog 10 #[] w fun e w' => e = .returned (.bool true) ∧ Below w.heap.size w w' := by
  have AI := Lib.hid rcal_ins
  go_enter Tryz.func10, Tryz.ntmps10
  go_wp2_with fail
  refine (dgNew_ok 2 2 1 _ rcal_is.1 rcal_is.2.1).mono ?_
  rintro e w1 ⟨hb1, q, p, g, h, rfl, hd1⟩
  have B1 := Lib.hid hb1
  have D1 := Lib.hid hd1
  have PN : ∀ w, (binOp .eql 27 (.pointer (some ⟨q, 0, none⟩)) (.pointer none)).run Tryz.prog w = .ok (.bool false) w := fun _ => by kernel_rfl
  have INS := Lib.hid (dgInsert_any 1 3 w1 D1.out (by omega) (by omega) (by omega) (by omega) (by omega))
  rw [AI.out.1, AI.out.2.1] at INS
  clear hb1 hd1
  go_wp2_with fail
  refine INS.out.mono ?_
  rintro e w2 ⟨rfl, p', g', h', hd2, hk2, _⟩
  have D2 := Lib.hid hd2
  have B2 : Hid (Below w.heap.size w w2) := B1.out.trans (hk2.below (fun i _ f => (D1.out.lt i f).1) B1.out.size)
  have G := Lib.hid (rcGrow_any 4 w2 hd2 (by omega) (by omega) rcal_is.2.2)
  rw [show (4 : Int) - 2 = 2 by omega, AI.out.2.2.1] at G
  clear hd2 hk2 INS
  go_wp2_with fail
  refine G.out.mono ?_
  rintro e w3 ⟨hb3, q3, p3, g3, h3, rfl, hd3⟩
  have B3 := Lib.hid (B2.out.trans (hb3.mono B2.out.size))
  have D3 := Lib.hid hd3
  have C := Lib.hid (rcCoarsen_any 1 w3 (D2.out.below hb3) (by omega) (by omega) (by omega))
  rw [show (2 : Int) - 1 = 1 by omega, AI.out.2.2.2] at C
  clear hb3 hd3 G
  go_wp2_with fail
  refine C.out.mono ?_
  rintro e w4 ⟨hb4, q4, p4, g4, h4, rfl, hd4⟩
  have B4 := Lib.hid (B3.out.trans (hb4.mono B3.out.size))
  have D4 := Lib.hid hd4
  have E4 := Lib.hid (D3.out.below hb4)
  clear hb4 hd4 C
  go_wp2_with fail
  refine (dgNodes_any w4 E4.out.box E4.out.po (by simp)).mono ?_
  rintro e w5 ⟨A5, m5, c5, rfl, ho5, hb5⟩
  have hba : Below w5.heap.size w5 (w5.alloc (.cells #[.int .i64 17, .int .i64 3] 75)) := (Below.refl _ _).alloc (Nat.le_refl _) _
  have B6 := Lib.hid (B4.out.trans ((hb5.trans (hba.mono hb5.size)).mono B4.out.size))
  have D6 := Lib.hid ((D4.out.below hb5).below hba)
  have SM := Lib.hid (dgSame_below (rSame_any A5 (some ⟨w5.heap.size, 0, none⟩) m5 c5 1 1 [(17, 3)] [(17, 3)] _ ((ownNd_nodes ho5).below hba)
    (ownNd_nodes (World.ownsRow_lit (base := w5.heap.size) (e := 75) (size := 2) w5 #[.int .i64 17, .int .i64 3] 1 (Nat.le_refl _) (by unfold maxLen; omega) rfl)) (by have := (nodes_cells (ownNd_nodes ho5)).1; simp at this; omega) (by omega)))
  rw [same_self] at SM
  clear ho5 hb5 hba
  go_wp2_with fail
  generalize w5.alloc (.cells #[.int .i64 17, .int .i64 3] 75) = W6 at *
  refine SM.out.mono ?_
  rintro e w7 ⟨rfl, hb7⟩
  have B7 := Lib.hid (B6.out.trans (hb7.mono B6.out.size))
  have D7 := Lib.hid (D6.out.below hb7)
  clear hb7 SM
  go_wp2_with fail
  refine (dgNodes_any w7 D7.out.box D7.out.po (by simp)).mono ?_
  rintro e w8 ⟨A8, m8, c8, rfl, ho8, hb8⟩
  have hba : Below w8.heap.size w8 (w8.alloc (.cells #[.int .i64 2, .int .i64 3] 75)) := (Below.refl _ _).alloc (Nat.le_refl _) _
  have B9 := Lib.hid (B7.out.trans ((hb8.trans (hba.mono hb8.size)).mono B7.out.size))
  have SM := Lib.hid (dgSame_below (rSame_any A8 (some ⟨w8.heap.size, 0, none⟩) m8 c8 1 1 [(2, 3)] [(2, 3)] _ ((ownNd_nodes ho8).below hba)
    (ownNd_nodes (World.ownsRow_lit (base := w8.heap.size) (e := 75) (size := 2) w8 #[.int .i64 2, .int .i64 3] 1 (Nat.le_refl _) (by unfold maxLen; omega) rfl)) (by have := (nodes_cells (ownNd_nodes ho8)).1; simp at this; omega) (by omega)))
  rw [same_self] at SM
  clear ho8 hb8 hba
  go_wp2_with (go_at_call 33; refine SM.out.mono ?_; rintro e w10 ⟨rfl, hb10⟩)
  go_ret
  exact ⟨rfl, B9.out.trans (hb10.mono B9.out.size)⟩
theorem rcK : RcK := ⟨rcGrow_nil, fun l w d hn a0 a1 hk => rcGrow_no l w d hn a0 a1 hk, fun l w d hn hl hp => rcGrow_any l w d hn hl hp, rcCoarsen_nil, fun b w d hn hk => rcCoarsen_no b w d hk, fun b w d hn b0 b1 => rcCoarsen_any b w d hn b0 b1, rcAlive_any⟩

end Go.Proofs.YtachfeclgdgbiaaGreat
