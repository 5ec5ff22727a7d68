/- The project's package dense: New, L, Len, Total, Get, Add, Take, of a store that lies in memory and of nil: each answers what the plain list says, and nothing else that was there is changed. -/
import Derived.Test.YtfilmblpikcpnaaGreatMmy
import Derived.Test.YtfilmblpikcpnaaGreatTw
import Derived.Test.YtfilmblpikcpnaaGreatRk
import Derived.Laws.MakeOwn
namespace Go.Proofs.YtfilmblpikcpnaaGreat
set_option linter.unusedVariables false
open Go.RowKit

/-- make of n elements: the cells stand for themselves -/
theorem make_all {P : Program} {t e : TypeId} {i : TypeInfo} {z : Value} (ht : P.underlying t = some (.slice e)) (hi : P.info? e = some i) (hz : i.zero = some z) {size bytes : Nat} (hs : i.size = size) (hb : i.bytes = bytes)
    (n k : Nat) (hk : n * size = k) (m : Int) (hm : m = (n : Int)) (hbytes : bytes * n ≤ 281474976710656) (h63 : n ≤ 9223372036854775807) (w : World) :
    (Instr.makeSlice t (.int .i64 m) (.int .i64 m)).run P w = .ok (.slice (some ⟨w.heap.size, 0, none⟩) n n) (w.alloc (.cells (blank z k) e)) := by
  subst hm hk
  have hbi : (i.bytes : Int) * (n : Int) ≤ 281474976710656 := by
    have h : ((bytes * n : Nat) : Int) ≤ 281474976710656 := by omega
    rw [hb]; rwa [Int.natCast_mul] at h
  have h := run_make (P := P) w t e i z ht hi hz .i64 .i64 n n (by omega) (Int.le_refl _) hbi (by omega)
  simp only [Int.toNat_natCast, hs] at h
  exact h
theorem blank_ints (n : Nat) : (blank (.int .i64 0) n).toList = ints (List.replicate n 0) := by
  have h : (Value.int .i64 0).cells = #[.int .i64 0] := rfl
  unfold blank
  rw [h, toList_madeCells_one]
  simp [ints]
/-- a store that was made just now -/
theorem ds_new {TD TI : TypeId} {w : World} {l : Int} (h16 : l ≤ 16) :
    DsAt TD TI ((w.alloc (.cells (blank (.int .i64 0) (plcN l)) TI)).alloc (.cells #[.int .i64 l, .int .i64 0, .int .i64 0, .slice (some ⟨w.heap.size, 0, none⟩) (plcN l) (plcN l)] TD)) w.heap.size (w.heap.size + 1) w.heap.size l [] := by
  have hp := plc_bd h16
  have a := World.ownsRow_lit (base := w.heap.size) (e := TI) (size := 1) w (blank (.int .i64 0) (plcN l)) (plcN l) (Nat.le_refl _) (by unfold maxLen; omega) (by rw [blank_size]; omega)
  have hs : (w.alloc (.cells (blank (.int .i64 0) (plcN l)) TI)).heap.size = w.heap.size + 1 := by simp
  have b := World.ownsRow_lit (base := w.heap.size) (e := TD) (size := 4) (w.alloc (.cells (blank (.int .i64 0) (plcN l)) TI)) #[.int .i64 l, .int .i64 0, .int .i64 0, .slice (some ⟨w.heap.size, 0, none⟩) (plcN l) (plcN l)] 1 (by omega) (by unfold maxLen; omega) rfl
  rw [hs] at b
  refine ⟨b, ?_, by omega⟩
  rw [tab_nil, ← blank_ints]
  exact a.alloc _
theorem dint_info : (Tryz.prog.info? 3).map (fun i => (i.zero, i.size, i.bytes)) = some (some (.int .i64 0), 1, 8) := by kernel_rfl
set_option maxHeartbeats 800000 in
theorem dsNew_no (l : Int) (w : World) (h : ¬ (1 ≤ l ∧ l ≤ 16)) : Calls Tryz.prog 93 #[.int .i64 l] w fun e w' => e = .returned (.tuple #[.pointer none, .int .i64 2]) ∧ w = w' := by
  by_cases h1 : l < 1
  · go_enter Tryz.func93, Tryz.ntmps93
    go_wp2_with fail
    go_ret2
    exact ⟨rfl, rfl⟩
  · have h2 : 16 < l := by omega
    clear h
    go_enter Tryz.func93, Tryz.ntmps93
    go_wp2_with fail
    go_ret2
    exact ⟨rfl, rfl⟩
set_option maxHeartbeats 800000 in
theorem dsNew_any (l : Int) (w : World) (h1 : 1 ≤ l) (h2 : l ≤ 16) : Calls Tryz.prog 93 #[.int .i64 l] w fun e w' =>
    ∃ g h, e = .returned (.tuple #[.pointer (some ⟨g, 0, none⟩), .int .i64 0]) ∧ DsAt 136 3 w' w.heap.size g h l [] ∧ Below w.heap.size w w' := by
  obtain ⟨i0, hi, hz0, hz1, hz2⟩ := info_parts dint_info
  have hp := plc_bd h2
  have b0 : (0 : Int) < 2 ^ l.toNat := two_pos _
  have b1 : (2 : Int) ^ l.toNat ≤ 65536 := two_le l.toNat 16 (by omega)
  have e3 : Hid ((2 : Int) * 2 ^ l.toNat = (plcN l : Nat)) := by show _ = _; unfold plcN; push_cast; rfl
  have hmk := make_all (P := Tryz.prog) Tryz.underlying103 hi hz0 hz1 hz2 (plcN l) (plcN l) (Nat.mul_one _) _ e3.out (by omega) (by omega)
  have D : Hid _ := ds_new (TD := 136) (TI := 3) (w := w) h2
  clear hi hp
  go_enter Tryz.func93, Tryz.ntmps93
  go_wp2_with fail
  go_ret2
  exact ⟨_, _, rfl, D.out, ((Below.refl _ _).alloc (Nat.le_refl _) _).alloc (by simp) _⟩

/-! ### nil -/
theorem dsL_nil (w : World) : Calls Tryz.prog 112 #[.pointer none] w fun e w' => e = .returned (.int .i64 0) ∧ w = w' := by
  go_enter Tryz.func112, Tryz.ntmps112
  go_wp2_with fail
  go_ret
  exact ⟨rfl, rfl⟩
theorem dsLen_nil (w : World) : Calls Tryz.prog 83 #[.pointer none] w fun e w' => e = .returned (.int .i64 0) ∧ w = w' := by
  go_enter Tryz.func83, Tryz.ntmps83
  go_wp2_with fail
  go_ret
  exact ⟨rfl, rfl⟩
theorem dsTotal_nil (w : World) : Calls Tryz.prog 85 #[.pointer none] w fun e w' => e = .returned (.int .i64 0) ∧ w = w' := by
  go_enter Tryz.func85, Tryz.ntmps85
  go_wp2_with fail
  go_ret
  exact ⟨rfl, rfl⟩
theorem dsSnap_nil (w : World) : Calls Tryz.prog 81 #[.pointer none] w fun e w' => e = .returned (.slice none 0 0) ∧ w = w' := by
  go_enter Tryz.func81, Tryz.ntmps81
  go_wp2_with fail
  go_ret
  exact ⟨rfl, rfl⟩
theorem dsClone_nil (w : World) : Calls Tryz.prog 87 #[.pointer none] w fun e w' => e = .returned (.pointer none) ∧ w = w' := by
  go_enter Tryz.func87, Tryz.ntmps87
  go_wp2_with fail
  go_ret
  exact ⟨rfl, rfl⟩
theorem dsAdd_nil (a b : Int) (w : World) : Calls Tryz.prog 101 #[.pointer none, .int .i64 a, .int .i64 b] w fun e w' => e = .returned (.int .i64 1) ∧ w = w' := by
  go_enter Tryz.func101, Tryz.ntmps101
  go_wp2_with fail
  go_ret
  exact ⟨rfl, rfl⟩
set_option maxHeartbeats 800000 in
theorem dsGet_nil (a : Int) (w : World) (A0 : -9223372036854775808 ≤ a) (A1 : a ≤ 9223372036854775807) : Calls Tryz.prog 99 #[.pointer none, .int .i64 a] w fun e w' => e = .returned (.int .i64 0) ∧ w = w' := by
  have hr := right_no (l := 0) (id := a) (fun g => by have := g.1; omega)
  go_enter Tryz.func99, Tryz.ntmps99
  go_wp2_with (first | (go_at_call 112; refine (dsL_nil _).mono ?_; rintro e w1 ⟨rfl, rfl⟩) | (go_at_call 106; refine (right_any _ _ _ (by omega) (by omega) A0 A1).mono ?_; rintro e w1 ⟨rfl, rfl⟩))
  go_ret
  exact ⟨rfl, rfl⟩
set_option maxHeartbeats 800000 in
theorem dsTake_nil (a : Int) (w : World) (A0 : -9223372036854775808 ≤ a) (A1 : a ≤ 9223372036854775807) : Calls Tryz.prog 152 #[.pointer none, .int .i64 a] w fun e w' => e = .returned (.int .i64 0) ∧ w = w' := by
  go_enter Tryz.func152, Tryz.ntmps152
  go_wp2_with (go_at_call 99; refine (dsGet_nil _ _ A0 A1).mono ?_; rintro e w1 ⟨rfl, rfl⟩)
  go_ret
  exact ⟨rfl, rfl⟩

/-! ### a store that lies in memory -/
abbrev DsA (w : World) (B g h : Nat) (l : Int) (L : List Nd) : Prop := DsAt 136 3 w B g h l L
theorem dsL_any {B g h : Nat} {l : Int} {L : List Nd} (w : World) (d : DsA w B g h l L) : Calls Tryz.prog 112 #[.pointer (some ⟨g, 0, none⟩)] w fun e w' => e = .returned (.int .i64 l) ∧ w = w' := by
  have c0 := d.cells.1
  clear d
  go_enter Tryz.func112, Tryz.ntmps112
  go_wp2_with fail
  go_ret
  exact ⟨rfl, rfl⟩
theorem dsLen_any {B g h : Nat} {l : Int} {L : List Nd} (w : World) (d : DsA w B g h l L) : Calls Tryz.prog 83 #[.pointer (some ⟨g, 0, none⟩)] w fun e w' => e = .returned (.int .i64 (L.length : Int)) ∧ w = w' := by
  have c0 := d.cells.2.1
  clear d
  go_enter Tryz.func83, Tryz.ntmps83
  go_wp2_with fail
  go_ret
  exact ⟨rfl, rfl⟩
theorem dsTotal_any {B g h : Nat} {l : Int} {L : List Nd} (w : World) (d : DsA w B g h l L) : Calls Tryz.prog 85 #[.pointer (some ⟨g, 0, none⟩)] w fun e w' => e = .returned (.int .i64 (sumC L)) ∧ w = w' := by
  have c0 := d.cells.2.2.1
  clear d
  go_enter Tryz.func85, Tryz.ntmps85
  go_wp2_with fail
  go_ret
  exact ⟨rfl, rfl⟩
set_option maxHeartbeats 800000 in
theorem dsGet_any {B g h : Nat} {l : Int} {L : List Nd} (a : Int) (w : World) (d : DsA w B g h l L) (hr : RollC l L) (L1 : l ≤ 16) (A0 : -9223372036854775808 ≤ a) (A1 : a ≤ 9223372036854775807) :
    Calls Tryz.prog 99 #[.pointer (some ⟨g, 0, none⟩), .int .i64 a] w fun e w' => e = .returned (.int .i64 (sumAt a L)) ∧ w = w' := by
  have D : Hid (DsA w B g h l L) := d
  have hu : 1 ≤ l := (of_decide_eq_true hr.1).1
  cases hq : rightB l a
  · have H : Hid (sumAt a L = 0) := sumAt_none fun n hn e => by have := (hr.2.2.1 n hn).1; rw [e, hq] at this; simp at this
    clear d hr
    go_enter Tryz.func99, Tryz.ntmps99
    go_wp2_with (first | (go_at_call 112; refine (dsL_any _ D.out).mono ?_; rintro e w1 ⟨rfl, rfl⟩) | (go_at_call 106; refine (right_any _ _ _ (by omega) (by omega) A0 A1).mono ?_; rintro e w1 ⟨rfl, rfl⟩))
    go_ret
    exact ⟨ret_i (by rw [H.out]), rfl⟩
  · obtain ⟨p0, p1⟩ := right_plc hq
    obtain ⟨k, rfl⟩ := Int.eq_ofNat_of_zero_le (show 0 ≤ a by omega)
    have hk : k < plcN l := by omega
    have c0 := d.place hk
    have c3 := d.cells.2.2.2
    clear d hr
    go_enter Tryz.func99, Tryz.ntmps99
    go_wp2_with (first | (go_at_call 112; refine (dsL_any _ D.out).mono ?_; rintro e w1 ⟨rfl, rfl⟩) | (go_at_call 106; refine (right_any _ _ _ (by omega) (by omega) A0 A1).mono ?_; rintro e w1 ⟨rfl, rfl⟩))
    go_ret
    exact ⟨rfl, rfl⟩

end Go.Proofs.YtfilmblpikcpnaaGreat
