/- Texts laid together: BiNum, BiK. -/
import Derived.Test.YtnhagdlpidgkcaaGreatDgQ
import Derived.Test.YtnhagdlpidgkcaaGreatReK
import Derived.Test.YtnhagdlpidgkcaaGreatPln
import Derived.Test.YtnhagdlpidgkcaaGreatTiQ
namespace Go.Proofs.YtnhagdlpidgkcaaGreat
set_option linter.unusedVariables false
/-- edges: values that rise -/
def egF (l : Int) : Int → List Int → Bool
  | _, [] => true
  | p, x :: E => leafB l x && (decide (p < x) && egF l x E)
def egB (l : Int) (E : List Int) : Bool := uniB l && egF l (-1) E
/-- by place: a value, and above the one ahead of it -/
def EgP (l : Int) (E : List Int) (i : Nat) : Prop := leafB l (E.getD i 0) = true ∧ (0 < i → E.getD (i - 1) 0 < E.getD i 0)
theorem biLeaf {l x : Int} : leafB l x = true ↔ ValC l x := by
  unfold leafB onB; simp
theorem egF_iff {l : Int} : ∀ {E : List Int} {p : Int}, egF l p E = true ↔ (∀ i, i < E.length → EgP l E i) ∧ (0 < E.length → p < E.getD 0 0)
  | [], p => by simp [egF]
  | x :: E, p => by
    have ih := egF_iff (l := l) (E := E) (p := x)
    simp only [egF, Bool.and_eq_true, decide_eq_true_eq, ih]
    constructor
    · rintro ⟨h1, h2, h3, h4⟩
      refine ⟨fun i hi => ?_, fun _ => h2⟩
      cases i with
      | zero => exact ⟨h1, fun h => absurd h (by omega)⟩
      | succ i =>
        have q := h3 i (by simpa using hi)
        refine ⟨q.1, fun _ => ?_⟩
        cases i with
        | zero => exact h4 (by simp at hi; omega)
        | succ i => exact q.2 (by omega)
    · rintro ⟨h3, h2⟩
      refine ⟨(h3 0 (by simp)).1, h2 (by simp), fun i hi => ?_, fun h => ?_⟩
      · have q := h3 (i + 1) (by simp; omega)
        refine ⟨q.1, fun h0 => ?_⟩
        cases i with
        | zero => omega
        | succ i => exact q.2 (by omega)
      · exact (h3 1 (by simp; omega)).2 (by omega)
theorem eg_iff {l : Int} {E : List Int} : egB l E = true ↔ uniB l = true ∧ ∀ i, i < E.length → EgP l E i := by
  unfold egB
  rw [Bool.and_eq_true, egF_iff]
  refine ⟨fun h => ⟨h.1, h.2.1⟩, fun h => ⟨h.1, h.2, fun h0 => ?_⟩⟩
  have := biLeaf.1 (h.2 0 h0).1
  obtain ⟨_, _, v, _⟩ := this
  omega
theorem eg_no {l : Int} {E : List Int} {i : Nat} (hi : i < E.length) (h : ¬ EgP l E i) : egB l E = false := by
  cases e : egB l E
  · rfl
  · exact absurd ((eg_iff.1 e).2 i hi) h
/-- what they are -/
structure EgC (l : Int) (E : List Int) : Prop where
  uni : 1 ≤ l ∧ l ≤ 48
  val : ∀ x ∈ E, 0 ≤ x ∧ x < 2 ^ l.toNat
  rise : ∀ i j, i < j → j < E.length → E.getD i 0 < E.getD j 0
theorem eg_yes {l : Int} {E : List Int} (h : egB l E = true) : EgC l E := by
  obtain ⟨u, p⟩ := eg_iff.1 h
  refine ⟨by unfold uniB at u; simpa using u, fun x hx => ?_, fun i j hij hj => ?_⟩
  · obtain ⟨i, hi, e⟩ := List.mem_iff_getElem.1 hx
    have := biLeaf.1 (p i hi).1
    have g : E.getD i 0 = x := by simp [List.getD_eq_getElem?_getD, hi, e]
    rw [g] at this
    exact ⟨this.2.2.1, this.2.2.2⟩
  · induction j with
    | zero => omega
    | succ j ih =>
      have q := (p (j + 1) hj).2 (by omega)
      rw [Nat.add_sub_cancel] at q
      rcases Nat.lt_or_ge i j with g | g
      · have := ih g (by omega); omega
      · have : i = j := by omega
        subst this; exact q
theorem EgC.at {l : Int} {E : List Int} (h : EgC l E) {i : Nat} (hi : i < E.length) : 0 ≤ E.getD i 0 ∧ E.getD i 0 < 2 ^ l.toNat ∧ E.getD i 0 < 281474976710656 := by
  have v := h.val _ (getD_mem hi)
  have u := h.uni
  have p : (2 : Int) ^ l.toNat ≤ 281474976710656 := two_le l.toNat 48 (by omega)
  omega
def lwE (l : Int) (L : List Nd) (E : List Int) (i : Nat) : Int := if i < E.length then lowR l L (E.getD i 0) else sumC L
def binW (l : Int) (L : List Nd) (E : List Int) (i : Nat) : Int := lwE l L E i - (if i = 0 then 0 else lwE l L E (i - 1))
def binsN (l : Int) (L : List Nd) (E : List Int) : List Int := (List.range (E.length + 1)).map (binW l L E)
theorem range_snoc {α : Type} (f : Nat → α) (k : Nat) : (List.range (k + 1)).map f = (List.range k).map f ++ [f k] := by rw [List.range_succ, List.map_append]; rfl
theorem bins_len (l : Int) (L : List Nd) (E : List Int) : (binsN l L E).length = E.length + 1 := by simp [binsN]
theorem bins_at (l : Int) (L : List Nd) (E : List Int) {i : Nat} (h : i < E.length + 1) : (binsN l L E).getD i 0 = binW l L E i := by
  simp [binsN, List.getD_eq_getElem?_getD, h]
theorem lw_bd {l : Int} {L : List Nd} (h : RollC l L) (E : List Int) (i : Nat) : 0 ≤ lwE l L E i ∧ lwE l L E i ≤ 72057594037927935 := by
  unfold lwE
  split
  · exact low_bd h _
  · have := wtF_all_parts (P := fun _ => true) h
    rw [wtF_all] at this; exact this
theorem lw_le {l : Int} {L : List Nd} (h : RollC l L) {E : List Int} (e : EgC l E) (i : Nat) : lwE l L E i ≤ lwE l L E (i + 1) := by
  unfold lwE
  by_cases a : i + 1 < E.length
  · rw [if_pos (by omega), if_pos a]
    exact low_mono h (Int.le_of_lt (e.rise i (i + 1) (by omega) a))
  · rw [if_neg a]
    split
    · have := wtF_bd (fun n => decide (hiN l n ≤ E.getD i 0)) (good_nonneg (roll_good h))
      exact this.2
    · exact Int.le_refl _
theorem bin_bd {l : Int} {L : List Nd} (h : RollC l L) {E : List Int} (e : EgC l E) (i : Nat) : 0 ≤ binW l L E i ∧ binW l L E i ≤ 72057594037927935 := by
  have a := lw_bd h E i
  have b := lw_bd h E (i - 1)
  unfold binW
  split
  · omega
  · rename_i z
    have := lw_le h e (i - 1)
    rw [show i - 1 + 1 = i by omega] at this
    omega
/-- up to a bin, the sum -/
def smI : List Int → Int
  | [] => 0
  | x :: T => x + smI T
theorem smI_snoc (T : List Int) (x : Int) : smI (T ++ [x]) = smI T + x := by
  induction T with
  | nil => simp [smI]
  | cons y T ih => simp only [List.cons_append, smI, ih]; omega
theorem bins_sum (l : Int) (L : List Nd) (E : List Int) : ∀ i, i ≤ E.length → smI ((binsN l L E).take (i + 1)) = lwE l L E i
  | 0, _ => by
    have t := take_at (T := binsN l L E) (k := 0) (by rw [bins_len]; omega)
    rw [t, smI_snoc, bins_at l L E (by omega)]
    simp [smI, binW]
  | i + 1, h => by
    have ih := bins_sum l L E i (by omega)
    have t := take_at (T := binsN l L E) (k := i + 1) (by rw [bins_len]; omega)
    rw [t, smI_snoc, ih, bins_at l L E (by omega)]
    unfold binW
    rw [if_neg (by omega), Nat.add_sub_cancel]; omega
def frE (E : List Int) (i : Nat) : Int := if i = 0 then 0 else E.getD (i - 1) 0 + 1
def toE (l : Int) (E : List Int) (i : Nat) : Int := if i < E.length then E.getD i 0 else 2 ^ l.toNat - 1
def bndW (l : Int) (L : List Nd) (E : List Int) (i : Nat) : Rn := if toE l E i < frE E i then (0, 0) else (btwL l L (frE E i) (toE l E i), btwH l L (frE E i) (toE l E i))
def bndN (l : Int) (L : List Nd) (E : List Int) : List Rn := (List.range (E.length + 1)).map (bndW l L E)
theorem bnd_len (l : Int) (L : List Nd) (E : List Int) : (bndN l L E).length = E.length + 1 := by simp [bndN]
theorem bnd_at (l : Int) (L : List Nd) (E : List Int) {i : Nat} (h : i < E.length + 1) : (bndN l L E).getD i rz = bndW l L E i := by
  simp [bndN, List.getD_eq_getElem?_getD, h]
theorem run_bd {l : Int} {E : List Int} (e : EgC l E) {i : Nat} (h : i ≤ E.length) : (0 ≤ frE E i ∧ frE E i ≤ 281474976710656) ∧ 0 ≤ toE l E i ∧ toE l E i < 281474976710656 := by
  have u := e.uni
  have p : (2 : Int) ^ l.toNat ≤ 281474976710656 := two_le l.toNat 48 (by omega)
  have p0 : (0 : Int) < 2 ^ l.toNat := two_pos _
  unfold frE toE
  refine ⟨?_, ?_⟩
  · split
    · omega
    · have := e.at (i := i - 1) (by omega); omega
  · split
    · rename_i g; have := e.at g; omega
    · omega
theorem biBet_none {a b : Int} (h : b < a) : ∀ T : List Nd, betN T a b = 0
  | [] => rfl
  | n :: T => by
    simp only [betN, biBet_none h T]
    split <;> omega
/-- each bin has at least, and at most, what is told -/
theorem bnd_holds {l : Int} {L T : List Nd} {E : List Int} (e : EgC l E) (s : Std l L T) (hr : RollC l L) (hT : BagC l T) {i : Nat} (h : i ≤ E.length) :
    (bndW l L E i).1 ≤ betN T (frE E i) (toE l E i) ∧ betN T (frE E i) (toE l E i) ≤ (bndW l L E i).2 := by
  unfold bndW
  by_cases g : toE l E i < frE E i
  · rw [if_pos g, biBet_none g]; exact ⟨Int.le_refl _, Int.le_refl _⟩
  · rw [if_neg g]
    have q := std_bet (a := frE E i) (b := toE l E i) s hr hT
    exact ⟨q.1, q.2 (by omega)⟩
def lessE (E : List Int) (k : Nat) : List Int := E.take k ++ E.drop (k + 1)
theorem less_len {E : List Int} {k : Nat} (h : k < E.length) : (lessE E k).length = E.length - 1 := by simp [lessE]; omega
theorem less_at {E : List Int} {k i : Nat} (h : k < E.length) : (lessE E k).getD i 0 = if i < k then E.getD i 0 else E.getD (i + 1) 0 := by
  unfold lessE
  simp only [List.getD_eq_getElem?_getD]
  by_cases g : i < k
  · rw [if_pos g, List.getElem?_append_left (by simp; omega), List.getElem?_take_of_lt g]
  · rw [if_neg g, List.getElem?_append_right (by simp; omega), List.getElem?_drop]
    simp only [List.length_take]
    congr 2
    omega
theorem less_eg {l : Int} {E : List Int} {k : Nat} (e : EgC l E) (h : k < E.length) : EgC l (lessE E k) := by
  refine ⟨e.uni, fun x hx => ?_, fun i j hij hj => ?_⟩
  · unfold lessE at hx
    rcases List.mem_append.1 hx with q | q
    · exact e.val x (List.mem_of_mem_take q)
    · exact e.val x (List.mem_of_mem_drop q)
  · rw [less_len h] at hj
    rw [less_at h, less_at h]
    split <;> split
    · exact e.rise i j hij (by omega)
    · exact e.rise i (j + 1) (by omega) (by omega)
    · omega
    · exact e.rise (i + 1) (j + 1) (by omega) (by omega)
theorem egB_of {l : Int} {E : List Int} (e : EgC l E) : egB l E = true := by
  refine eg_iff.2 ⟨by unfold uniB; simpa using e.uni, fun i hi => ⟨biLeaf.2 ?_, fun h0 => e.rise (i - 1) i (by omega) hi⟩⟩
  have := e.at hi
  exact ⟨e.uni.1, e.uni.2, this.1, this.2.1⟩
theorem less_lw {l : Int} {L : List Nd} {E : List Int} {k : Nat} (h : k < E.length) (i : Nat) : lwE l L (lessE E k) i = if i < k then lwE l L E i else lwE l L E (i + 1) := by
  unfold lwE
  rw [less_len h, less_at h]
  by_cases g : i < k
  · rw [if_pos g, if_pos g, if_pos (by omega), if_pos (by omega)]
  · rw [if_neg g, if_neg g]
    by_cases q : i < E.length - 1
    · rw [if_pos q, if_pos (by omega)]
    · rw [if_neg q, if_neg (by omega)]
/-- two bins are one -/
def joinW (T : List Int) (k : Nat) : List Int := T.take k ++ [T.getD k 0 + T.getD (k + 1) 0] ++ T.drop (k + 2)
theorem bins_join {l : Int} {L : List Nd} {E : List Int} {k : Nat} (h : k < E.length) : binsN l L (lessE E k) = joinW (binsN l L E) k := by
  have lb := bins_len l L E
  have ll : (binsN l L (lessE E k)).length = E.length := by rw [bins_len, less_len h]; omega
  have lj : (joinW (binsN l L E) k).length = E.length := by simp [joinW, lb]; omega
  refine List.ext_getElem (by rw [ll, lj]) fun i h1 h2 => ?_
  have hi : i < E.length := by omega
  have e1 : (binsN l L (lessE E k))[i] = binW l L (lessE E k) i := by
    have := bins_at l L (lessE E k) (i := i) (by rw [less_len h]; omega)
    simpa [List.getD_eq_getElem?_getD, h1] using this
  rw [e1]
  have gd : ∀ j, j < E.length + 1 → (binsN l L E)[j]? = some (binW l L E j) := fun j hj => by
    simp [binsN, hj]
  have e2 : (joinW (binsN l L E) k)[i]? = some (if i < k then binW l L E i else if i = k then binW l L E k + binW l L E (k + 1) else binW l L E (i + 1)) := by
    unfold joinW
    by_cases g : i < k
    · rw [if_pos g, List.append_assoc, List.getElem?_append_left (by simp [lb]; omega), List.getElem?_take_of_lt g, gd i (by omega)]
    · rw [if_neg g, List.append_assoc, List.getElem?_append_right (by simp [lb]; omega)]
      have tl : ((binsN l L E).take k).length = k := by simp [lb]; omega
      rw [tl]
      by_cases q : i = k
      · subst q
        rw [if_pos rfl, Nat.sub_self, bins_at l L E (by omega), bins_at l L E (by omega)]
        rfl
      · rw [if_neg q, show i - k = (i - k - 1) + 1 by omega, List.singleton_append, List.getElem?_cons_succ, List.getElem?_drop, show k + 2 + (i - k - 1) = i + 1 by omega, gd (i + 1) (by omega)]
  have e3 := List.getElem?_eq_getElem h2
  rw [e2] at e3
  injection e3 with e3
  rw [← e3]
  unfold binW
  rw [less_lw h]
  by_cases g : i < k
  · rw [if_pos g, if_pos g]
    split
    · rfl
    · rw [less_lw h, if_pos (by omega)]
  · rw [if_neg g, if_neg g]
    by_cases q : i = k
    · subst q
      rw [if_pos rfl]
      by_cases z : i = 0
      · subst z; simp; omega
      · rw [if_neg z, if_neg z, if_neg (by omega), less_lw h, if_pos (by omega), Nat.add_sub_cancel]; omega
    · rw [if_neg q, if_neg (by omega), if_neg (by omega), less_lw h, if_neg (by omega), show i - 1 + 1 = i by omega, Nat.add_sub_cancel]
def evS (o : List Int) (x : Int) : List Int := if o.length = 0 ∨ o.getD (o.length - 1) 0 < x then o ++ [x] else o
def evF (l : Int) (L : List Nd) (p : Int) : Nat → List Int
  | 0 => []
  | k + 1 => evS (evF l L p k) (atN l L (partUpN (sumC L) ((k : Int) + 1) p))
def evE (L : List Nd) (p : Int) : Int := if sumC L = 0 then 7 else if p < 1 ∨ 1000 < p then 2 else 0
theorem ev_len (l : Int) (L : List Nd) (p : Int) : ∀ k, (evF l L p k).length ≤ k
  | 0 => by simp [evF]
  | k + 1 => by
    have := ev_len l L p k
    simp only [evF, evS]
    split <;> simp <;> omega
def hvA (T : List Int) : Nat → Nat
  | 0 => 0
  | k + 1 => if T.getD (hvA T k) 0 < T.getD k 0 then k else hvA T k
theorem hv_le (T : List Int) : ∀ k, hvA T k ≤ k - 1
  | 0 => by simp [hvA]
  | k + 1 => by
    have := hv_le T k
    simp only [hvA]
    split <;> omega
def barW (T : List Int) (w : Int) (i : Nat) : Int := if 0 < T.getD (hvA T T.length) 0 ∧ 0 ≤ w then partN (T.getD i 0) w (T.getD (hvA T T.length) 0) else 0
def barsN (T : List Int) (w : Int) : List Int := (List.range T.length).map (barW T w)
def barB (T : List Int) (w : Int) : Bool := decide (0 ≤ w) && T.all fun x => decide (0 ≤ x)
end Go.Proofs.YtnhagdlpidgkcaaGreat
namespace Go.Proofs.YtnhagdlpidgkcaaGreat
set_option linter.unusedVariables false
set_option maxRecDepth 100000
open Go.RowKit
/-- the project's Right -/
structure BiRt : Prop where
  right : ∀ {A : Option Addr} {n c : Nat} {E : List Int} (l : Int) (w : World), IntsAt w (.slice A n c) E → Bds E → n ≤ 1000 → -9223372036854775808 ≤ l → l ≤ 9223372036854775807 → Calls Tryz.prog 14 #[.int .i64 l, .slice A n c] w fun e w' => e = .returned (.bool (egB l E)) ∧ Below w.heap.size w w'
/-- its Of -/
structure BiO : Prop where
  bof_nil : ∀ {A : Option Addr} {n c : Nat} {E : List Int} (w : World), IntsAt w (.slice A n c) E → Bds E → Calls Tryz.prog 9 #[.pointer none, .slice A n c] w fun e w' => (∃ A c, e = .returned (.tuple #[.slice A 0 c, .int .i64 1])) ∧ Below w.heap.size w w'
  bof_no : ∀ {B q p g h : Nat} {kd l k : Int} {m : Nat} {L : List Nd} {A : Option Addr} {n c : Nat} {E : List Int} (w : World), DgA w B q p g h kd l k m L → m ≤ 400 → IntsAt w (.slice A n c) E → Bds E → n ≤ 100 → egB l E = false → Calls Tryz.prog 9 #[.pointer (some ⟨q, 0, none⟩), .slice A n c] w fun e w' => (∃ A c, e = .returned (.tuple #[.slice A 0 c, .int .i64 8])) ∧ Below w.heap.size w w'
  bof_yes : ∀ {B q p g h : Nat} {kd l k : Int} {m : Nat} {L : List Nd} {A : Option Addr} {n c : Nat} {E : List Int} (w : World), DgA w B q p g h kd l k m L → m ≤ 400 → IntsAt w (.slice A n c) E → Bds E → n ≤ 100 → egB l E = true → Calls Tryz.prog 9 #[.pointer (some ⟨q, 0, none⟩), .slice A n c] w fun e w' => (∃ A2 n2 c2, e = .returned (.tuple #[.slice A2 n2 c2, .int .i64 0]) ∧ IntsAt w' (.slice A2 n2 c2) (binsN l L E)) ∧ Below w.heap.size w w'
  bof_own : ∀ {B q p g h : Nat} {kd l k : Int} {m : Nat} {L : List Nd} {A : Option Addr} {n c : Nat} {E : List Int} (w : World), DgA w B q p g h kd l k m L → m ≤ 400 → IntsAt w (.slice A n c) E → Bds E → n ≤ 100 → egB l E = true → Calls Tryz.prog 9 #[.pointer (some ⟨q, 0, none⟩), .slice A n c] w fun e w' => (∃ A2 n2 c2, e = .returned (.tuple #[.slice A2 n2 c2, .int .i64 0]) ∧ IntsAt w' (.slice A2 n2 c2) (binsN l L E) ∧ n2 ≤ c2) ∧ Below w.heap.size w w'
/-- its Bounds -/
structure BiB : Prop where
  bounds_nil : ∀ {A : Option Addr} {n c : Nat} {E : List Int} (w : World), IntsAt w (.slice A n c) E → Bds E → Calls Tryz.prog 16 #[.pointer none, .slice A n c] w fun e w' => (∃ A c, e = .returned (.tuple #[.slice A 0 c, .int .i64 1])) ∧ Below w.heap.size w w'
  bounds_no : ∀ {B q p g h : Nat} {kd l k : Int} {m : Nat} {L : List Nd} {A : Option Addr} {n c : Nat} {E : List Int} (w : World), DgA w B q p g h kd l k m L → m ≤ 400 → IntsAt w (.slice A n c) E → Bds E → n ≤ 100 → egB l E = false → Calls Tryz.prog 16 #[.pointer (some ⟨q, 0, none⟩), .slice A n c] w fun e w' => (∃ A c, e = .returned (.tuple #[.slice A 0 c, .int .i64 8])) ∧ Below w.heap.size w w'
  bounds_yes : ∀ {B q p g h : Nat} {kd l k : Int} {m : Nat} {L : List Nd} {A : Option Addr} {n c : Nat} {E : List Int} (w : World), DgA w B q p g h kd l k m L → m ≤ 400 → IntsAt w (.slice A n c) E → Bds E → n ≤ 100 → egB l E = true → Calls Tryz.prog 16 #[.pointer (some ⟨q, 0, none⟩), .slice A n c] w fun e w' => (∃ A2 n2 c2, e = .returned (.tuple #[.slice A2 n2 c2, .int .i64 0]) ∧ RunsAt w' (.slice A2 n2 c2) (bndN l L E)) ∧ Below w.heap.size w w'
/-- its Even -/
structure BiE : Prop where
  even_nil : ∀ (p : Int) (w : World), Calls Tryz.prog 18 #[.pointer none, .int .i64 p] w fun e w' => (∃ A c, e = .returned (.tuple #[.slice A 0 c, .int .i64 1])) ∧ Below w.heap.size w w'
  even : ∀ {B q p g h : Nat} {kd l k : Int} {m : Nat} {L : List Nd} (t : Int) (w : World), DgA w B q p g h kd l k m L → m ≤ 400 → -9223372036854775808 ≤ t → t ≤ 9223372036854775807 → Calls Tryz.prog 18 #[.pointer (some ⟨q, 0, none⟩), .int .i64 t] w fun e w' => (∃ A2 n2 c2, e = .returned (.tuple #[.slice A2 n2 c2, .int .i64 (evE L t)]) ∧ IntsAt w' (.slice A2 n2 c2) (if evE L t = 0 then evF l L t (t.toNat - 1) else [])) ∧ Below w.heap.size w w'
/-- its Heaviest -/
structure BiH : Prop where
  heav : ∀ {A : Option Addr} {n c : Nat} {T : List Int} (w : World), IntsAt w (.slice A n c) T → Bds T → n ≤ 1000 → Calls Tryz.prog 20 #[.slice A n c] w fun e w' => e = .returned (.tuple #[.int .i64 (hvA T T.length : Nat), .bool (decide (0 < T.length))]) ∧ Below w.heap.size w w'
/-- its Bars -/
structure BiBr : Prop where
  bars : ∀ {A : Option Addr} {n c : Nat} {T : List Int} (wd : Int) (w : World), IntsAt w (.slice A n c) T → Bds T → n ≤ 1000 → -9223372036854775808 ≤ wd → wd ≤ 9223372036854775807 → Calls Tryz.prog 22 #[.slice A n c, .int .i64 wd] w fun e w' => (∃ A2 n2 c2, e = .returned (.tuple #[.slice A2 n2 c2, .bool (barB T wd)]) ∧ IntsAt w' (.slice A2 n2 c2) (if barB T wd = true then barsN T wd else [])) ∧ Below w.heap.size w w'
end Go.Proofs.YtnhagdlpidgkcaaGreat
