/- The project's tiles.inRow: nodes by the least value that each holds. -/
import Derived.Test.YtjmglihdndknjaaTi3
import Derived.Test.YtjmglihdndknjaaTiRow
namespace Go.Proofs.Ytjmglihdndknjaa
set_option linter.unusedVariables false
open Go.RowKit Go.Sort Go.Lib Go.Shelf

/-- a node, with its ends, as it lies in a row -/
def encT (l t : Int) : List Value := [.int .i64 t, .int .i64 (loN l t), .int .i64 (hiN l t)]
def flat3 (l : Int) : List Int → List Value
  | [] => []
  | t :: T => encT l t ++ flat3 l T
theorem flat3_len (l : Int) (T : List Int) : (flat3 l T).length = T.length * 3 := by
  induction T with
  | nil => rfl
  | cons t T ih => simp [flat3, encT, ih]; omega
theorem flat3_snoc (l : Int) (T : List Int) (t : Int) : flat3 l (T ++ [t]) = flat3 l T ++ encT l t := by
  induction T with
  | nil => simp [flat3]
  | cons a T ih => simp [flat3, ih]
theorem flat3_get (l : Int) : ∀ (T : List Int) (j c : Nat), j < T.length → c < 3 → (flat3 l T)[j * 3 + c]? = (encT l (T.getD j 0))[c]? := by
  intro T
  induction T with
  | nil => intro j c h; simp at h
  | cons t T ih =>
    intro j c h hc
    cases j with
    | zero =>
      rw [flat3, List.getElem?_append_left (by simp [encT]; omega)]
      simp
    | succ j =>
      rw [flat3, List.getElem?_append_right (by simp [encT]; omega)]
      have e : (j + 1) * 3 + c - (encT l t).length = j * 3 + c := by simp [encT]; omega
      rw [e, ih j c (by simp at h; omega) hc]
      simp
/-- behind the address A lie the nodes S, with their ends -/
def Trips (l : Int) (w : World) (A : Option Addr) (S : List Int) : Prop :=
  0 < S.length → ∃ b o, A = some ⟨b, o, none⟩ ∧ b < w.heap.size ∧ ∀ k, k < S.length → w.cell? ⟨b, o + k * 3, none⟩ = some (.int .i64 (S.getD k 0)) ∧ w.cell? ⟨b, o + k * 3 + 1, none⟩ = some (.int .i64 (loN l (S.getD k 0))) ∧ w.cell? ⟨b, o + k * 3 + 2, none⟩ = some (.int .i64 (hiN l (S.getD k 0)))

theorem own_holds {l : Int} {e : TypeId} {w : World} {B g cap : Nat} {T : List Int} (h : w.ownsRow B e 3 (.slice (some ⟨g, 0, none⟩) T.length cap) T.length (flat3 l T)) : HoldsK (encT l) 3 w g 0 T.toArray := by
  intro t ht
  rw [size_flatK] at ht
  simp at ht
  have e1 : t = t / 3 * 3 + t % 3 := by omega
  have hj : t / 3 < T.length := by omega
  refine ⟨?_, ?_⟩
  · rw [Nat.zero_add, World.ownsRow.cellAt h t ht, get_flatK _ _ _ _ (by simpa using ht)]
    have := flat3_get l T (t / 3) (t % 3) hj (by omega)
    rw [← e1] at this
    rw [this]
    have hm : t % 3 < 3 := by omega
    have e2 : T.toArray[t / 3]! = T.getD (t / 3) 0 := by
      rw [getElem!_pos _ _ (by simpa using hj)]; simp [List.getD_eq_getElem?_getD, List.getElem?_eq_getElem hj]
    rw [e2]
    have : t % 3 = 0 ∨ t % 3 = 1 ∨ t % 3 = 2 := by omega
    rcases this with q | q | q <;> rw [q] <;> rfl
  · exact World.ownsRow.frozenAt h _
theorem holds_trips {l : Int} {w : World} {g : Nat} {d : Array Int} (h : HoldsK (encT l) 3 w g 0 d) (hg : g < w.heap.size) : Trips l w (some ⟨g, 0, none⟩) d.toList := fun h0 => by
  refine ⟨g, 0, rfl, hg, fun k hk => ?_⟩
  have hk' : k < d.size := by simpa using hk
  have e : d[k]! = d.toList.getD k 0 := by rw [getElem!_pos d k hk']; simp [List.getD_eq_getElem?_getD, hk']
  have c0 := (HoldsK.cell h hk' (c := 0) (by omega)).1
  have c1 := (HoldsK.cell h hk' (c := 1) (by omega)).1
  have c2 := (HoldsK.cell h hk' (c := 2) (by omega)).1
  rw [e] at c0 c1 c2
  exact ⟨c0, c1, c2⟩
theorem below_sort {α : Type} [Inhabited α] {enc : α → List Value} {k : Nat} {w : World} {blk off n B : Nat} {d : Array α} {os : Array Obj} (h : B ≤ blk) (hB : B ≤ w.heap.size) : Go.RowKit.Below B w (sortWorldK enc k w blk off n d os) := by
  refine ⟨rfl, rfl, rfl, ?_, fun i hi => ?_⟩
  · simp [sortWorldK, grow, putRowK, putRow, mapBlock]
  · show ((w.heap.modify blk _) ++ os)[i]? = _
    rw [Array.getElem?_append_left (by simp; omega), Array.getElem?_modify, if_neg (by omega)]

theorem tileC_lt (l s t : Int) : ltOf (tileC l) s t = decide (loN l s < loN l t ∨ (loN l s = loN l t ∧ s < t)) := by
  unfold ltOf tileC orN Lib.compareInt
  by_cases h1 : loN l s < loN l t
  · simp [h1]
  · by_cases h2 : loN l t < loN l s
    · have : ¬ loN l s = loN l t := by omega
      simp [h1, h2, this]
    · have e : loN l s = loN l t := by omega
      by_cases h3 : s < t
      · simp [e, h3]
      · by_cases h4 : t < s <;> simp [e, h3, h4]
theorem tile_swo (l : Int) : SWO (ltOf (tileC l)) where
  irrefl x := by rw [tileC_lt]; simp
  trans x y z h1 h2 := by rw [tileC_lt] at *; simp at *; omega
  ntrans x y z h1 h2 := by rw [tileC_lt] at *; simp at *; omega
theorem tile_before {l s t : Int} (h : ltOf (tileC l) t s = false) : Before l s t := by
  rw [tileC_lt] at h; simp at h; unfold Before; omega
/-- the row: the nodes, sorted -/
def RowTold (l : Int) (ids : List Int) (w : World) (e : Ending) (w' : World) : Prop :=
  ∃ A c S, e = .returned (.tuple #[.slice A (List.length S) c, .bool true]) ∧ Trips l w' A S ∧ S.Perm ids ∧ S.Pairwise (Before l) ∧ Go.RowKit.Below w.heap.size w w'
theorem tile_info : (Try.prog.info? 47).map (fun i => (i.zero, i.size, i.bytes)) = some (some (.agg #[.int .i64 0, .int .i64 0, .int .i64 0]), 3, 24) := by kernel_rfl
theorem sort_tiles (l : Int) (g cap : Nat) (d : Array Int) (w : World) (hH : HoldsK (encT l) 3 w g 0 d) (hg : g < w.heap.size) (hsz : d.size < 4611686018427387904) :
    Calls Try.prog 44 #[.slice (some ⟨g, 0, none⟩) d.size cap, .func (.func 45) #[] #[]] w fun e w' =>
      e = .returned (.tuple #[]) ∧ ∃ d' n os, PermIn 0 d.size d d' ∧ SortedIn (ltOf (tileC l)) 0 d.size d' ∧ w' = sortWorldK (encT l) 3 w g 0 n d' os := by
  have eg : ∀ args w, (callFunc 45 args).run Try.prog w = .ok (.enter 45 args) w := enters_of Try.func45 (by kernel_rfl) rfl
  exact AnyQ.slices_SortFunc Try.sortTile 3 Try.isAgg47 Try.sizeOf47 (encT l) (fun _ => rfl) (fun x v hv => by simp [encT] at hv; rcases hv with rfl | rfl | rfl <;> rfl) (tileC l) (tile_swo l) 45 #[] g 0 cap d w eg
    (fun _ _ _ _ x y => tileCmp_any x (loN l x) (hiN l x) y (loN l y) (hiN l y) _) hH hg hsz
theorem sorted_list {l : Int} {d d' : Array Int} (hp : PermIn 0 d.size d d') (hs : SortedIn (ltOf (tileC l)) 0 d.size d') : d'.toList.Perm d.toList ∧ d'.toList.Pairwise (Before l) := by
  have e1 : d'.extract 0 d.size = d' := by rw [← hp.1]; simp
  have e2 : d.extract 0 d.size = d := by simp
  have := hp.2.2
  rw [e1, e2] at this
  refine ⟨this, ?_⟩
  rw [List.pairwise_iff_getElem]
  intro i j hi hj hij
  have h := tile_before (hs i j (Nat.zero_le _) hij (by rw [← hp.1]; simpa using hj))
  rw [getElem!_pos d' i (by simpa using hi), getElem!_pos d' j (by simpa using hj)] at h
  simpa using h

end Go.Proofs.Ytjmglihdndknjaa
