/- What the statements of layer bound ask of the project's package: its contracts, laid as premises. -/
import Derived.Test.YtkoefclkpdpdpaaGreatDgQ
import Derived.Test.YtkoefclkpdpdpaaGreatBoNum
import Derived.Test.YtkoefclkpdpdpaaGreatPln
namespace Go.Proofs.YtkoefclkpdpdpaaGreat
set_option linter.unusedVariables false
set_option maxRecDepth 100000
open Go.RowKit

/-- why nothing is told; what is told of values -/
def boE (L : List Nd) : Int := if sumC L = 0 then 7 else 0
def boV (L : List Nd) (v : Int) : Int := if sumC L = 0 then 0 else v
theorem bo_no {L : List Nd} (h : sumC L = 0) : boE L = 7 ∧ ∀ v, boV L v = 0 := ⟨if_pos h, fun v => if_pos h⟩
theorem bo_yes {L : List Nd} (h : ¬ sumC L = 0) : boE L = 0 ∧ ∀ v, boV L v = v := ⟨if_neg h, fun v => if_neg h⟩
/-- how far they are apart -/
def spL (l : Int) (L : List Nd) : Int := if boMx (loN l) L - boMn (hiN l) L < 0 then 0 else boMx (loN l) L - boMn (hiN l) L
def spH (l : Int) (L : List Nd) : Int := boMx (hiN l) L - boMn (loN l) L
/-- the mean, rounded down and up -/
def meL (l : Int) (L : List Nd) : Int := suF (loN l) L / sumC L
def meH (l : Int) (L : List Nd) : Int := if suF (hiN l) L % sumC L = 0 then suF (hiN l) L / sumC L else suF (hiN l) L / sumC L + 1
/-- is the worst gap within a part of all? -/
def wiE (L : List Nd) (num den : Int) : Int := if sumC L = 0 then 7 else if num < 0 ∨ den < 1 then 2 else 0
def wiB (l : Int) (L : List Nd) (num den : Int) : Bool := decide (wiE L num den = 0 ∧ (woF l L L).2 * den ≤ num * sumC L)
/-- the project's Least, Greatest, Spread -/
structure BoE : Prop where
  least_nil : ∀ (w : World), Calls Tryz.prog 10 #[.pointer none] w fun e w' => e = .returned (.tuple #[.agg #[.int .i64 0, .int .i64 0], .int .i64 1]) ∧ Below w.heap.size w w'
  greatest_nil : ∀ (w : World), Calls Tryz.prog 11 #[.pointer none] w fun e w' => e = .returned (.tuple #[.agg #[.int .i64 0, .int .i64 0], .int .i64 1]) ∧ Below w.heap.size w w'
  spread_nil : ∀ (w : World), Calls Tryz.prog 12 #[.pointer none] w fun e w' => e = .returned (.tuple #[.agg #[.int .i64 0, .int .i64 0], .int .i64 1]) ∧ Below w.heap.size w w'
  least : ∀ {B q p g h : Nat} {kd l k : Int} {n : Nat} {L : List Nd} (w : World), DgA w B q p g h kd l k n L → n ≤ 400 → Calls Tryz.prog 10 #[.pointer (some ⟨q, 0, none⟩)] w fun e w' => e = .returned (.tuple #[.agg #[.int .i64 (boV L (boMn (loN l) L)), .int .i64 (boV L (boMn (hiN l) L))], .int .i64 (boE L)]) ∧ Below w.heap.size w w'
  greatest : ∀ {B q p g h : Nat} {kd l k : Int} {n : Nat} {L : List Nd} (w : World), DgA w B q p g h kd l k n L → n ≤ 400 → Calls Tryz.prog 11 #[.pointer (some ⟨q, 0, none⟩)] w fun e w' => e = .returned (.tuple #[.agg #[.int .i64 (boV L (boMx (loN l) L)), .int .i64 (boV L (boMx (hiN l) L))], .int .i64 (boE L)]) ∧ Below w.heap.size w w'
  spread : ∀ {B q p g h : Nat} {kd l k : Int} {n : Nat} {L : List Nd} (w : World), DgA w B q p g h kd l k n L → n ≤ 400 → Calls Tryz.prog 12 #[.pointer (some ⟨q, 0, none⟩)] w fun e w' => e = .returned (.tuple #[.agg #[.int .i64 (boV L (spL l L)), .int .i64 (boV L (spH l L))], .int .i64 (boE L)]) ∧ Below w.heap.size w w'
/-- its Sum -/
structure BoS : Prop where
  sum_nil : ∀ (w : World), Calls Tryz.prog 15 #[.pointer none] w fun e w' => e = .returned (.tuple #[.agg #[.int .u64 0, .int .u64 0], .agg #[.int .u64 0, .int .u64 0]]) ∧ Below w.heap.size w w'
  sum : ∀ {B q p g h : Nat} {kd l k : Int} {n : Nat} {L : List Nd} (w : World), DgA w B q p g h kd l k n L → n ≤ 400 → Calls Tryz.prog 15 #[.pointer (some ⟨q, 0, none⟩)] w fun e w' => e = .returned (.tuple #[.agg #[.int .u64 (suF (loN l) L % 18446744073709551616), .int .u64 (suF (loN l) L / 18446744073709551616)], .agg #[.int .u64 (suF (hiN l) L % 18446744073709551616), .int .u64 (suF (hiN l) L / 18446744073709551616)]]) ∧ Below w.heap.size w w'
/-- its Mean -/
structure BoM : Prop where
  mean_nil : ∀ (w : World), Calls Tryz.prog 19 #[.pointer none] w fun e w' => e = .returned (.tuple #[.agg #[.int .i64 0, .int .i64 0], .int .i64 1]) ∧ Below w.heap.size w w'
  mean : ∀ {B q p g h : Nat} {kd l k : Int} {n : Nat} {L : List Nd} (w : World), DgA w B q p g h kd l k n L → n ≤ 400 → Calls Tryz.prog 19 #[.pointer (some ⟨q, 0, none⟩)] w fun e w' => e = .returned (.tuple #[.agg #[.int .i64 (boV L (meL l L)), .int .i64 (boV L (meH l L))], .int .i64 (boE L)]) ∧ Below w.heap.size w w'
/-- its Worst -/
structure BoW : Prop where
  worst_nil : ∀ (w : World), Calls Tryz.prog 21 #[.pointer none] w fun e w' => e = .returned (.tuple #[.int .i64 0, .int .i64 0, .int .i64 1]) ∧ Below w.heap.size w w'
  worst : ∀ {B q p g h : Nat} {kd l k : Int} {n : Nat} {L : List Nd} (w : World), DgA w B q p g h kd l k n L → n ≤ 400 → Calls Tryz.prog 21 #[.pointer (some ⟨q, 0, none⟩)] w fun e w' => e = .returned (.tuple #[.int .i64 (boV L (woF l L L).1), .int .i64 (boV L (woF l L L).2), .int .i64 (boE L)]) ∧ Below w.heap.size w w'
/-- its Within -/
structure BoI : Prop where
  within_nil : ∀ (a b : Int) (w : World), Calls Tryz.prog 22 #[.pointer none, .int .i64 a, .int .i64 b] w fun e w' => e = .returned (.tuple #[.bool false, .int .i64 1]) ∧ Below w.heap.size w w'
  within : ∀ {B q p g h : Nat} {kd l k : Int} {n : Nat} {L : List Nd} (a b : Int) (w : World), DgA w B q p g h kd l k n L → n ≤ 400 → -9223372036854775808 ≤ a → a ≤ 9223372036854775807 → -9223372036854775808 ≤ b → b ≤ 9223372036854775807 → Calls Tryz.prog 22 #[.pointer (some ⟨q, 0, none⟩), .int .i64 a, .int .i64 b] w fun e w' => e = .returned (.tuple #[.bool (wiB l L a b), .int .i64 (wiE L a b)]) ∧ Below w.heap.size w w'

end Go.Proofs.YtkoefclkpdpdpaaGreat
