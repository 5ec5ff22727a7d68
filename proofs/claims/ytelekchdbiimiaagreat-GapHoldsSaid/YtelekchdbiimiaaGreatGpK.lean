/- What the statements of layer gap ask of the project's package: its contracts, laid as premises. -/
import Derived.Test.YtelekchdbiimiaaGreatDgQ
import Derived.Test.YtelekchdbiimiaaGreatGpNum
namespace Go.Proofs.YtelekchdbiimiaaGreat
set_option linter.unusedVariables false
set_option maxRecDepth 100000
open Go.RowKit
/-- the project's Side -/
structure GpSd : Prop where
  side_nn : ∀ (x : Int) (w : World), Calls Tryz.prog 10 #[.pointer none, .pointer none, .int .i64 x] w fun e w' => e = .returned (.tuple #[.int .i64 0, .int .i64 1]) ∧ Below w.heap.size w w'
  side_dn : ∀ {B q p g h : Nat} {kd l k : Int} {n : Nat} {L : List Nd} (x : Int) (w : World), DgA w B q p g h kd l k n L → n ≤ 400 → Calls Tryz.prog 10 #[.pointer (some ⟨q, 0, none⟩), .pointer none, .int .i64 x] w fun e w' => e = .returned (.tuple #[.int .i64 0, .int .i64 1]) ∧ Below w.heap.size w w'
  side : ∀ {B1 q1 p1 g1 h1 B2 q2 p2 g2 h2 : Nat} {kd1 l1 k1 kd2 l2 k2 : Int} {n1 n2 : Nat} {L M : List Nd} (x : Int) (w : World), DgA w B1 q1 p1 g1 h1 kd1 l1 k1 n1 L → n1 ≤ 400 → DgA w B2 q2 p2 g2 h2 kd2 l2 k2 n2 M → n2 ≤ 400 → -9223372036854775808 ≤ x → x ≤ 9223372036854775807 →
    Calls Tryz.prog 10 #[.pointer (some ⟨q1, 0, none⟩), .pointer (some ⟨q2, 0, none⟩), .int .i64 x] w fun e w' => e = .returned (.tuple #[.int .i64 (sdE l1 l2 L M x), .int .i64 (gpE l1 l2 L M)]) ∧ Below w.heap.size w w'
/-- its Apart -/
structure GpAp : Prop where
  apart_nn : ∀ (w : World), Calls Tryz.prog 12 #[.pointer none, .pointer none] w fun e w' => e = .returned (.tuple #[.int .i64 0, .int .i64 0, .int .i64 1]) ∧ Below w.heap.size w w'
  apart_nd : ∀ {B q p g h : Nat} {kd l k : Int} {n : Nat} {L : List Nd} (w : World), DgA w B q p g h kd l k n L → n ≤ 400 → Calls Tryz.prog 12 #[.pointer none, .pointer (some ⟨q, 0, none⟩)] w fun e w' => e = .returned (.tuple #[.int .i64 0, .int .i64 0, .int .i64 1]) ∧ Below w.heap.size w w'
  apart : ∀ {B1 q1 p1 g1 h1 B2 q2 p2 g2 h2 : Nat} {kd1 l1 k1 kd2 l2 k2 : Int} {n1 n2 : Nat} {L M : List Nd} (w : World), DgA w B1 q1 p1 g1 h1 kd1 l1 k1 n1 L → n1 ≤ 400 → DgA w B2 q2 p2 g2 h2 kd2 l2 k2 n2 M → n2 ≤ 400 →
    Calls Tryz.prog 12 #[.pointer (some ⟨q1, 0, none⟩), .pointer (some ⟨q2, 0, none⟩)] w fun e w' => e = .returned (.tuple #[.int .i64 (apX l1 l2 L M), .int .i64 (apZ l1 l2 L M), .int .i64 (gpE l1 l2 L M)]) ∧ Below w.heap.size w w'
/-- its Most -/
structure GpMo : Prop where
  most_nn : ∀ (x : Int) (w : World), Calls Tryz.prog 14 #[.pointer none, .pointer none, .int .i64 x] w fun e w' => e = .returned (.tuple #[.agg #[.int .i64 0, .int .i64 0], .int .i64 1]) ∧ Below w.heap.size w w'
  most : ∀ {B1 q1 p1 g1 h1 B2 q2 p2 g2 h2 : Nat} {kd1 l1 k1 kd2 l2 k2 : Int} {n1 n2 : Nat} {L M : List Nd} (x : Int) (w : World), DgA w B1 q1 p1 g1 h1 kd1 l1 k1 n1 L → n1 ≤ 400 → DgA w B2 q2 p2 g2 h2 kd2 l2 k2 n2 M → n2 ≤ 400 → -9223372036854775808 ≤ x → x ≤ 9223372036854775807 →
    Calls Tryz.prog 14 #[.pointer (some ⟨q1, 0, none⟩), .pointer (some ⟨q2, 0, none⟩), .int .i64 x] w fun e w' => e = .returned (.tuple #[.agg #[.int .i64 (mtA l1 l2 L M x), .int .i64 (mtB l1 l2 L M x)], .int .i64 (mtE l1 l2 L M x)]) ∧ Below w.heap.size w w'
end Go.Proofs.YtelekchdbiimiaaGreat
