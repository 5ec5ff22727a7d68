/- Functions of Go's library that this program calls at types of its own are the library's, at this program's own numbers. -/
import Derived.Shelf.Slices.CompactI
import Derived.Test.YtelekchdbiimiaaGreatProg
namespace Go.Proofs
open Go.Shelf
def Tryz.laysComp_ren : Go.Shelf.Ren := ⟨fun | 20 => 66 | n => n, fun | 22 => 91 | 3 => 3 | 4 => 4 | 0 => 0 | n => n, fun | n => n⟩
theorem Tryz.laysComp : Go.Proofs.Lays2.n20 Tryz.prog Tryz.laysComp_ren := {
  mixed := by kernel_rfl
  f20 := Tryz.func66.trans (congrArg some (by kernel_rfl))
  t0 := Tryz.underlying0
  a0 := Tryz.isAgg0
  z0 := Tryz.sizeOf0
  v0 := Tryz.zeroValue0
  t3 := Tryz.underlying3
  a3 := Tryz.isAgg3
  z3 := Tryz.sizeOf3
  v3 := Tryz.zeroValue3
  t4 := Tryz.underlying4
  a4 := Tryz.isAgg4
  z4 := Tryz.sizeOf4
  v4 := Tryz.zeroValue4
  t22 := Tryz.underlying91
  a22 := Tryz.isAgg91
  z22 := Tryz.sizeOf91
  v22 := Tryz.zeroValue91
  i3 := by kernel_rfl }
end Go.Proofs
