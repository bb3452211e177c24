/- The contracts of the library that this seat uses, laid at its numbers. -/
import Derived.Test.YtplllaafllcigaaDbSmall
import Derived.Shelf.Spec.SlicesInsertGrow
import Derived.Shelf.Slices.SearchI
import Derived.Shelf.Slices.Empties
import Derived.Shelf.Slices.Clone
namespace Go.Proofs.Ytplllaafllcigaa
open Go.Shelf
set_option linter.unusedVariables false
set_option linter.unusedSimpArgs false
def cloneIt_ren : Go.Shelf.Ren := ⟨fun | 15 => 36 | n => n, fun | 3 => 3 | 4 => 4 | 22 => 51 | n => n, fun | n => n⟩
theorem cloneIt : Go.Proofs.Lays2.n15 Try.prog cloneIt_ren := {
  mixed := by kernel_rfl
  f15 := Try.func36.trans (congrArg some (by kernel_rfl))
  t3 := Try.underlying3
  a3 := Try.isAgg3
  z3 := Try.sizeOf3
  v3 := Try.zeroValue3
  t4 := Try.underlying4
  a4 := Try.isAgg4
  z4 := Try.sizeOf4
  v4 := Try.zeroValue4
  t22 := Try.underlying51
  a22 := Try.isAgg51
  z22 := Try.sizeOf51
  v22 := Try.zeroValue51
  i3 := by kernel_rfl }
def insIt_ren : Go.Shelf.Ren := ⟨fun | 21 => 26 | 27 => 34 | 28 => 35 | 35 => 38 | 39 => 39 | n => n, fun | 0 => 0 | 3 => 3 | 4 => 4 | 22 => 51 | n => n, fun | n => n⟩
theorem insIt : Go.Proofs.Lays2.n21 Try.prog insIt_ren := {
  mixed := by kernel_rfl
  f21 := Try.func26.trans (congrArg some (by kernel_rfl))
  f27 := Try.func34.trans (congrArg some (by kernel_rfl))
  f28 := Try.func35.trans (congrArg some (by kernel_rfl))
  f35 := Try.func38.trans (congrArg some (by kernel_rfl))
  f39 := Try.func39.trans (congrArg some (by kernel_rfl))
  t0 := Try.underlying0
  a0 := Try.isAgg0
  z0 := Try.sizeOf0
  v0 := Try.zeroValue0
  t3 := Try.underlying3
  a3 := Try.isAgg3
  z3 := Try.sizeOf3
  v3 := Try.zeroValue3
  t4 := Try.underlying4
  a4 := Try.isAgg4
  z4 := Try.sizeOf4
  v4 := Try.zeroValue4
  t22 := Try.underlying51
  a22 := Try.isAgg51
  z22 := Try.sizeOf51
  v22 := Try.zeroValue51
  i3 := by kernel_rfl }
def searchIt_ren : Go.Shelf.Ren := ⟨fun | 25 => 25 | 31 => 32 | 32 => 33 | 37 => 37 | n => n, fun | 0 => 0 | 3 => 3 | 4 => 4 | 22 => 51 | 40 => 34 | n => n, fun | n => n⟩
theorem searchIt : Go.Proofs.Lays2.n25 Try.prog searchIt_ren := {
  mixed := by kernel_rfl
  f25 := Try.func25.trans (congrArg some (by kernel_rfl))
  f31 := Try.func32.trans (congrArg some (by kernel_rfl))
  f32 := Try.func33.trans (congrArg some (by kernel_rfl))
  f37 := Try.func37.trans (congrArg some (by kernel_rfl))
  t0 := Try.underlying0
  a0 := Try.isAgg0
  z0 := Try.sizeOf0
  v0 := Try.zeroValue0
  t3 := Try.underlying3
  a3 := Try.isAgg3
  z3 := Try.sizeOf3
  v3 := Try.zeroValue3
  t4 := Try.underlying4
  a4 := Try.isAgg4
  z4 := Try.sizeOf4
  v4 := Try.zeroValue4
  t22 := Try.underlying51
  a22 := Try.isAgg51
  z22 := Try.sizeOf51
  v22 := Try.zeroValue51
  t40 := Try.underlying34
  a40 := Try.isAgg34
  z40 := Try.sizeOf34
  v40 := Try.zeroValue34 }
end Go.Proofs.Ytplllaafllcigaa
