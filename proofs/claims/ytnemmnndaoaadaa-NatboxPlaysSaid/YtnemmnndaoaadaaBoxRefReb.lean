/- The reference's box: Rebind. -/
import Derived.Test.YtnemmnndaoaadaaBoxRefSweep
namespace Go.Proofs.Ytnemmnndaoaadaa
open Go.Sort Go.RowKit Go.BigFrame
set_option linter.unusedVariables false
set_option linter.unusedSimpArgs false

theorem rrebind_bad (g : Nat) (w : World) : Calls Try.prog 14 #[.pointer (some ⟨g, 0, none⟩), .int .u32 0] w fun e w' => e = .returned (.int .i64 1) ∧ Below w.heap.size w w' := by
  have hB := Below.refl w.heap.size w
  go_enter Try.func14, Try.ntmps14
  go_wp2
  go_ret
  exact ⟨rfl, hB⟩
theorem rrebind_ok (g : Nat) (m f ip0 hold : Int) (room : Nat) (v : Sl) (ip : Int) (hip : ¬ ip = 0) (w : World) (hx : Cs g (bcells m f ip0 hold room v) w) :
    Calls Try.prog 14 #[.pointer (some ⟨g, 0, none⟩), .int .u32 ip] w fun e w' => e = .returned (.int .i64 0) ∧ w' = (w.setCell ⟨g, 2, none⟩ (.int .u32 ip)).setCell ⟨g, 5, none⟩ (.slice none 0 0) := by
  have hz : (ip == 0) = false := by rw [beq_eq_false_iff_ne]; exact hip
  have x2 := hx.cell 2 _ rfl
  have x5 := hx.cell 5 _ rfl
  have f2 := hx.free 2 _ rfl
  have f5 := hx.free 5 _ rfl
  have gl := hx.lt
  clear hx hip
  go_enter Try.func14, Try.ntmps14
  go_wp2
  go_ret
  exact ⟨rfl, rfl⟩
end Go.Proofs.Ytnemmnndaoaadaa
