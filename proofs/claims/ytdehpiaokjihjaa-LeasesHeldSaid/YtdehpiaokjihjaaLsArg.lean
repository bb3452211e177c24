/- A slice of bytes that came in. -/
import Derived.Test.YtdehpiaokjihjaaRoomMath
import Derived.Deep.Grids
import Derived.Deep.DeepCutAuto
import Derived.ChangeOld
import Derived.ChangeMaps5
import Derived.ShutString
import Derived.OpenShut
import Derived.SizedLaws
namespace Go.Proofs.Ytdehpiaokjihjaa
open Go.Sort Go.RowKit Go.BigFrame Go.ChangeShapes Go.WideShapes Go.Deep
set_option linter.unusedVariables false
set_option linter.unusedSimpArgs false

theorem arg_u8m {w : World} {a : Option Addr} {len cap : Nat} {zs : List Int} (wz : ArgRow .u8 w a len cap zs) : ∃ ys : List Int, ys.length = len ∧ (∀ z ∈ ys, 0 ≤ z ∧ z < 256) ∧ Rd .u8 w w.heap.size a ys ∧ len ≤ 9223372036854775807 := by
  rcases wz with ⟨rfl, rfl, rfl, rfl⟩ | ⟨x, rfl, h1, h2, h3, h4, h5⟩
  · exact ⟨[], rfl, by simp, Rd.nil _ _ _ _, by omega⟩
  · have hl : (zs.take len).length = len := by rw [List.length_take]; omega
    refine ⟨zs.take len, hl, fun z hz => ?_, fun hp => ?_, by unfold maxLen at h2; omega⟩
    · have := bounds_u8 (h5 z (List.mem_of_mem_take hz)); omega
    · obtain ⟨b, off, spot⟩ := x
      have h0 := h4 0 (by omega)
      have hs : spot = none := by simpa [Addr.add] using World.cell?_spot h0
      subst hs
      refine ⟨b, off, rfl, by simpa [Addr.add] using World.block_lt_of_cell? _ _ h0, fun i hi => ?_⟩
      have := h4 i (by omega)
      rw [add_at] at this
      rw [this]
      have : i < len := by omega
      simp [List.getD_eq_getElem?_getD, List.getElem?_take, this]
end Go.Proofs.Ytdehpiaokjihjaa
