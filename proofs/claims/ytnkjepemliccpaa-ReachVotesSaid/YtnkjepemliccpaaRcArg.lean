/- Slices that came in: of bytes, of bools. -/
import Derived.Test.YtnkjepemliccpaaRcEx
import Derived.Deep.Grids
import Derived.Deep.DeepCutAuto
import Derived.ChangeOld
import Derived.ChangeMaps5
import Derived.ShutString
import Derived.OpenShut
import Derived.SizedLaws
namespace Go.Proofs.Ytnkjepemliccpaa
open Go.Sort Go.RowKit Go.BigFrame Go.ChangeShapes Go.WideShapes Go.Deep
set_option linter.unusedVariables false
set_option linter.unusedSimpArgs false

theorem arg_u8m {w : World} {a : Option Addr} {len cap : Nat} {zs : List Int} (wz : ArgRow .u8 w a len cap zs) : ∃ ys : List Int, ys.length = len ∧ (∀ z ∈ ys, 0 ≤ z ∧ z < 256) ∧ Rd .u8 w w.heap.size a ys ∧ len ≤ 9223372036854775807 := by
  rcases wz with ⟨rfl, rfl, rfl, rfl⟩ | ⟨x, rfl, h1, h2, h3, h4, h5⟩
  · exact ⟨[], rfl, by simp, Rd.nil _ _ _ _, by omega⟩
  · have hl : (zs.take len).length = len := by rw [List.length_take]; omega
    refine ⟨zs.take len, hl, fun z hz => ?_, fun hp => ?_, by unfold maxLen at h2; omega⟩
    · have := bounds_u8 (h5 z (List.mem_of_mem_take hz)); omega
    · obtain ⟨b, off, spot⟩ := x
      have h0 := h4 0 (by omega)
      have hs : spot = none := by simpa [Addr.add] using World.cell?_spot h0
      subst hs
      refine ⟨b, off, rfl, by simpa [Addr.add] using World.block_lt_of_cell? _ _ h0, fun i hi => ?_⟩
      have := h4 i (by omega)
      rw [add_at] at this
      rw [this]
      have : i < len := by omega
      simp [List.getD_eq_getElem?_getD, List.getElem?_take, this]
/-- what is known of a slice of bools that came in -/
def BoolRow (w : World) (a : Option Addr) (len cap : Nat) : Prop :=
  (a = none ∧ len = 0 ∧ cap = 0) ∨ ∃ x, a = some x ∧ len ≤ cap ∧ cap ≤ maxLen ∧ ∃ B : Nat → Bool, ∀ i, i < cap → w.cell? (x.add i) = some (.bool (B i))
/-- a slice of bools that can be read -/
def RdB (w : World) (B : Nat) (a : Option Addr) (n : Nat) (f : Nat → Bool) : Prop := 0 < n → ∃ b off, a = some ⟨b, off, none⟩ ∧ b < B ∧ ∀ i, i < n → w.cell? ⟨b, off + i, none⟩ = some (.bool (f i))
theorem RdB.below {w w' : World} {B : Nat} {a : Option Addr} {n : Nat} {f : Nat → Bool} (h : RdB w B a n f) (hb : Below B w w') : RdB w' B a n f := fun hp => by
  obtain ⟨b, off, rfl, hB, hc⟩ := h hp
  exact ⟨b, off, rfl, hB, fun i hi => (hb.cell (p := ⟨b, off + i, none⟩) hB).trans (hc i hi)⟩
theorem arg_bools {w : World} {a : Option Addr} {len cap : Nat} (h : BoolRow w a len cap) : ∃ f, RdB w w.heap.size a len f ∧ len ≤ 9223372036854775807 := by
  rcases h with ⟨rfl, rfl, rfl⟩ | ⟨x, rfl, h1, h2, B, hc⟩
  · exact ⟨fun _ => false, fun h => absurd h (by simp), by omega⟩
  · refine ⟨B, fun hp => ?_, by unfold maxLen at h2; omega⟩
    obtain ⟨b, off, spot⟩ := x
    have h0 := hc 0 (by omega)
    have hs : spot = none := by simpa [Addr.add] using World.cell?_spot h0
    subst hs
    refine ⟨b, off, rfl, by simpa [Addr.add] using World.block_lt_of_cell? _ _ h0, fun i hi => ?_⟩
    have := hc i (by omega)
    rw [add_at] at this
    exact this
end Go.Proofs.Ytnkjepemliccpaa
