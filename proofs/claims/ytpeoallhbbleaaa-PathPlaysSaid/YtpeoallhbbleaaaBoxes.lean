/- Boxes: blocks whose cells are known, kept over calls and makes. -/
import Derived.Test.YtpeoallhbbleaaaWSmall
namespace Go.Proofs.Ytpeoallhbbleaaa
open Go.RowKit
set_option linter.unusedVariables false
set_option linter.unusedSimpArgs false

/-- block g holds these cells, and can be written -/
structure Cs (g : Nat) (vs : List Value) (w : World) : Prop where
  cell : ∀ i v, vs[i]? = some v → w.cell? ⟨g, i, none⟩ = some v
  free : ∀ i v, vs[i]? = some v → w.frozen? ⟨g, i, none⟩ = false
  lt : g < w.heap.size
theorem Cs.new (w : World) (vs : List Value) (t : TypeId) : Cs w.heap.size vs (w.alloc (.cells vs.toArray t)) := by
  refine ⟨fun i v h => ?_, fun i v h => ?_, by simp⟩
  · rw [World.cell?_alloc_mark]; simpa using h
  · exact World.frozen?_alloc_at _ _ _ _ rfl
theorem Cs.keep {g : Nat} {vs : List Value} {w w' : World} (h : Cs g vs w) (hb : Below w.heap.size w w') : Cs g vs w' :=
  ⟨fun i v hv => (hb.cell (p := ⟨g, i, none⟩) h.lt).trans (h.cell i v hv), fun i v hv => (hb.frozen (p := ⟨g, i, none⟩) h.lt).trans (h.free i v hv), Nat.lt_of_lt_of_le h.lt hb.size⟩
theorem Cs.alloc {g : Nat} {vs : List Value} {w : World} (h : Cs g vs w) (o : Obj) : Cs g vs (w.alloc o) := h.keep ((Below.refl _ _).alloc (Nat.le_refl _) o)
/-- a cell of the block is written -/
theorem Cs.set {g : Nat} {vs : List Value} {w : World} (h : Cs g vs w) (i : Nat) (v : Value) (hi : i < vs.length) : Cs g (vs.set i v) (w.setCell ⟨g, i, none⟩ v) := by
  refine ⟨fun j u hu => ?_, fun j u hu => ?_, by simpa using h.lt⟩
  · by_cases hj : i = j
    · subst hj
      rw [List.getElem?_set_self hi] at hu
      injection hu with hu
      subst hu
      exact World.cell?_setCell_same _ _ _ (h.cell i _ (List.getElem?_eq_getElem hi))
    · rw [List.getElem?_set_ne hj] at hu
      rw [World.cell?_setCell_other _ _ _ _ (by intro e; injection e with _ e2; exact hj e2)]
      exact h.cell j u hu
  · rw [World.frozen?_setCell w]
    by_cases hj : i = j
    · subst hj; exact h.free i _ (List.getElem?_eq_getElem hi)
    · rw [List.getElem?_set_ne hj] at hu; exact h.free j u hu
/-- a cell of another block is written -/
theorem Cs.far {g : Nat} {vs : List Value} {w : World} (h : Cs g vs w) (p : Addr) (v : Value) (hp : p.block ≠ g) : Cs g vs (w.setCell p v) := by
  refine ⟨fun j u hu => ?_, fun j u hu => ?_, by simpa using h.lt⟩
  · rw [World.cell?_setCell_other _ _ _ _ (by intro e; exact hp (by rw [e]))]; exact h.cell j u hu
  · rw [World.frozen?_setCell w]; exact h.free j u hu
theorem Cs.drew {g : Nat} {vs : List Value} {w : World} (h : Cs g vs w) : Cs g vs w.drew := h.keep ((Below.refl _ _).drew)
end Go.Proofs.Ytpeoallhbbleaaa
