/- Boxes: blocks whose cells are known, kept over calls and makes. -/
import Derived.Test.YtdpgmdkclaahdaaWSmall
namespace Go.Proofs.Ytdpgmdkclaahdaa
open Go.RowKit
set_option linter.unusedVariables false
set_option linter.unusedSimpArgs false

/-- a block of cells that no string shares -/
def Pl (g : Nat) (w : World) : Prop := ∃ c t, w.heap[g]? = some (.cells c t (0, 0))
theorem Pl.keep {g : Nat} {w w' : World} (h : Pl g w) (hb : Below w.heap.size w w') (hl : g < w.heap.size) : Pl g w' := by
  obtain ⟨c, t, h⟩ := h
  exact ⟨c, t, (hb.block g hl).trans h⟩
theorem Pl.set {g : Nat} {w : World} (h : Pl g w) (p : Addr) (v : Value) : Pl g (w.setCell p v) := by
  obtain ⟨c, t, h⟩ := h
  by_cases hp : g = p.block
  · subst hp
    refine ⟨if p.spot.isSome then c else c.setIfInBounds p.off v, t, ?_⟩
    unfold World.setCell
    rw [Array.getElem?_modify, if_pos rfl, h]; rfl
  · exact ⟨c, t, (Below.heap_setCell w p v g hp).trans h⟩
/-- block g holds these cells, and can be written -/
structure Cs (g : Nat) (vs : List Value) (w : World) : Prop where
  cell : ∀ i v, vs[i]? = some v → w.cell? ⟨g, i, none⟩ = some v
  free : ∀ i v, vs[i]? = some v → w.frozen? ⟨g, i, none⟩ = false
  lt : g < w.heap.size
  pl : Pl g w
theorem Cs.new (w : World) (vs : List Value) (t : TypeId) : Cs w.heap.size vs (w.alloc (.cells vs.toArray t)) := by
  refine ⟨fun i v h => ?_, fun i v h => ?_, by simp, ⟨vs.toArray, t, by unfold World.alloc; exact Array.getElem?_push_size⟩⟩
  · rw [World.cell?_alloc_mark]; simpa using h
  · exact World.frozen?_alloc_at _ _ _ _ rfl
theorem Cs.keep {g : Nat} {vs : List Value} {w w' : World} (h : Cs g vs w) (hb : Below w.heap.size w w') : Cs g vs w' :=
  ⟨fun i v hv => (hb.cell (p := ⟨g, i, none⟩) h.lt).trans (h.cell i v hv), fun i v hv => (hb.frozen (p := ⟨g, i, none⟩) h.lt).trans (h.free i v hv), Nat.lt_of_lt_of_le h.lt hb.size, h.pl.keep hb h.lt⟩
theorem Cs.alloc {g : Nat} {vs : List Value} {w : World} (h : Cs g vs w) (o : Obj) : Cs g vs (w.alloc o) := h.keep ((Below.refl _ _).alloc (Nat.le_refl _) o)
/-- a cell of the block is written -/
theorem Cs.set {g : Nat} {vs : List Value} {w : World} (h : Cs g vs w) (i : Nat) (v : Value) (hi : i < vs.length) : Cs g (vs.set i v) (w.setCell ⟨g, i, none⟩ v) := by
  refine ⟨fun j u hu => ?_, fun j u hu => ?_, by simpa using h.lt, h.pl.set _ _⟩
  · by_cases hj : i = j
    · subst hj
      rw [List.getElem?_set_self hi] at hu
      injection hu with hu
      subst hu
      exact World.cell?_setCell_same _ _ _ (h.cell i _ (List.getElem?_eq_getElem hi))
    · rw [List.getElem?_set_ne hj] at hu
      rw [World.cell?_setCell_other _ _ _ _ (by intro e; injection e with _ e2; exact hj e2)]
      exact h.cell j u hu
  · rw [World.frozen?_setCell w]
    by_cases hj : i = j
    · subst hj; exact h.free i _ (List.getElem?_eq_getElem hi)
    · rw [List.getElem?_set_ne hj] at hu; exact h.free j u hu
/-- a cell of another block is written -/
theorem Cs.far {g : Nat} {vs : List Value} {w : World} (h : Cs g vs w) (p : Addr) (v : Value) (hp : p.block ≠ g) : Cs g vs (w.setCell p v) := by
  refine ⟨fun j u hu => ?_, fun j u hu => ?_, by simpa using h.lt, h.pl.set _ _⟩
  · rw [World.cell?_setCell_other _ _ _ _ (by intro e; exact hp (by rw [e]))]; exact h.cell j u hu
  · rw [World.frozen?_setCell w]; exact h.free j u hu
theorem Cs.drew {g : Nat} {vs : List Value} {w : World} (h : Cs g vs w) : Cs g vs w.drew := h.keep ((Below.refl _ _).drew)
end Go.Proofs.Ytdpgmdkclaahdaa
