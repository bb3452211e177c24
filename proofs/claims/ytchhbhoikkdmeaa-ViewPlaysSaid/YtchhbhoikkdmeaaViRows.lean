/- Slices of records of our own that grow; the list of a law's own records. -/
import Derived.Test.YtchhbhoikkdmeaaViThings
namespace Go.Proofs.Ytchhbhoikkdmeaa
open Go.Sort Go.RowKit Go.BigFrame
set_option linter.unusedVariables false
set_option linter.unusedSimpArgs false

section
variable {w0 w w' : World} {V : List (Nat × Vw)} {R : List It} {u : Sl} {L : List Rec}
theorem oR_n (h : LS w0 V R w) (hr : iR u L ∈ R) : u.n = L.length := erow_n (c := rcs) (z := 5) (T := 37) (L := L) (h.row hr)
theorem LS.ownR (h : LS w0 V R w) (hr : iR u L ∈ R) : w.ownsRow 0 37 5 (.slice u.a L.length u.c) L.length (L.map rcs).flatten := by
  have hn := oR_n h hr
  have h2 := h.row hr
  obtain ⟨a, n, c⟩ := u
  simp only at hn
  subst hn
  exact h2
theorem LS.appR {g1 cap1 : Nat} {x : Rec} {o : Obj} (h : LS w0 V (iR u L :: R) w) (hown : w'.ownsRow 0 37 5 (.slice (some ⟨g1, 0, none⟩) (L.length + 1) cap1) (L.length + 1) ((L.map rcs).flatten ++ rcs x))
    (hg : (w.alloc o).grownBy w' (Value.slice u.a L.length u.c).ownBlock) (hat : (Value.slice u.a L.length u.c).ownBlock = some g1 ∨ g1 = w.heap.size + 1) :
    LS w0 V (iR ⟨some ⟨g1, 0, none⟩, L.length + 1, cap1⟩ (L ++ [x]) :: R) w' := by
  have hn := oR_n h (u := u) (L := L) (by simp)
  obtain ⟨a, n, c⟩ := u
  simp only at hn
  subst hn
  have := LS.app (T := 37) (z := 5) (u := ⟨a, L.length, c⟩) (n := L.length) (xs := (L.map rcs).flatten) (ys := rcs x) (R := R) (V := V) h hown hg (hat.imp id (fun h => by rw [h, World.size_alloc]))
  unfold iR
  rw [List.map_append, List.flatten_append, List.length_append]
  simpa using this
theorem erow_take (h : RdE rcs 5 w u.a L) : True := trivial
end
/-- the law's own records -/
def ownL (T : List Th) : List Rec := T.map fun t => ownR t.r
theorem ownL_len (T : List Th) : (ownL T).length = T.length := by simp [ownL]
theorem ownL_at {T : List Th} {i : Nat} {t : Th} (h : T[i]? = some t) : (ownL T)[i]? = some (ownR t.r) := by simp [ownL, h]
theorem ownL_ok {T : List Th} : ∀ r ∈ ownL T, r.Ok := by
  intro r hr
  obtain ⟨t, _, rfl⟩ := List.mem_map.1 hr
  exact ownR_ok _
theorem ownL_right (T : List Th) : rightL (ownL T) = true := by
  unfold rightL
  rw [List.all_eq_true]
  intro r hr
  obtain ⟨t, _, rfl⟩ := List.mem_map.1 hr
  exact ownR_right _
theorem take_snoc {α : Type} {L : List α} {i : Nat} {x : α} (h : L[i]? = some x) : L.take (i + 1) = L.take i ++ [x] := by rw [List.take_add_one, h]; rfl
theorem turned_at {v : Vw} {L : List Rec} {i : Nat} {r : Rec} (h : L[i]? = some r) (ht : turns (foldV v (L.take i)) r = true) : (turnedL v L)[(turnedL v (L.take i)).length]? = some r ∧ (turnedL v (L.take i)).length < (turnedL v L).length := by
  have hi : i < L.length := (List.getElem?_eq_some_iff.1 h).1
  have e : L = L.take i ++ r :: L.drop (i + 1) := by
    obtain ⟨h1, h2⟩ := List.getElem?_eq_some_iff.1 h
    rw [← h2, ← List.drop_eq_getElem_cons h1, List.take_append_drop]
  have h2 : turnedL v L = turnedL v (L.take i) ++ r :: turnedL (takeV (foldV v (L.take i)) r) (L.drop (i + 1)) := by
    conv => lhs; rw [e, turned_app]
    congr 1
    show (if turns _ r = true then _ else _) = _
    rw [if_pos ht]
  rw [h2]
  refine ⟨?_, by rw [List.length_append]; simp⟩
  rw [List.getElem?_append_right (Nat.le_refl _), Nat.sub_self]; rfl
/-- two records, field by field -/
theorem rec_eq5 {x y : Rec} (h1 : x.id = y.id) (h2 : x.st = y.st) (h3 : x.n = y.n) (h4 : x.ip = y.ip) (h5 : x.port = y.port) : x = y := by
  cases x; cases y; simp at *; exact ⟨h1, h2, h3, h4, h5⟩
end Go.Proofs.Ytchhbhoikkdmeaa
