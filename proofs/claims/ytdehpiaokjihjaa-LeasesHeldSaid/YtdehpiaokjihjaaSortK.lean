/- Plain mathematics: a list sorted by a key, those of one key as they stood. -/
import Derived.Test.YtdehpiaokjihjaaSortSym
namespace Go.Proofs.Ytdehpiaokjihjaa
set_option linter.unusedVariables false
set_option linter.unusedSimpArgs false
section
variable {α : Type} {key : α → Int}
def insK (key : α → Int) (out : List α) (x : α) : List α := out.takeWhile (fun y => decide (key y ≤ key x)) ++ x :: out.dropWhile (fun y => decide (key y ≤ key x))
def sortK (key : α → Int) (L : List α) : List α := L.foldl (insK key) []
theorem mem_take_whileK {p : α → Bool} : ∀ {l : List α} {x : α}, x ∈ l.takeWhile p → p x = true
  | [], x, h => by simp at h
  | y :: r, x, h => by
    rw [List.takeWhile_cons] at h
    split at h
    · rcases List.mem_cons.1 h with rfl | h
      · assumption
      · exact mem_take_whileK h
    · simp at h
theorem srt_dropK {x : α} : ∀ {l : List α}, Srt key l → ∀ y ∈ l.dropWhile (fun y => decide (key y ≤ key x)), key x < key y
  | [], _, y, h => by simp at h
  | z :: r, hs, y, h => by
    have h2 := srt_cons.1 hs
    rw [List.dropWhile_cons] at h
    split at h
    · exact srt_dropK h2.2 y h
    · rename_i h3
      simp only [decide_eq_true_eq] at h3
      rcases List.mem_cons.1 h with rfl | h
      · omega
      · have := h2.1 y h
        omega
theorem insK_srt {out : List α} (x : α) (h : Srt key out) : Srt key (insK key out x) := by
  have e : out.takeWhile (fun y => decide (key y ≤ key x)) ++ out.dropWhile (fun y => decide (key y ≤ key x)) = out := List.takeWhile_append_dropWhile
  have h2 : Srt key (out.takeWhile (fun y => decide (key y ≤ key x)) ++ out.dropWhile (fun y => decide (key y ≤ key x))) := by rw [e]; exact h
  have h3 := srt_app.1 h2
  unfold insK
  rw [srt_app]
  refine ⟨h3.1, srt_cons.2 ⟨fun y hy => Int.le_of_lt (srt_dropK h y hy), h3.2.1⟩, fun u hu v hv => ?_⟩
  rcases List.mem_cons.1 hv with rfl | hv
  · have := mem_take_whileK hu
    simp only [decide_eq_true_eq] at this; exact this
  · exact h3.2.2 u hu v hv
theorem insK_eqv {out : List α} (x : α) (h : Srt key out) : Eqv key (out ++ [x]) (insK key out x) := by
  have e : out.takeWhile (fun y => decide (key y ≤ key x)) ++ out.dropWhile (fun y => decide (key y ≤ key x)) = out := List.takeWhile_append_dropWhile
  have h1 : Eqv key (out.dropWhile (fun y => decide (key y ≤ key x)) ++ [x]) ([x] ++ out.dropWhile (fun y => decide (key y ≤ key x))) := Eqv.swap fun y hy z hz => by
    simp only [List.mem_singleton] at hz
    subst hz
    exact srt_dropK h y hy
  have h2 := (Eqv.refl (key := key) (out.takeWhile (fun y => decide (key y ≤ key x)))).app h1
  rw [← List.append_assoc, e] at h2
  exact h2
theorem foldK : ∀ (L out : List α), Srt key out → Srt key (L.foldl (insK key) out) ∧ Eqv key (out ++ L) (L.foldl (insK key) out)
  | [], out, h => ⟨h, by simpa using Eqv.refl out⟩
  | x :: r, out, h => by
    obtain ⟨h1, h2⟩ := foldK r (insK key out x) (insK_srt x h)
    refine ⟨h1, Eqv.trans ?_ h2⟩
    have := (insK_eqv x h).app (Eqv.refl r)
    simpa using this
theorem sortK_srt (L : List α) : Srt key (sortK key L) := (foldK L [] srt_nil).1
theorem sortK_eqv (L : List α) : Eqv key L (sortK key L) := (foldK L [] srt_nil).2
theorem sortK_uniq {L M : List α} (hs : Srt key M) (he : Eqv key L M) : M = sortK key L := srt_uniq hs (sortK_srt L) (he.symm.trans (sortK_eqv L))
theorem sortK_same {L : List α} (hs : Srt key L) : sortK key L = L := (sortK_uniq hs (Eqv.refl L)).symm
theorem sortK_len (L : List α) : (sortK key L).length = L.length := (sortK_eqv L).1.symm
theorem sortK_mem {L : List α} {x : α} : x ∈ sortK key L ↔ x ∈ L := ⟨fun h => (sortK_eqv L).symm.mem h, fun h => (sortK_eqv L).mem h⟩
end
def keyF (F : List Int) (x : Int) : Int := F.getD x.toNat 0
/-- the numbers 0 to n-1 -/
def idxL (n : Nat) : List Int := (List.range n).map fun i => ((i : Nat) : Int)
theorem idxL_len (n : Nat) : (idxL n).length = n := by unfold idxL; simp
theorem idxL_succ (n : Nat) : idxL (n + 1) = idxL n ++ [(n : Int)] := by unfold idxL; rw [List.range_succ]; simp
theorem idxL_mem {n : Nat} {x : Int} (h : x ∈ idxL n) : 0 ≤ x ∧ x < n := by
  unfold idxL at h
  obtain ⟨i, hi, rfl⟩ := List.mem_map.1 h
  have : i < n := by simpa using hi
  omega
/-- the k nearest, F tells how far each is -/
def cntN (k : Int) (n : Nat) : Nat := min k.toNat n
def nearL (F : List Int) (k : Int) : List Int := (sortK (keyF F) (idxL F.length)).take (cntN k F.length)
theorem nearL_len (F : List Int) (k : Int) : (nearL F k).length = cntN k F.length := by
  unfold nearL
  rw [List.length_take, sortK_len, idxL_len]
  unfold cntN; omega
theorem nearL_mem {F : List Int} {k x : Int} (h : x ∈ nearL F k) : 0 ≤ x ∧ x < (F.length : Nat) := by
  unfold nearL at h
  exact idxL_mem (sortK_mem.1 (List.mem_of_mem_take h))
end Go.Proofs.Ytdehpiaokjihjaa
