/- Plain mathematics of a ring: who is next, who is left. -/
import Derived.Test.YtheipflmkjiimaaDrawMath
namespace Go.Proofs.Ytheipflmkjiimaa
set_option linter.unusedVariables false

/-- of those that are left: from the first one on that is in l -/
def popR (l : List Int) : List Int → List Int
  | [] => []
  | x :: r => if x ∈ l then x :: r else popR l r
/-- those that are to be told, the first one now, and where the stream stands -/
def nextL (s : Int) (L l : List Int) : List Int × Int := match popR l L with
  | [] => mixL s l
  | x :: r => (x :: r, s)
def idR (s : Int) (L l : List Int) : Int := if l.length = 0 then 0 else (nextL s L l).1.headD 0
def leftR (s : Int) (L l : List Int) : List Int := if l.length = 0 then L else (nextL s L l).1.tail
def stR (s : Int) (L l : List Int) : Int := if l.length = 0 then s else (nextL s L l).2
def okR (l : List Int) : Bool := decide (0 < l.length)
theorem nextL_nil (s : Int) (l : List Int) : nextL s [] l = mixL s l := rfl
theorem nextL_in {s x : Int} {r l : List Int} (h : x ∈ l) : nextL s (x :: r) l = (x :: r, s) := by simp [nextL, popR, h]
theorem nextL_out {s x : Int} {r l : List Int} (h : x ∉ l) : nextL s (x :: r) l = nextL s r l := by simp [nextL, popR, h]
theorem popR_none {l : List Int} : ∀ {L : List Int}, popR l L = [] → ∀ x ∈ L, x ∉ l
  | [], _, x, hx => by simp at hx
  | y :: r, h, x, hx => by
    by_cases hy : y ∈ l
    · simp [popR, hy] at h
    · simp only [popR, if_neg hy] at h
      rcases List.mem_cons.1 hx with rfl | hx
      · exact hy
      · exact popR_none h x hx
theorem popR_some {l : List Int} : ∀ {L r : List Int} {x : Int}, popR l L = x :: r → x ∈ l ∧ ∃ A, L = A ++ x :: r ∧ ∀ y ∈ A, y ∉ l
  | [], r, x, h => by simp [popR] at h
  | y :: L, r, x, h => by
    by_cases hy : y ∈ l
    · simp only [popR, if_pos hy, List.cons.injEq] at h
      obtain ⟨rfl, rfl⟩ := h
      exact ⟨hy, [], rfl, by simp⟩
    · simp only [popR, if_neg hy] at h
      obtain ⟨h1, A, rfl, h2⟩ := popR_some h
      refine ⟨h1, y :: A, rfl, fun z hz => ?_⟩
      rcases List.mem_cons.1 hz with rfl | hz
      · exact hy
      · exact h2 z hz
/-- what Next does, by cases: it tells x; r are left -/
theorem nextL_cases (s : Int) (L l : List Int) (hl : 0 < l.length) : ∃ x r s', nextL s L l = (x :: r, s') ∧ x ∈ l ∧
    ((s' = s ∧ ∃ A, L = A ++ x :: r ∧ ∀ y ∈ A, y ∉ l) ∨ ((∀ y ∈ L, y ∉ l) ∧ (x :: r).Perm l ∧ mixL s l = (x :: r, s'))) := by
  unfold nextL
  cases h : popR l L with
  | cons x r =>
    obtain ⟨h1, h2⟩ := popR_some h
    exact ⟨x, r, s, rfl, h1, .inl ⟨rfl, h2⟩⟩
  | nil =>
    have hp := mixL_perm s l
    obtain ⟨⟨m, s'⟩, hm⟩ : ∃ q, mixL s l = q := ⟨_, rfl⟩
    rw [hm] at hp
    rw [hm]
    simp only at hp ⊢
    cases m with
    | nil => have := hp.length_eq; simp at this; omega
    | cons x r => exact ⟨x, r, s', rfl, hp.subset (by simp), .inr ⟨popR_none h, hp, rfl⟩⟩
/-- is x in l? -/
def isIn (x : Int) (l : List Int) : Bool := decide (x ∈ l)
theorem isIn_iff {x : Int} {l : List Int} : isIn x l = true ↔ x ∈ l := by simp [isIn]
theorem isIn_not {x : Int} {l : List Int} : isIn x l = false ↔ x ∉ l := by simp [isIn]
theorem okR_iff {l : List Int} : okR l = true ↔ 0 < l.length := by simp [okR]
theorem next_id (s : Int) (L l : List Int) (hl : 0 < l.length) : idR s L l = (nextL s L l).1.headD 0 := if_neg (by omega)
theorem next_left (s : Int) (L l : List Int) (hl : 0 < l.length) : leftR s L l = (nextL s L l).1.tail := if_neg (by omega)
theorem next_st (s : Int) (L l : List Int) (hl : 0 < l.length) : stR s L l = (nextL s L l).2 := if_neg (by omega)
theorem left_len (s : Int) (L l : List Int) : (leftR s L l).length ≤ max L.length l.length := by
  by_cases hl : 0 < l.length
  · obtain ⟨x, r, s', h1, -, h2⟩ := nextL_cases s L l hl
    rw [next_left s L l hl, h1]
    simp only [List.tail_cons]
    rcases h2 with ⟨_, A, rfl, _⟩ | ⟨_, hp, _⟩
    · simp; omega
    · have := hp.length_eq; simp at this; omega
  · unfold leftR; rw [if_pos (by omega)]; omega
end Go.Proofs.Ytheipflmkjiimaa
