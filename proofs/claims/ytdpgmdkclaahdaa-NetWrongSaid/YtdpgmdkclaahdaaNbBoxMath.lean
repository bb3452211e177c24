/- Plain mathematics of a box: what Out, In make of a list of bindings. -/
import Derived.Test.YtdpgmdkclaahdaaNbBoxMeet
namespace Go.Proofs.Ytdpgmdkclaahdaa.Nb
open Go.Sort Go.RowKit Go.BigFrame
set_option linter.unusedVariables false
set_option linter.unusedSimpArgs false

def sweepP (now : Int) (l : List Pb) : List Pb := l.filter fun b => decide (now < b.un)
def evictP (room : Nat) : List Pb → List Pb
  | [] => []
  | x :: l => if l.length + 1 = room then (x :: l).filter (fun b => !portP (minP x l).po b) else x :: l
def insP (l : List Pb) (p : Nat) (b : Pb) : List Pb := l.take p ++ b :: l.drop p
def updP (u d p : Int) (b : Pb) : Pb := ⟨b.ii, b.ip, b.ki, b.kp, b.po, u, meetP b.met d p⟩
def modP (l : List Pb) (j : Nat) (f : Pb → Pb) : List Pb := l.modify j f
/-- where the binding is, and the list with it in it -/
def findP (room : Nat) (si sp ki kp : Int) (l : List Pb) : Nat × List Pb :=
  match l.findIdx? (isP si sp ki kp) with
  | some j => (j, l)
  | none => (freeF 0 (evictP room l), insP (evictP room l) (freeF 0 (evictP room l)) (newP si sp ki kp (freeF 0 (evictP room l))))
def outP (m hold : Int) (room : Nat) (now si sp di dp : Int) (l : List Pb) : Nat × List Pb :=
  ((findP room si sp (keyIP m di) (keyPort m dp) (sweepP now l)).1, modP (findP room si sp (keyIP m di) (keyPort m dp) (sweepP now l)).2 (findP room si sp (keyIP m di) (keyPort m dp) (sweepP now l)).1 (updP (now + hold) di dp))
def poAt (l : List Pb) (j : Nat) : Int := ((l[j]?).map (·.po)).getD 0
def untP (u : Int) (b : Pb) : Pb := ⟨b.ii, b.ip, b.ki, b.kp, b.po, u, b.met⟩
/-- who gets it: none, or where the binding is -/
def inP (f now port si sp : Int) (l : List Pb) : Option Nat :=
  match (sweepP now l).findIdx? (portP port) with
  | some j => if passT f (((sweepP now l)[j]?).map (·.met) |>.getD []) si sp then some j else none
  | none => none
theorem keep_fst (p : Pb → Bool) (L : List Bd) : (keepL p L).map (·.1) = (L.map (·.1)).filter (fun b => !p b) := by
  unfold keepL; rw [List.filter_map]; rfl
theorem sweep_fst (now : Int) (L : List Bd) : (keepL (goneP now) L).map (·.1) = sweepP now (L.map (·.1)) := by
  rw [keep_fst]; unfold sweepP goneP; congr 1; funext b; simp
theorem evict_fst (room : Nat) (L : List Bd) : (evictB room L).map (·.1) = evictP room (L.map (·.1)) := by
  cases L with
  | nil => rfl
  | cons x L =>
    by_cases h : L.length + 1 = room
    · rw [evict_full h, keep_fst, minB_fst]
      show _ = if (L.map (·.1)).length + 1 = room then _ else _
      rw [List.length_map, if_pos h]; rfl
    · rw [evict_room (by rw [List.length_cons]; exact h)]
      show _ = if (L.map (·.1)).length + 1 = room then _ else _
      rw [List.length_map, if_neg h]; rfl
theorem ins_fst (L : List Bd) (p : Nat) (x : Bd) : (insL L p x).map (·.1) = insP (L.map (·.1)) p x.1 := by
  unfold insL insP; rw [List.map_append, List.map_cons, List.map_take, List.map_drop]
theorem open_fst (room : Nat) (si sp ki kp : Int) (L : List Bd) : (openB room si sp ki kp L).map (·.1) = insP (evictP room (L.map (·.1))) (freeF 0 (evictP room (L.map (·.1)))) (newP si sp ki kp (freeF 0 (evictP room (L.map (·.1))))) := by
  unfold openB; rw [ins_fst, evict_fst]
theorem idx_some {p : Pb → Bool} {L : List Bd} {j : Nat} (h : j < L.length) (h1 : p L[j].1 = true) (h2 : ∀ x ∈ L.take j, p x.1 = false) : (L.map (·.1)).findIdx? p = some j := by
  rw [List.findIdx?_eq_some_iff_getElem]
  refine ⟨by simpa using h, by simpa using h1, fun i hi => ?_⟩
  have : L[i] ∈ L.take j := by
    rw [List.mem_take_iff_getElem]
    exact ⟨i, by omega, rfl⟩
  have := h2 _ this
  simpa using this
theorem idx_none {p : Pb → Bool} {L : List Bd} (h : ∀ x ∈ L, p x.1 = false) : (L.map (·.1)).findIdx? p = none := by
  rw [List.findIdx?_eq_none_iff]
  intro b hb
  obtain ⟨x, hx, rfl⟩ := List.mem_map.1 hb
  exact h x hx
theorem set_fst (L : List Bd) (j : Nat) (h : j < L.length) (f : Pb → Pb) (s : Sl) : (L.set j (f L[j].1, s)).map (·.1) = modP (L.map (·.1)) j f := by
  unfold modP
  rw [List.map_set]
  apply List.ext_getElem?
  intro i
  rw [List.getElem?_set, List.getElem?_modify, List.getElem?_map]
  by_cases e : j = i
  · subst e
    simp [h]
  · simp [e]
theorem poAt_fst (L : List Bd) (j : Nat) (h : j < L.length) : poAt (L.map (·.1)) j = L[j].1.po := by
  unfold poAt; rw [List.getElem?_map, List.getElem?_eq_getElem h]; rfl
end Go.Proofs.Ytdpgmdkclaahdaa.Nb