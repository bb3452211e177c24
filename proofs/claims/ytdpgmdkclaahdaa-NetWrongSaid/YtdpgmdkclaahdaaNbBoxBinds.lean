/- A box's Binds: a copy of the bindings. -/
import Derived.Test.YtdpgmdkclaahdaaOwn
import Derived.Test.YtdpgmdkclaahdaaNbBoxRest
namespace Go.Proofs.Ytdpgmdkclaahdaa.Nb
open Go.Sort Go.RowKit Go.BigFrame
set_option linter.unusedVariables false
set_option linter.unusedSimpArgs false

def CloneBPost (L : List Bd) (w : World) (e : Ending) (w' : World) : Prop := ∃ v' : Sl, e = .returned (.slice v'.a v'.n v'.c) ∧ BRow w' v'.v L ∧ (∀ k, v'.v.ownBlock = some k → w.heap.size ≤ k) ∧ Below w.heap.size w w'
def CloneAPost (l : List (Int × Int)) (w : World) (e : Ending) (w' : World) : Prop := ∃ v' : Sl, e = .returned (.slice v'.a v'.n v'.c) ∧ ARow w' v'.v l ∧ (∀ k, v'.v.ownBlock = some k → w.heap.size ≤ k) ∧ Below w.heap.size w w'
def BindsPost (L : List Bd) (w : World) (e : Ending) (w' : World) : Prop :=
  ∃ (v' : Sl) (M : List Bd), e = .returned (.slice v'.a v'.n v'.c) ∧ v'.n = L.length ∧ M.map (·.1) = L.map (·.1) ∧ RdB w' v'.a M ∧ (∀ x ∈ M, RdA w' w'.heap.size x.2.a x.1.met ∧ x.2.n = x.1.met.length) ∧ Below w.heap.size w w'
structure BiS (gt c : Nat) (L M : List Bd) (j : Nat) (w wr : World) : Prop where
  fst : M.map (·.1) = L.map (·.1)
  row : BRow wr (.slice (some ⟨gt, 0, none⟩) L.length c) M
  new : ∀ i (h : i < M.length), i < j → ARow wr M[i].2.v M[i].1.met ∧ ∀ k, M[i].2.v.ownBlock = some k → k ≠ gt
  old : ∀ i x, j ≤ i → L[i]? = some x → M[i]? = some x
  lo : w.heap.size ≤ gt
  bel : Below w.heap.size w wr
theorem BiS.len {gt c : Nat} {L M : List Bd} {j : Nat} {w wr : World} (h : BiS gt c L M j w wr) : M.length = L.length := by
  have := congrArg List.length h.fst; simpa using this
def ZeroJ (w : World) (i : Value) (wr : World) : Prop := i = .int .i64 0 ∧ wr = w
def BiJ (gt c : Nat) (L : List Bd) (w : World) (i : Value) (wr : World) : Prop := ∃ (j : Nat) (M : List Bd), j ≤ L.length ∧ i = .int .i64 (j : Nat) ∧ BiS gt c L M j w wr
theorem BiS.step {gt c : Nat} {L M : List Bd} {j : Nat} {w wr w2 : World} {v2 : Sl} (h : BiS gt c L M j w wr) (hj : j < L.length) (hM : j < M.length) (b2 : Below wr.heap.size wr w2) (hr : ARow w2 v2.v M[j].1.met) (hlo : ∀ k, v2.v.ownBlock = some k → wr.heap.size ≤ k) :
    BiS gt c L (M.set j (M[j].1, v2)) (j + 1) w (w2.setCell ⟨gt, j * 7 + 5, none⟩ (.slice v2.a v2.n v2.c)) := by
  have hml := h.len
  obtain ⟨-, C, hC, hcap, htk, hlc, hm⟩ := brow_open h.row
  have hC2 := hC.touch (Touch.of_below (fun _ => False) b2) (fun h => h)
  have hx : M[j]? = some M[j] := List.getElem?_eq_getElem hM
  have hCj := take_at htk hx
  have hR := hC2.field j 5 _ (.slice v2.a v2.n v2.c) hCj (by decide)
  have hchx : (ch M[j]).set 5 (.slice v2.a v2.n v2.c) = ch (M[j].1, v2) := rfl
  rw [hchx] at hR
  have t : Touch (fun k => k = gt) w2 (w2.setCell ⟨gt, j * 7 + 5, none⟩ (.slice v2.a v2.n v2.c)) := Touch.set (F := fun k => k = gt) (Touch.refl _ w2) (fun _ => rfl) _
  refine ⟨?_, ?_, fun i hi hij => ?_, fun i x hij hx => ?_, h.lo, ?_⟩
  · rw [← h.fst, List.map_set]
    apply List.ext_getElem?
    intro i
    rw [List.getElem?_set]
    by_cases e : j = i
    · subst e; simp [hM]
    · simp [e]
  · have e1 : (C.set j (ch (M[j].1, v2))).length = c := by rw [List.length_set]; exact hcap
    have e2 : (M.set j (M[j].1, v2)).length = L.length := by rw [List.length_set]; exact hml
    rw [hml] at htk hlc
    have := brow_close (L := M.set j (M[j].1, v2)) hR (by rw [e2, List.take_set, htk, List.map_set]) (by rw [e2, e1]; exact hlc) (by rw [e1]; exact hm)
    rw [e1, e2] at this
    exact this
  · rw [List.length_set] at hi
    by_cases e : j = i
    · subst e
      rw [List.getElem_set_self]
      refine ⟨own_touch hr t (fun k hk e => ?_), fun k hk e => ?_⟩
      · have := hlo k hk; have := hC.lt; omega
      · have := hlo k hk; have := hC.lt; omega
    · rw [List.getElem_set_ne e]
      obtain ⟨h1, h2⟩ := h.new i hi (by omega)
      exact ⟨own_touch (own_touch h1 (Touch.of_below (fun _ => False) b2) (fun _ _ h => h)) t (fun k hk e => h2 k hk e), h2⟩
  · rw [List.getElem?_set_ne (by omega)]; exact h.old i x (by omega) hx
  · exact (h.bel.trans (b2.mono h.bel.size)).setCell h.lo _
theorem BiS.done {gt c : Nat} {L M : List Bd} {w wr : World} (h : BiS gt c L M L.length w wr) : RdB wr (some ⟨gt, 0, none⟩) M ∧ ∀ x ∈ M, RdA wr wr.heap.size x.2.a x.1.met ∧ x.2.n = x.1.met.length := by
  refine ⟨brow_rd h.row, fun x hx => ?_⟩
  obtain ⟨i, hi, rfl⟩ := List.mem_iff_getElem.1 hx
  obtain ⟨h1, _⟩ := h.new i hi (by have := h.len; omega)
  refine ⟨arow_rd (n := M[i].2.n) (cap := M[i].2.c) h1, ?_⟩
  rcases arow_form h1 with ⟨h2, h3⟩ | ⟨_, _, h2, _⟩
  · simp [Sl.v] at h2; rw [h3, h2.2.1]; rfl
  · simp [Sl.v] at h2; exact h2.2.1
end Go.Proofs.Ytdpgmdkclaahdaa.Nb