/- Plain mathematics of NatboxPlays: what the reference's box does by places is what the box does by ports, where ports rise. -/
import Derived.Test.YtnemmnndaoaadaaBoxHold
namespace Go.Proofs.Ytnemmnndaoaadaa
open Go.Sort Go.RowKit Go.BigFrame
set_option linter.unusedVariables false
set_option linter.unusedSimpArgs false

def unAt (l : List Pb) (i : Nat) : Int := ((l[i]?).map (·.un)).getD 0
/-- the place of the one that ends soonest among the first i -/
def oldN (l : List Pb) : Nat → Nat
  | 0 => 0
  | i + 1 => if unAt l i < unAt l (oldN l i) then i else oldN l i
theorem oldN_min (x : Pb) (r : List Pb) : ∀ i, i ≤ r.length → (x :: r)[oldN (x :: r) (i + 1)]? = some (minP x (r.take i))
  | 0, _ => by
    have : oldN (x :: r) 1 = 0 := by unfold oldN oldN; split <;> rfl
    rw [this]; rfl
  | i + 1, hi => by
    have ih := oldN_min x r i (by omega)
    have e1 : unAt (x :: r) (oldN (x :: r) (i + 1)) = (minP x (r.take i)).un := by unfold unAt; rw [ih]; rfl
    have hx : r[i]? = some r[i] := List.getElem?_eq_getElem (by omega)
    have e2 : unAt (x :: r) (i + 1) = r[i].un := by unfold unAt; rw [List.getElem?_cons_succ, hx]; rfl
    have e3 : minP x (r.take (i + 1)) = if r[i].un < (minP x (r.take i)).un then r[i] else minP x (r.take i) := by
      unfold minP
      rw [List.take_add_one, hx, List.foldl_append]; rfl
    have e4 : oldN (x :: r) (i + 1 + 1) = if unAt (x :: r) (i + 1) < unAt (x :: r) (oldN (x :: r) (i + 1)) then i + 1 else oldN (x :: r) (i + 1) := rfl
    rw [e4, e1, e2, e3]
    split
    · rw [List.getElem?_cons_succ, hx]
    · exact ih
theorem oldN_all (x : Pb) (r : List Pb) : (x :: r)[oldN (x :: r) (x :: r).length]? = some (minP x r) := by
  have := oldN_min x r r.length (Nat.le_refl _)
  rw [List.take_length] at this
  exact this
theorem filter_port : ∀ (l : List Pb) (j : Nat) (m : Pb), l.Pairwise (fun a b => a.po < b.po) → l[j]? = some m → l.filter (fun b => !portP m.po b) = l.eraseIdx j
  | [], j, m, _, h => by simp at h
  | b :: r, 0, m, hp, h => by
    obtain ⟨h1, h2⟩ := List.pairwise_cons.1 hp
    obtain rfl : b = m := by simpa using h
    rw [List.filter_cons]
    have : (!portP b.po b) = false := by simp [portP]
    rw [this]
    show r.filter _ = r
    rw [List.filter_eq_self]
    intro c hc
    have := h1 c hc
    simp [portP]; omega
  | b :: r, j + 1, m, hp, h => by
    obtain ⟨h1, h2⟩ := List.pairwise_cons.1 hp
    have h' : r[j]? = some m := by simpa using h
    have hb := h1 m (List.mem_of_getElem? h')
    rw [List.filter_cons]
    have : (!portP m.po b) = true := by simp [portP]; omega
    rw [if_pos this, filter_port r j m h2 h']; rfl
/-- whom the reference's box puts out -/
def rfEvict (room : Nat) (l : List Pb) : List Pb := if room ≤ l.length then l.eraseIdx (oldN l l.length) else l
theorem rfEvict_eq {room : Nat} {l : List Pb} (h : HoldW room l) : rfEvict room l = evictP room l := by
  unfold rfEvict
  cases l with
  | nil => simp [evictP]
  | cons x r =>
    have hl := h.len
    show _ = if r.length + 1 = room then (x :: r).filter (fun b => !portP (minP x r).po b) else x :: r
    by_cases e : r.length + 1 = room
    · rw [if_pos (by simp; omega), if_pos e, filter_port (x :: r) _ _ h.rise (oldN_all x r)]
    · rw [if_neg (by simp at hl ⊢; omega), if_neg e]
def rfMet (met : List (Int × Int)) (d p : Int) : List (Int × Int) := if bothIn met d p then met else (met ++ [(d, p)]).drop (met.length + 1 - 16)
theorem rfMet_eq {met : List (Int × Int)} {d p : Int} (h : met.length ≤ 16) : rfMet met d p = meetP met d p := by
  unfold rfMet meetP
  split
  · rfl
  · split
    · rename_i e
      rw [e, List.drop_append_of_le_length (by omega)]
    · rw [show met.length + 1 - 16 = 0 from by omega]; rfl
/-- who gets it at the reference's box -/
def rfIn (f now port si sp : Int) (l : List Pb) : Option Nat := (sweepP now l).findIdx? fun b => portP port b && passT f b.met si sp
theorem rfIn_eq {f now port si sp : Int} {room : Nat} {l : List Pb} (h : HoldW room l) : rfIn f now port si sp l = inP f now port si sp l := by
  have h2 := (h.filter fun b => decide (now < b.un)).rise
  unfold rfIn inP
  show (sweepP now l).findIdx? _ = _
  have h3 : (sweepP now l).Pairwise fun a b => a.po < b.po := h2
  clear h2
  generalize sweepP now l = q at *
  cases e : q.findIdx? (portP port) with
  | none =>
    rw [List.findIdx?_eq_none_iff] at e ⊢
    intro b hb
    rw [e b hb]; rfl
  | some j =>
    rw [List.findIdx?_eq_some_iff_getElem] at e
    obtain ⟨hj, e1, e2⟩ := e
    have hx : q[j]? = some q[j] := List.getElem?_eq_getElem hj
    show _ = if passT f (((q[j]?).map (·.met)).getD []) si sp then some j else none
    rw [hx]
    show _ = if passT f q[j].met si sp then some j else none
    by_cases hp : passT f q[j].met si sp = true
    · rw [if_pos hp, List.findIdx?_eq_some_iff_getElem]
      exact ⟨hj, by rw [e1, hp]; rfl, fun i hi => by have := e2 i hi; simp only [Bool.not_eq_true] at this ⊢; rw [this]; rfl⟩
    · rw [if_neg hp, List.findIdx?_eq_none_iff]
      intro b hb
      obtain ⟨i, hi, rfl⟩ := List.getElem_of_mem hb
      by_cases hij : i = j
      · subst hij
        rw [Bool.and_eq_false_iff]; exact .inr (by simpa using hp)
      · have hne : q[i].po ≠ q[j].po := by
          rcases Nat.lt_or_gt_of_ne hij with hl | hl
          · have := List.pairwise_iff_getElem.1 h3 i j hi hj hl; omega
          · have := List.pairwise_iff_getElem.1 h3 j i hj hi hl; omega
        unfold portP at e1 ⊢
        rw [decide_eq_true_iff] at e1
        rw [Bool.and_eq_false_iff]; exact .inl (by rw [decide_eq_false_iff_not]; omega)
theorem holdW_evict {room : Nat} {l : List Pb} (h : HoldW room l) : HoldW room (evictP room l) := by
  cases l with
  | nil => exact h
  | cons x l =>
    show HoldW room (if l.length + 1 = room then (x :: l).filter (fun b => !portP (minP x l).po b) else x :: l)
    split
    · exact h.filter _
    · exact h
theorem holdW_mid {room : Nat} {A B : List Pb} {x y : Pb} (h : HoldW room (A ++ x :: B)) (e : y.po = x.po) : HoldW room (A ++ y :: B) := by
  refine ⟨?_, fun b hb => ?_, ?_⟩
  · have := h.len
    rw [List.length_append, List.length_cons] at this ⊢; exact this
  · rcases List.mem_append.1 hb with hb | hb
    · exact h.po b (by simp [hb])
    · rcases List.mem_cons.1 hb with rfl | hb
      · rw [e]; exact h.po x (by simp)
      · exact h.po b (by simp [hb])
  · obtain ⟨p1, p2, p3⟩ := List.pairwise_append.1 h.rise
    obtain ⟨q1, q2⟩ := List.pairwise_cons.1 p2
    refine List.pairwise_append.2 ⟨p1, List.pairwise_cons.2 ⟨fun b hb => by rw [e]; exact q1 b hb, q2⟩, fun a ha b hb => ?_⟩
    rcases List.mem_cons.1 hb with rfl | hb
    · rw [e]; exact p3 a ha x (by simp)
    · exact p3 a ha b (by simp [hb])
/-- the binding of (si, sp) under the key, found or new, times aside -/
theorem holdW_find {si sp ki kp : Int} {room : Nat} {l : List Pb} (h : HoldW room l) (hr : 1 ≤ room) :
    ∃ A x B, findP room si sp ki kp l = (A.length, A ++ x :: B) ∧ HoldW room (A ++ x :: B) := by
  unfold findP
  cases e : l.findIdx? (isP si sp ki kp) with
  | some j =>
    rw [List.findIdx?_eq_some_iff_getElem] at e
    obtain ⟨hj, h1, h2⟩ := e
    have hl : l = l.take j ++ l[j] :: l.drop (j + 1) := by rw [← List.drop_eq_getElem_cons hj, List.take_append_drop]
    have hA : (l.take j).length = j := by rw [List.length_take]; omega
    refine ⟨l.take j, l[j], l.drop (j + 1), ?_, ?_⟩
    · rw [hA, ← hl]
    · rw [← hl]; exact h
  | none =>
    have he := holdW_evict h
    have hl := evictP_len h.len hr
    generalize evictP room l = l1 at *
    obtain ⟨t, u, k1, k2, k3, k4⟩ := free_cut l1 0 he.rise (fun b hb => by have := (he.po b hb).1; simpa using this)
    rw [Nat.zero_add] at k2
    generalize freeF 0 l1 = k at *
    subst k1 k2
    refine ⟨t, newP si sp ki kp t.length, u, ?_, ⟨?_, fun b hb => ?_, ?_⟩⟩
    · show (_, insP _ _ _) = _
      unfold insP
      rw [List.take_left, List.drop_left]
    · rw [List.length_append] at hl ⊢; rw [List.length_cons]; omega
    · rcases List.mem_append.1 hb with hb | hb
      · exact he.po b (by simp [hb])
      · rcases List.mem_cons.1 hb with rfl | hb
        · show 20000 ≤ 20000 + (t.length : Int) ∧ 20000 + (t.length : Int) < _
          rw [List.length_append] at hl
          omega
        · exact he.po b (by simp [hb])
    · obtain ⟨p1, p2, p3⟩ := List.pairwise_append.1 he.rise
      refine List.pairwise_append.2 ⟨p1, List.pairwise_cons.2 ⟨fun b hb => k4 b hb, p2⟩, fun a ha b hb => ?_⟩
      rcases List.mem_cons.1 hb with rfl | hb
      · exact k3 a ha
      · exact p3 a ha b hb
theorem holdW_out {m hold now si sp di dp : Int} {room : Nat} {l : List Pb} (h : HoldW room l) (hr : 1 ≤ room) :
    ∃ A x B, outP m hold room now si sp di dp l = (A.length, A ++ x :: B) ∧ HoldW room (A ++ x :: B) := by
  obtain ⟨A, x, B, h1, h2⟩ := holdW_find (si := si) (sp := sp) (ki := keyIP m di) (kp := keyPort m dp) (h.filter fun b => decide (now < b.un)) hr
  refine ⟨A, updP (now + hold) di dp x, B, ?_, holdW_mid h2 rfl⟩
  have h1' : findP room si sp (keyIP m di) (keyPort m dp) (sweepP now l) = (A.length, A ++ x :: B) := h1
  unfold outP
  rw [h1', mod_mid]
theorem holdW_in {f hold now port si sp : Int} {room : Nat} {l : List Pb} (h : HoldW room l) : HoldW room (inQ f hold now port si sp l).2 := by
  have h2 : HoldW room (sweepP now l) := h.filter fun b => decide (now < b.un)
  unfold inQ
  cases e : inP f now port si sp l with
  | none => exact h2
  | some j =>
    show HoldW room (modP (sweepP now l) j (untP (now + hold)))
    by_cases hj : j < (sweepP now l).length
    · have hl : sweepP now l = (sweepP now l).take j ++ (sweepP now l)[j] :: (sweepP now l).drop (j + 1) := by rw [← List.drop_eq_getElem_cons hj, List.take_append_drop]
      have hA : ((sweepP now l).take j).length = j := by rw [List.length_take]; omega
      generalize (sweepP now l).take j = A at *
      generalize (sweepP now l)[j] = x at *
      generalize (sweepP now l).drop (j + 1) = B at *
      rw [hl] at h2 ⊢
      subst hA
      rw [mod_mid]
      exact holdW_mid h2 rfl
    · unfold modP
      rw [List.modify_eq_self (by omega)]
      exact h2
theorem holdW_sweep {now : Int} {room : Nat} {l : List Pb} (h : HoldW room l) : HoldW room (sweepP now l) := h.filter fun b => decide (now < b.un)
theorem holdW_nil (room : Nat) : HoldW room [] := ⟨Nat.zero_le _, by simp, .nil⟩
end Go.Proofs.Ytnemmnndaoaadaa
