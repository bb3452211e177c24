/- Plain mathematics of NatboxHolds: ports rise, ends lie between now and now + hold, there is room; behind Out, and behind the answer to it. -/
import Derived.Test.YtnemmnndaoaadaaBoxIn
namespace Go.Proofs.Ytnemmnndaoaadaa
open Go.Sort Go.RowKit Go.BigFrame
set_option linter.unusedVariables false
set_option linter.unusedSimpArgs false

/-- the ends aside -/
structure HoldW (room : Nat) (l : List Pb) : Prop where
  len : l.length ≤ room
  po : ∀ b ∈ l, 20000 ≤ b.po ∧ b.po < 20000 + (room : Int)
  rise : l.Pairwise fun a b => a.po < b.po
structure HoldI (hold : Int) (room : Nat) (now : Int) (l : List Pb) : Prop where
  w : HoldW room l
  un : ∀ b ∈ l, now < b.un ∧ b.un ≤ now + hold
theorem HoldW.filter {room : Nat} {l : List Pb} (h : HoldW room l) (p : Pb → Bool) : HoldW room (l.filter p) :=
  ⟨Nat.le_trans (List.length_filter_le p l) h.len, fun b hb => h.po b (List.mem_filter.1 hb).1, h.rise.filter p⟩
theorem hold_sweep {hold now now' : Int} {room : Nat} {l : List Pb} (h : HoldI hold room now l) (hn : now ≤ now') : HoldI hold room now' (sweepP now' l) := by
  refine ⟨h.w.filter _, fun b hb => ?_⟩
  obtain ⟨h1, h2⟩ := List.mem_filter.1 hb
  have := (h.un b h1).2
  have := of_decide_eq_true h2
  exact ⟨this, by omega⟩
theorem evictP_len {room : Nat} {l : List Pb} (h : l.length ≤ room) (h1 : 1 ≤ room) : (evictP room l).length < room := by
  have e : (l.map fun b => ((b, ⟨none, 0, 0⟩) : Bd)).map (·.1) = l := by rw [List.map_map]; exact List.map_id _
  have k := evict_len (L := l.map fun b => ((b, ⟨none, 0, 0⟩) : Bd)) (room := room) (by rw [List.length_map]; exact h) h1
  have q := evict_fst room (l.map fun b => ((b, ⟨none, 0, 0⟩) : Bd))
  rw [e] at q
  rw [← q, List.length_map]; exact k
theorem hold_evict {hold now : Int} {room : Nat} {l : List Pb} (h : HoldI hold room now l) : HoldI hold room now (evictP room l) := by
  cases l with
  | nil => exact h
  | cons x l =>
    show HoldI hold room now (if l.length + 1 = room then (x :: l).filter (fun b => !portP (minP x l).po b) else x :: l)
    split
    · exact ⟨h.w.filter _, fun b hb => h.un b (List.mem_filter.1 hb).1⟩
    · exact h
theorem free_cut : ∀ (l : List Pb) (s : Nat), l.Pairwise (fun a b => a.po < b.po) → (∀ b ∈ l, 20000 + (s : Int) ≤ b.po) →
    ∃ t u, l = t ++ u ∧ s + t.length = freeF s l ∧ (∀ b ∈ t, b.po < 20000 + (freeF s l : Int)) ∧ (∀ b ∈ u, 20000 + (freeF s l : Int) < b.po)
  | [], s, _, _ => ⟨[], [], rfl, rfl, by simp, by simp⟩
  | b :: r, s, hp, hb => by
    obtain ⟨h1, h2⟩ := List.pairwise_cons.1 hp
    have hb0 := hb b (by simp)
    by_cases e : b.po = 20000 + (s : Int)
    · have ef : freeF s (b :: r) = freeF (s + 1) r := by show (if _ then _ else _) = _; rw [if_pos e]
      rw [ef]
      obtain ⟨t, u, k1, k2, k3, k4⟩ := free_cut r (s + 1) h2 (fun c hc => by have := h1 c hc; omega)
      refine ⟨b :: t, u, by rw [k1]; rfl, by simp only [List.length_cons]; omega, fun c hc => ?_, k4⟩
      rcases List.mem_cons.1 hc with rfl | hc
      · omega
      · exact k3 c hc
    · have ef : freeF s (b :: r) = s := by show (if _ then _ else _) = _; rw [if_neg e]
      rw [ef]
      refine ⟨[], b :: r, rfl, rfl, by simp, fun c hc => ?_⟩
      rcases List.mem_cons.1 hc with rfl | hc
      · omega
      · have := h1 c hc; omega
theorem mod_mid {A B : List Pb} {x : Pb} (f : Pb → Pb) : modP (A ++ x :: B) A.length f = A ++ f x :: B := by
  unfold modP
  induction A with
  | nil => rfl
  | cons a A ih => show a :: (A ++ x :: B).modify A.length f = _; rw [ih]; rfl
/-- the binding of (si, sp), found or new -/
theorem hold_find {hold now si sp ki kp : Int} {room : Nat} {l : List Pb} (h : HoldI hold room now l) (hr : 1 ≤ room) (hh : 1 ≤ hold) :
    ∃ A x B, findP room si sp ki kp l = (A.length, A ++ x :: B) ∧ x.ii = si ∧ x.ip = sp ∧ HoldW room (A ++ x :: B) ∧ (∀ b ∈ A, now < b.un ∧ b.un ≤ now + hold) ∧ (∀ b ∈ B, now < b.un ∧ b.un ≤ now + hold) := by
  unfold findP
  cases e : l.findIdx? (isP si sp ki kp) with
  | some j =>
    rw [List.findIdx?_eq_some_iff_getElem] at e
    obtain ⟨hj, h1, h2⟩ := e
    have hl : l = l.take j ++ l[j] :: l.drop (j + 1) := by rw [← List.drop_eq_getElem_cons hj, List.take_append_drop]
    have hA : (l.take j).length = j := by rw [List.length_take]; omega
    unfold isP at h1
    simp only [Bool.and_eq_true, decide_eq_true_eq] at h1
    refine ⟨l.take j, l[j], l.drop (j + 1), ?_, h1.1.1, h1.1.2, ?_, fun b hb => h.un b (List.mem_of_mem_take hb), fun b hb => h.un b (List.mem_of_mem_drop hb)⟩
    · rw [hA, ← hl]
    · rw [← hl]; exact h.w
  | none =>
    have he := hold_evict h
    have hl := evictP_len h.w.len hr
    generalize evictP room l = l1 at *
    obtain ⟨t, u, k1, k2, k3, k4⟩ := free_cut l1 0 he.w.rise (fun b hb => by have := (he.w.po b hb).1; simpa using this)
    rw [Nat.zero_add] at k2
    have hfl : freeF 0 l1 ≤ l1.length := by rw [k1] at k2 ⊢; rw [List.length_append]; omega
    generalize freeF 0 l1 = k at *
    subst k1 k2
    refine ⟨t, newP si sp ki kp t.length, u, ?_, rfl, rfl, ⟨?_, fun b hb => ?_, ?_⟩, fun b hb => he.un b (by simp [hb]), fun b hb => he.un b (by simp [hb])⟩
    · show (_, insP _ _ _) = _
      unfold insP
      rw [List.take_left, List.drop_left]
    · rw [List.length_append] at hl ⊢; rw [List.length_cons]; omega
    · rcases List.mem_append.1 hb with hb | hb
      · exact he.w.po b (by simp [hb])
      · rcases List.mem_cons.1 hb with rfl | hb
        · show 20000 ≤ 20000 + (t.length : Int) ∧ 20000 + (t.length : Int) < _
          rw [List.length_append] at hl
          omega
        · exact he.w.po b (by simp [hb])
    · obtain ⟨p1, p2, p3⟩ := List.pairwise_append.1 he.w.rise
      refine List.pairwise_append.2 ⟨p1, List.pairwise_cons.2 ⟨fun b hb => k4 b hb, p2⟩, fun a ha b hb => ?_⟩
      rcases List.mem_cons.1 hb with rfl | hb
      · exact k3 a ha
      · exact p3 a ha b hb
theorem meetP_in (met : List (Int × Int)) (d p : Int) : bothIn (meetP met d p) d p = true := by
  unfold meetP
  split
  · assumption
  · exact both_mem (by simp)
theorem po_mid {A B : List Pb} {x : Pb} : poAt (A ++ x :: B) A.length = x.po := by
  unfold poAt; simp
/-- behind Out -/
theorem hold_out {m hold now now' si sp di dp : Int} {room : Nat} {l : List Pb} (h : HoldI hold room now l) (hr : 1 ≤ room) (hh : 1 ≤ hold) (hn : now ≤ now') :
    ∃ A x B, outP m hold room now' si sp di dp l = (A.length, A ++ x :: B) ∧ x.ii = si ∧ x.ip = sp ∧ x.un = now' + hold ∧ bothIn x.met di dp = true ∧ HoldI hold room now' (A ++ x :: B) := by
  obtain ⟨A, x, B, h1, h2, h3, h4, h5, h6⟩ := hold_find (si := si) (sp := sp) (ki := keyIP m di) (kp := keyPort m dp) (hold_sweep h hn) hr hh
  refine ⟨A, updP (now' + hold) di dp x, B, ?_, h2, h3, rfl, meetP_in _ _ _, ⟨⟨?_, fun b hb => ?_, ?_⟩, fun b hb => ?_⟩⟩
  · unfold outP
    rw [h1, mod_mid]
  · have := h4.len
    simp only [List.length_append, List.length_cons] at this ⊢; exact this
  · rcases List.mem_append.1 hb with hb | hb
    · exact h4.po b (by simp [hb])
    · rcases List.mem_cons.1 hb with rfl | hb
      · exact h4.po x (by simp)
      · exact h4.po b (by simp [hb])
  · obtain ⟨p1, p2, p3⟩ := List.pairwise_append.1 h4.rise
    obtain ⟨q1, q2⟩ := List.pairwise_cons.1 p2
    refine List.pairwise_append.2 ⟨p1, List.pairwise_cons.2 ⟨q1, q2⟩, fun a ha b hb => ?_⟩
    rcases List.mem_cons.1 hb with rfl | hb
    · exact p3 a ha x (by simp)
    · exact p3 a ha b (by simp [hb])
  · rcases List.mem_append.1 hb with hb | hb
    · exact h5 b hb
    · rcases List.mem_cons.1 hb with rfl | hb
      · show now' < now' + hold ∧ now' + hold ≤ now' + hold
        omega
      · exact h6 b hb
theorem sweep_all {hold now : Int} {room : Nat} {l : List Pb} (h : HoldI hold room now l) : sweepP now l = l := by
  unfold sweepP
  rw [List.filter_eq_self]
  exact fun b hb => decide_eq_true (h.un b hb).1
theorem sweep_none {hold now : Int} {room : Nat} {l : List Pb} (h : HoldI hold room now l) : sweepP (now + hold) l = [] := by
  unfold sweepP
  rw [List.filter_eq_nil_iff]
  intro b hb
  have := (h.un b hb).2
  simp; omega
/-- behind In at the same time, from whom Out was to: who is inside is told, nothing turns -/
theorem hold_in {f hold now si sp di dp : Int} {room : Nat} {A B : List Pb} {x : Pb} (hf : 0 ≤ f ∧ f ≤ 2) (h1 : x.ii = si) (h2 : x.ip = sp) (h3 : x.un = now + hold) (h4 : bothIn x.met di dp = true) (h5 : HoldI hold room now (A ++ x :: B)) :
    inQ f hold now x.po di dp (A ++ x :: B) = ((si, sp, 0), A ++ x :: B) := by
  have hp : passT f x.met di dp = true := by
    unfold passT
    split
    · rfl
    · split
      · exact both_host h4
      · rw [if_pos (by omega)]; exact h4
  have hidx : (A ++ x :: B).findIdx? (portP x.po) = some A.length := by
    rw [List.findIdx?_eq_some_iff_getElem]
    refine ⟨by simp, by simp [portP], fun i hi => ?_⟩
    obtain ⟨p1, p2, p3⟩ := List.pairwise_append.1 h5.w.rise
    rw [List.getElem_append_left hi]
    have := p3 A[i] (List.getElem_mem hi) x (by simp)
    unfold portP
    simp; omega
  have hin : inP f now x.po di dp (A ++ x :: B) = some A.length := by
    unfold inP
    rw [sweep_all h5, hidx]
    simp [hp]
  have hu : untP (now + hold) x = x := by rw [← h3]; rfl
  unfold inQ
  rw [hin, sweep_all h5]
  show (((innAt (A ++ x :: B) A.length).1, (innAt (A ++ x :: B) A.length).2, 0), modP (A ++ x :: B) A.length (untP (now + hold))) = _
  rw [mod_mid, hu]
  have : innAt (A ++ x :: B) A.length = (x.ii, x.ip) := by unfold innAt; simp
  rw [this, h1, h2]
theorem hold_nil (hold : Int) (room : Nat) (now : Int) : HoldI hold room now [] := ⟨⟨Nat.zero_le _, by simp, .nil⟩, by simp⟩
end Go.Proofs.Ytnemmnndaoaadaa
