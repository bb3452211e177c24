/- Plain mathematics: who is suspected, by number. No program is read here. -/
import Derived.Test.YtplllaafllcigaaKit
namespace Go.Proofs.Ytplllaafllcigaa
set_option linter.unusedVariables false
set_option linter.unusedSimpArgs false

structure It where
  id : Int
  inc : Int
  since : Int
  hold : Int
  who : List Int
def zIt : It := ⟨0, 0, 0, 0, []⟩
def newD : Nat → It := fun _ => zIt
def updD (k : Nat → It) (i : Nat) (x : It) : Nat → It := fun j => if j = i then x else k j
def nodeI (i : Int) : Bool := decide (1 ≤ i) && decide (i ≤ 32)
def susp (x : It) : Bool := !(x.hold == 0)
def suspI (k : Nat → It) (i : Int) : Bool := nodeI i && susp (k i.toNat)
def untilI (x : It) : Int := x.since + (x.hold + x.who.length) / (x.who.length + 1)
def argB (i now hold : Int) : Bool := !nodeI i || decide (4611686018427387904 < now) || (hold == 0) || decide (1000000 < hold)
def beginE (k : Nat → It) (i inc now hold : Int) : Int := if argB i now hold = true then 1 else if suspI k i = true ∧ inc ≤ (k i.toNat).inc then 6 else 0
def beginD (k : Nat → It) (i inc now hold : Int) : Nat → It := if beginE k i inc now hold = 0 then updD k i.toNat ⟨i, inc, now, hold, []⟩ else k
def cntW (x : Int) (l : List Int) : Nat := l.findIdx fun y => !decide (y < x)
def insW (x : Int) (l : List Int) : List Int := l.take (cntW x l) ++ x :: l.drop (cntW x l)
def confE (k : Nat → It) (i inc who : Int) : Int := if nodeI who = false ∨ who = i then 1 else if suspI k i = false ∨ (k i.toNat).inc ≠ inc then 5 else if who ∈ (k i.toNat).who then 6 else 0
def confD (k : Nat → It) (i inc who : Int) : Nat → It := if confE k i inc who = 0 then updD k i.toNat { k i.toNat with who := insW who (k i.toNat).who } else k
def clearB (k : Nat → It) (i inc : Int) : Bool := suspI k i && decide ((k i.toNat).inc < inc)
def clearD (k : Nat → It) (i inc : Int) : Nat → It := if clearB k i inc = true then updD k i.toNat zIt else k
def untilV (k : Nat → It) (i : Int) : Int := if suspI k i = true then untilI (k i.toNat) else 0
def dueB (now : Int) (x : It) : Bool := susp x && decide (untilI x ≤ now)
def allL (k : Nat → It) : List It := ((List.range 33).map k).filter susp
def dueL (k : Nat → It) (now : Int) : List It := ((List.range 33).map k).filter (dueB now)
def restD (k : Nat → It) (now : Int) : Nat → It := fun i => if dueB now (k i) = true then zIt else k i

/-- what any doubt keeps -/
structure OkI (i : Nat) (x : It) : Prop where
  lo : 1 ≤ i
  hi : i ≤ 32
  id : x.id = i
  s0 : 0 ≤ x.since
  s1 : x.since ≤ 4611686018427387904
  h0 : 1 ≤ x.hold
  h1 : x.hold ≤ 1000000
  srt : x.who.Pairwise (· < ·)
  who : ∀ y ∈ x.who, 1 ≤ y ∧ y ≤ 32
structure OkD (k : Nat → It) : Prop where
  zero : ∀ i, susp (k i) = false → k i = zIt
  ok : ∀ i, susp (k i) = true → OkI i (k i)

theorem updD_same (k : Nat → It) (i : Nat) (x : It) : updD k i x i = x := by unfold updD; rw [if_pos rfl]
theorem updD_ne {k : Nat → It} {i j : Nat} {x : It} (h : j ≠ i) : updD k i x j = k j := by unfold updD; rw [if_neg h]
theorem updD_both (k : Nat → It) (i : Nat) (x y : It) : updD (updD k i x) i y = updD k i y := by
  funext j
  by_cases h : j = i
  · subst h; rw [updD_same, updD_same]
  · rw [updD_ne h, updD_ne h, updD_ne h]
theorem susp_z : susp zIt = false := rfl
theorem nodeI_iff {i : Int} : nodeI i = true ↔ 1 ≤ i ∧ i ≤ 32 := by unfold nodeI; simp only [Bool.and_eq_true, decide_eq_true_eq]
theorem nodeI_no {i : Int} (h : i < 1 ∨ 32 < i) : nodeI i = false := by
  cases e : nodeI i with
  | false => rfl
  | true => rw [nodeI_iff] at e; omega
theorem suspI_iff {k : Nat → It} {i : Int} : suspI k i = true ↔ 1 ≤ i ∧ i ≤ 32 ∧ susp (k i.toNat) = true := by
  unfold suspI; rw [Bool.and_eq_true, nodeI_iff, and_assoc]
theorem new_ok : OkD newD := ⟨fun _ _ => rfl, fun i h => by
  have : susp (newD i) = false := rfl
  rw [this] at h; simp at h⟩
theorem OkD.upd {k : Nat → It} (h : OkD k) {i : Nat} {x : It} (hz : susp x = false → x = zIt) (hx : susp x = true → OkI i x) : OkD (updD k i x) := by
  refine ⟨fun j hj => ?_, fun j hj => ?_⟩
  · by_cases e : j = i
    · subst e; rw [updD_same] at *; exact hz hj
    · rw [updD_ne e] at *; exact h.zero j hj
  · by_cases e : j = i
    · subst e; rw [updD_same] at *; exact hx hj
    · rw [updD_ne e] at *; exact h.ok j hj
theorem OkD.cut {k : Nat → It} (h : OkD k) (i : Nat) : OkD (updD k i zIt) := h.upd (fun _ => rfl) (fun e => by rw [susp_z] at e; simp at e)
theorem begin_arg {i now hold : Int} (h : argB i now hold = false) : 1 ≤ i ∧ i ≤ 32 ∧ now ≤ 4611686018427387904 ∧ hold ≠ 0 ∧ hold ≤ 1000000 := by
  unfold argB at h
  simp only [Bool.or_eq_false_iff, Bool.not_eq_false', decide_eq_false_iff_not, beq_eq_false_iff_ne] at h
  obtain ⟨⟨⟨h1, h2⟩, h3⟩, h4⟩ := h
  rw [nodeI_iff] at h1
  exact ⟨h1.1, h1.2, by omega, h3, by omega⟩
theorem begin_zero {k : Nat → It} {i inc now hold : Int} (h : beginE k i inc now hold = 0) : argB i now hold = false := by
  unfold beginE at h
  split at h
  · simp at h
  · rename_i e; simpa using e
theorem begin_ok {k : Nat → It} (h : OkD k) (i inc now hold : Int) (hn : 0 ≤ now) (hh : 0 ≤ hold) : OkD (beginD k i inc now hold) := by
  unfold beginD
  split
  · rename_i e
    have ha := begin_arg (begin_zero e)
    refine h.upd (fun e2 => ?_) (fun _ => ⟨by omega, by omega, by simp; omega, hn, ha.2.2.1, by simp; omega, ha.2.2.2.2, List.Pairwise.nil, by simp⟩)
    unfold susp at e2
    simp at e2
    exact absurd e2 ha.2.2.2.1
  · exact h
theorem clear_ok {k : Nat → It} (h : OkD k) (i inc : Int) : OkD (clearD k i inc) := by
  unfold clearD
  split
  · exact h.cut _
  · exact h
theorem rest_ok {k : Nat → It} (h : OkD k) (now : Int) : OkD (restD k now) := by
  refine ⟨fun i hi => ?_, fun i hi => ?_⟩
  · unfold restD at *
    split
    · rfl
    · rename_i e; rw [if_neg e] at hi; exact h.zero i hi
  · unfold restD at *
    split
    · rename_i e; rw [if_pos e, susp_z] at hi; simp at hi
    · rename_i e; rw [if_neg e] at hi; exact h.ok i hi

/-! who confirms: a list that rises -/
theorem cnt_le (x : Int) (l : List Int) : cntW x l ≤ l.length := List.findIdx_le_length
theorem cnt_on {x : Int} {l : List Int} {j : Nat} {y : Int} (hx : l[j]? = some y) (hj : j ≤ cntW x l) (h : y < x) : j + 1 ≤ cntW x l := by
  rcases Nat.lt_or_ge j (cntW x l) with h1 | h1
  · exact h1
  · have e : cntW x l = j := by omega
    obtain ⟨h2, h3⟩ := List.getElem?_eq_some_iff.1 hx
    have := List.findIdx_getElem (p := fun y => !decide (y < x)) (xs := l) (w := by show cntW x l < _; omega)
    have h4 : l[List.findIdx (fun y => !decide (y < x)) l]? = some y := by show l[cntW x l]? = some y; rw [e]; exact hx
    obtain ⟨h5, h6⟩ := List.getElem?_eq_some_iff.1 h4
    rw [h6] at this
    simp [h] at this
theorem cnt_here {x : Int} {l : List Int} {j : Nat} {y : Int} (hx : l[j]? = some y) (hj : j ≤ cntW x l) (h : ¬ y < x) : cntW x l = j := by
  refine Nat.le_antisymm ?_ hj
  rcases Nat.lt_or_ge j (cntW x l) with h1 | h1
  · have := List.not_of_lt_findIdx h1
    obtain ⟨h2, h3⟩ := List.getElem?_eq_some_iff.1 hx
    rw [h3] at this
    simp [h] at this
  · exact h1
theorem cnt_lt {x : Int} {l : List Int} {j : Nat} {y : Int} (hx : l[j]? = some y) (hj : j < cntW x l) : y < x := by
  have := List.not_of_lt_findIdx hj
  obtain ⟨h2, h3⟩ := List.getElem?_eq_some_iff.1 hx
  rw [h3] at this
  simpa using this
theorem cnt_ge {x : Int} {l : List Int} (hs : l.Pairwise (· < ·)) {j : Nat} {y : Int} (hx : l[j]? = some y) (hj : cntW x l ≤ j) : x ≤ y := by
  obtain ⟨h2, h3⟩ := List.getElem?_eq_some_iff.1 hx
  have hc : cntW x l < l.length := by omega
  have := List.findIdx_getElem (p := fun y => !decide (y < x)) (xs := l) (w := hc)
  have h4 : ¬ l[cntW x l] < x := by
    intro hlt
    have h7 : (!decide (l[cntW x l] < x)) = true := this
    simp [hlt] at h7
  rcases Nat.lt_or_ge (cntW x l) j with h5 | h5
  · have := List.pairwise_iff_getElem.1 hs _ _ hc h2 h5
    omega
  · have e : cntW x l = j := by omega
    simp only [e, h3] at h4
    omega
theorem cnt_countP {x : Int} : ∀ {l : List Int}, l.Pairwise (· < ·) → l.countP (fun y => decide (y < x)) = cntW x l
  | [], _ => rfl
  | y :: l, h => by
    have hs := List.pairwise_cons.1 h
    unfold cntW
    rw [List.findIdx_cons]
    by_cases hy : y < x
    · rw [List.countP_cons_of_pos (by simpa using hy), cnt_countP hs.2]
      simp [hy, cntW]
    · have h0 : l.countP (fun y => decide (y < x)) = 0 := by
        rw [List.countP_eq_zero]
        intro z hz
        have := hs.1 z hz
        simp; omega
      rw [List.countP_cons_of_neg (by simpa using hy), h0]
      simp [hy]
/-- is it there: at its place -/
theorem mem_cnt {x : Int} {l : List Int} (hs : l.Pairwise (· < ·)) : x ∈ l ↔ l[cntW x l]? = some x := by
  constructor
  · intro h
    obtain ⟨j, hj⟩ := List.mem_iff_getElem?.1 h
    have h1 : j = cntW x l := by
      rcases Nat.lt_trichotomy j (cntW x l) with h2 | h2 | h2
      · have := cnt_lt hj h2; omega
      · exact h2
      · have hl : j < l.length := (List.getElem?_eq_some_iff.1 hj).1
        have hc : cntW x l < l.length := by omega
        have h3 := cnt_ge hs (List.getElem?_eq_getElem hc) (Nat.le_refl _)
        have h4 := List.pairwise_iff_getElem.1 hs _ _ hc hl h2
        have h5 := (List.getElem?_eq_some_iff.1 hj).2
        omega
    rw [← h1]; exact hj
  · intro h
    exact List.mem_iff_getElem?.2 ⟨_, h⟩
theorem mem_take_cnt {x : Int} {l : List Int} {y : Int} (h : y ∈ l.take (cntW x l)) : y < x := by
  obtain ⟨j, hj⟩ := List.mem_iff_getElem?.1 h
  rw [List.getElem?_take] at hj
  split at hj
  · rename_i e; exact cnt_lt hj e
  · cases hj
theorem mem_drop_cnt {x : Int} {l : List Int} (hs : l.Pairwise (· < ·)) {y : Int} (h : y ∈ l.drop (cntW x l)) : x ≤ y := by
  obtain ⟨j, hj⟩ := List.mem_iff_getElem?.1 h
  rw [List.getElem?_drop] at hj
  exact cnt_ge hs hj (by omega)
theorem ins_sorted {x : Int} {l : List Int} (hs : l.Pairwise (· < ·)) (hx : x ∉ l) : (insW x l).Pairwise (· < ·) := by
  unfold insW
  rw [List.pairwise_append]
  refine ⟨hs.sublist (List.take_sublist _ _), List.pairwise_cons.2 ⟨fun y hy => ?_, hs.sublist (List.drop_sublist _ _)⟩, fun a ha b hb => ?_⟩
  · have h1 := mem_drop_cnt hs hy
    have h2 : x ≠ y := fun e => hx (by rw [e]; exact List.mem_of_mem_drop hy)
    omega
  · have h1 := mem_take_cnt ha
    rcases List.mem_cons.1 hb with rfl | hb
    · exact h1
    · have := mem_drop_cnt hs hb; omega
theorem ins_mem {x y : Int} {l : List Int} (h : y ∈ insW x l) : y = x ∨ y ∈ l := by
  unfold insW at h
  rcases List.mem_append.1 h with h | h
  · exact .inr (List.mem_of_mem_take h)
  · rcases List.mem_cons.1 h with h | h
    · exact .inl h
    · exact .inr (List.mem_of_mem_drop h)
theorem ins_len (x : Int) (l : List Int) : (insW x l).length = l.length + 1 := by
  have := cnt_le x l
  unfold insW; rw [List.length_append, List.length_cons, List.length_take, List.length_drop]; omega
theorem sorted_len : ∀ (l : List Int) (a : Int), l.Pairwise (· < ·) → (∀ x ∈ l, a ≤ x ∧ x ≤ 32) → (l.length : Int) ≤ 33 - a ∨ l = []
  | [], _, _, _ => .inr rfl
  | x :: l, a, h, hb => by
    left
    have hs := List.pairwise_cons.1 h
    have h1 := hb x (by simp)
    rcases sorted_len l (x + 1) hs.2 (fun y hy => ⟨by have := hs.1 y hy; omega, (hb y (by simp [hy])).2⟩) with h2 | rfl
    · simp only [List.length_cons]; omega
    · simp only [List.length_cons, List.length_nil]; omega
theorem OkI.len {i : Nat} {x : It} (h : OkI i x) : x.who.length ≤ 32 := by
  rcases sorted_len x.who 1 h.srt h.who with h1 | h1
  · omega
  · rw [h1]; simp
theorem OkD.len {k : Nat → It} (h : OkD k) (i : Nat) : (k i).who.length ≤ 32 := by
  cases e : susp (k i) with
  | true => exact (h.ok i e).len
  | false => rw [h.zero i e]; simp [zIt]
theorem conf_ok {k : Nat → It} (h : OkD k) (i inc who : Int) : OkD (confD k i inc who) := by
  unfold confD
  split
  · rename_i e
    unfold confE at e
    split at e
    · simp at e
    · rename_i e1
      split at e
      · simp at e
      · rename_i e2
        split at e
        · simp at e
        · rename_i e3
          simp only [not_or, Bool.not_eq_false, ne_eq, Decidable.not_not] at e1 e2
          obtain ⟨e1, _⟩ := e1
          obtain ⟨e2, _⟩ := e2
          have hw := nodeI_iff.1 e1
          have hi := suspI_iff.1 e2
          have ho := h.ok _ hi.2.2
          refine h.upd (fun e4 => ?_) (fun _ => ⟨ho.lo, ho.hi, ho.id, ho.s0, ho.s1, ho.h0, ho.h1, ins_sorted ho.srt e3, fun y hy => ?_⟩)
          · have : susp (k i.toNat) = false := e4
            rw [hi.2.2] at this; simp at this
          · rcases ins_mem hy with rfl | hy
            · exact hw
            · exact ho.who y hy
  · exact h

/-! all of them, in a list -/
theorem range_cut {i n : Nat} (h : i < n) : List.range n = List.range i ++ i :: List.range' (i + 1) (n - (i + 1)) := by
  rw [List.range_eq_range', List.range_eq_range']
  have h1 := List.range'_append (s := 0) (m := i) (n := n - i) (step := 1)
  simp only [Nat.zero_add, Nat.one_mul] at h1
  rw [show i + (n - i) = n by omega] at h1
  rw [← h1, show n - i = (n - (i + 1)) + 1 by omega, List.range'_succ]
def loL (p : It → Bool) (k : Nat → It) (i : Nat) : List It := ((List.range i).map k).filter p
def hiL (p : It → Bool) (k : Nat → It) (i : Nat) : List It := ((List.range' (i + 1) (33 - (i + 1))).map k).filter p
theorem cut_at (p : It → Bool) (k : Nat → It) {i : Nat} (h : i < 33) : ((List.range 33).map k).filter p = loL p k i ++ (if p (k i) = true then [k i] else []) ++ hiL p k i := by
  rw [range_cut h, List.map_append, List.map_cons, List.filter_append, List.filter_cons]
  unfold loL hiL
  split <;> simp
theorem map_upd {k : Nat → It} {i : Nat} {x : It} : ∀ {l : List Nat}, i ∉ l → l.map (updD k i x) = l.map k
  | [], _ => rfl
  | a :: l, h => by
    rw [List.map_cons, List.map_cons, map_upd (fun e => h (by simp [e])), updD_ne (fun e => h (by simp [e]))]
theorem lo_upd (p : It → Bool) (k : Nat → It) (i : Nat) (x : It) : loL p (updD k i x) i = loL p k i := by
  unfold loL; rw [map_upd (by simp)]
theorem hi_upd (p : It → Bool) (k : Nat → It) (i : Nat) (x : It) : hiL p (updD k i x) i = hiL p k i := by
  unfold hiL; rw [map_upd (by rw [List.mem_range'_1]; omega)]
theorem lo_yes {p : It → Bool} {k : Nat → It} {i : Nat} (h : p (k i) = true) : loL p k (i + 1) = loL p k i ++ [k i] := by
  unfold loL; rw [List.range_succ, List.map_append, List.filter_append]; simp [h]
theorem lo_no {p : It → Bool} {k : Nat → It} {i : Nat} (h : p (k i) = false) : loL p k (i + 1) = loL p k i := by
  unfold loL; rw [List.range_succ, List.map_append, List.filter_append]; simp [h]
theorem lo_len (p : It → Bool) (k : Nat → It) (i : Nat) : (loL p k i).length ≤ i := by
  unfold loL
  have := List.length_filter_le p ((List.range i).map k)
  rw [List.length_map, List.length_range] at this
  exact this
theorem all_len (k : Nat → It) : (allL k).length ≤ 33 := lo_len susp k 33
theorem mem_lo {p : It → Bool} {k : Nat → It} {i : Nat} {x : It} (h : x ∈ loL p k i) : ∃ j, j < i ∧ x = k j ∧ p (k j) = true := by
  unfold loL at h
  rw [List.mem_filter] at h
  obtain ⟨j, hj, rfl⟩ := List.mem_map.1 h.1
  exact ⟨j, by simpa using hj, rfl, h.2⟩
theorem mem_hi {p : It → Bool} {k : Nat → It} {i : Nat} {x : It} (h : x ∈ hiL p k i) : ∃ j, i < j ∧ j < 33 ∧ x = k j ∧ p (k j) = true := by
  unfold hiL at h
  rw [List.mem_filter] at h
  obtain ⟨j, hj, rfl⟩ := List.mem_map.1 h.1
  rw [List.mem_range'_1] at hj
  exact ⟨j, by omega, by omega, rfl, h.2⟩
theorem mem_all {k : Nat → It} (h : OkD k) {x : It} (hx : x ∈ allL k) : ∃ j, 1 ≤ j ∧ j ≤ 32 ∧ x = k j ∧ susp (k j) = true := by
  obtain ⟨j, hj, rfl, hs⟩ := mem_lo (i := 33) hx
  exact ⟨j, (h.ok j hs).lo, (h.ok j hs).hi, rfl, hs⟩
theorem all_rest (k : Nat → It) (now : Int) : allL (restD k now) = (allL k).filter fun x => !dueB now x := by
  unfold allL
  generalize List.range 33 = l
  induction l with
  | nil => rfl
  | cons a l ih =>
    rw [List.map_cons, List.map_cons, List.filter_cons, List.filter_cons]
    cases e : dueB now (k a) with
    | true =>
      have hs : susp (k a) = true := by unfold dueB at e; rw [Bool.and_eq_true] at e; exact e.1
      have h1 : restD k now a = zIt := by unfold restD; rw [if_pos e]
      rw [h1, susp_z, hs, if_neg (by simp), if_pos rfl, List.filter_cons, e, if_neg (by simp)]
      exact ih
    | false =>
      have h1 : restD k now a = k a := by unfold restD; rw [if_neg (by simp [e])]
      rw [h1]
      cases hs : susp (k a) with
      | true =>
        rw [if_pos rfl, if_pos rfl, List.filter_cons, e, if_pos (by simp)]
        exact congrArg _ ih
      | false =>
        rw [if_neg (by simp), if_neg (by simp)]
        exact ih
theorem due_all (k : Nat → It) (now : Int) : dueL k now = (allL k).filter (dueB now) := by
  unfold dueL allL
  rw [List.filter_filter]
  congr 1
  funext x
  unfold dueB
  cases susp x <;> simp
theorem until_le {i : Nat} {x : It} (h : OkI i x) : x.since < untilI x ∧ untilI x ≤ x.since + x.hold := by
  unfold untilI
  have h1 := h.h0
  have hn : (0 : Int) < (x.who.length : Int) + 1 := by omega
  have h2 : 1 ≤ (x.hold + x.who.length) / ((x.who.length : Int) + 1) := by
    rw [Int.le_ediv_iff_mul_le hn]; omega
  have h3 : (x.hold + x.who.length) / ((x.who.length : Int) + 1) < x.hold + 1 := by
    rw [Int.ediv_lt_iff_lt_mul hn]
    have : (0 : Int) ≤ x.hold * x.who.length := Int.mul_nonneg (by omega) (by omega)
    rw [Int.add_mul, Int.mul_add]
    omega
  omega
theorem due_ever {k : Nat → It} (h : OkD k) : dueL k 18446744073709551615 = allL k := by
  rw [due_all]
  rw [List.filter_eq_self]
  intro x hx
  obtain ⟨j, _, _, rfl, hs⟩ := mem_all h hx
  have h1 := until_le (h.ok j hs)
  have h2 := (h.ok j hs).s1
  have h3 := (h.ok j hs).h1
  unfold dueB
  rw [hs, Bool.true_and]
  exact decide_eq_true (by omega)
end Go.Proofs.Ytplllaafllcigaa
