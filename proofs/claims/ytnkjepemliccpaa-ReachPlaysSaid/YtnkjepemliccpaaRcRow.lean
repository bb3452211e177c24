/- A reach in memory: one block; an array of 33 votes, an array of eight rounds. -/
import Derived.Test.YtnkjepemliccpaaHold
import Derived.Test.YtnkjepemliccpaaRcMath
import Derived.Deep.WholeRow
import Derived.Laws.Tables
namespace Go.Proofs.Ytnkjepemliccpaa
open Go.Sort Go.RowKit Go.BigFrame
set_option linter.unusedVariables false
set_option linter.unusedSimpArgs false

/-- the four cells of a vote -/
def cv (v : Vt) : List Value := [.int .i64 v.who, .int .u32 v.ip, .int .u16 v.pt, .int .u64 v.tm]
theorem cv_len (v : Vt) : (cv v).length = 4 := rfl
theorem cv_ones (v : Vt) : ∀ u ∈ cv v, u.oneCell' = true := by
  intro u hu
  simp only [cv, List.mem_cons, List.not_mem_nil, or_false] at hu
  rcases hu with rfl | rfl | rfl | rfl <;> rfl
def vsL (f : Nat → Vt) : List (List Value) := (List.range 33).map fun i => cv (f i)
def hdL (k : Rc) : List Value := [.int .i64 k.rounds, .int .u64 k.hold]
def pastL (p : List Bool) : List Value := (List.range 8).map fun i => .bool (p.getD i false)
def tlL (k : Rc) : List Value := [.int .i64 k.past.length, .bool k.on, .int .u32 k.seq, .bool k.got]
def cR (k : Rc) : List Value := hdL k ++ ((vsL k.vote).flatten ++ (pastL k.past ++ tlL k))
theorem vs4 (f : Nat → Vt) : ∀ c ∈ vsL f, c.length = 4 := by
  intro c hc
  obtain ⟨i, _, rfl⟩ := List.mem_map.1 hc
  rfl
theorem vs_len (f : Nat → Vt) : (vsL f).flatten.length = 132 := by
  rw [flatten_len (z := 4) _ (vs4 f)]; unfold vsL; rw [List.length_map, List.length_range]
theorem past_len (p : List Bool) : (pastL p).length = 8 := by unfold pastL; rw [List.length_map, List.length_range]
theorem cR_len (k : Rc) : (cR k).length = 146 := by
  unfold cR; rw [List.length_append, List.length_append, List.length_append, vs_len, past_len]; rfl
theorem cR_hd (k : Rc) {n : Nat} {u : Value} (h : (hdL k)[n]? = some u) : (cR k)[n]? = some u := by
  have hn := (List.getElem?_eq_some_iff.1 h).1
  unfold cR; rw [List.getElem?_append_left hn]; exact h
theorem cR_vs (k : Rc) {n : Nat} (hn : n < 132) : (cR k)[2 + n]? = (vsL k.vote).flatten[n]? := by
  unfold cR
  rw [List.getElem?_append_right (by show 2 ≤ 2 + n; omega), List.getElem?_append_left (by rw [vs_len]; show 2 + n - 2 < 132; omega)]
  congr 1; show 2 + n - 2 = n; omega
theorem cR_vote (k : Rc) {i j : Nat} {u : Value} (hi : i < 33) (h : (cv (k.vote i))[j]? = some u) : (cR k)[2 + (i * 4 + j)]? = some u := by
  have hj : j < 4 := (List.getElem?_eq_some_iff.1 h).1
  rw [cR_vs k (by omega), flatten_at (z := 4) _ (vs4 k.vote) i j hj (cv (k.vote i)) (by unfold vsL; rw [List.getElem?_map, List.getElem?_range hi]; rfl)]
  exact h
theorem cR_rest (k : Rc) (n : Nat) : (cR k)[134 + n]? = (pastL k.past ++ tlL k)[n]? := by
  unfold cR
  have h2 : (hdL k).length = 2 := rfl
  rw [List.getElem?_append_right (by omega), List.getElem?_append_right (by rw [vs_len]; omega), vs_len]
  have : 134 + n - (hdL k).length - 132 = n := by
    have : (hdL k).length = 2 := rfl
    omega
  rw [this]
theorem past_at (p : List Bool) {i : Nat} (hi : i < 8) : (pastL p)[i]? = some (.bool (p.getD i false)) := by
  unfold pastL; rw [List.getElem?_map, List.getElem?_range hi]; rfl
theorem cR_past (k : Rc) {i : Nat} (hi : i < 8) : (cR k)[134 + i]? = some (.bool (k.past.getD i false)) := by
  rw [cR_rest, List.getElem?_append_left (by rw [past_len]; exact hi)]; exact past_at _ hi
theorem cR_tl (k : Rc) {n : Nat} {u : Value} (h : (tlL k)[n]? = some u) : (cR k)[142 + n]? = some u := by
  rw [show 142 + n = 134 + (8 + n) by omega, cR_rest, List.getElem?_append_right (by rw [past_len]; omega), past_len, show 8 + n - 8 = n by omega]; exact h
theorem cR_ones (k : Rc) : ∀ u ∈ cR k, u.oneCell' = true := by
  intro u hu
  unfold cR at hu
  rcases List.mem_append.1 hu with hu | hu
  · simp only [hdL, List.mem_cons, List.not_mem_nil, or_false] at hu
    rcases hu with rfl | rfl <;> rfl
  · rcases List.mem_append.1 hu with hu | hu
    · obtain ⟨c, hc, hu⟩ := List.mem_flatten.1 hu
      obtain ⟨i, _, rfl⟩ := List.mem_map.1 hc
      exact cv_ones _ u hu
    · rcases List.mem_append.1 hu with hu | hu
      · obtain ⟨i, _, rfl⟩ := List.mem_map.1 hu; rfl
      · simp only [tlL, List.mem_cons, List.not_mem_nil, or_false] at hu
        rcases hu with rfl | rfl | rfl | rfl <;> rfl
theorem splice_mid {α : Type} (A B C vs : List α) {a : Nat} (ha : A.length = a) (o : Nat) (h : o + vs.length ≤ B.length) : splice (A ++ (B ++ C)) (a + o) vs = A ++ (splice B o vs ++ C) := by
  subst ha
  simp only [splice]
  rw [List.take_append, List.take_append, List.drop_append, List.drop_append]
  rw [List.take_of_length_le (show A.length ≤ A.length + o by omega), List.drop_eq_nil_of_le (show A.length ≤ A.length + o + vs.length by omega)]
  rw [show A.length + o - A.length = o by omega, show A.length + o + vs.length - A.length = o + vs.length by omega]
  rw [show o - B.length = 0 by omega, show o + vs.length - B.length = 0 by omega]
  simp only [List.take_zero, List.drop_zero, List.append_nil, List.nil_append, List.append_assoc]
theorem set_mid {α : Type} (A B : List α) {a : Nat} (ha : A.length = a) (o : Nat) (v : α) : (A ++ B).set (a + o) v = A ++ B.set o v := by
  subst ha
  rw [List.set_append_right _ _ (by omega)]
  congr 2; omega
theorem set_mid3 {α : Type} (A B C : List α) {a : Nat} (ha : A.length = a) (o : Nat) (v : α) (h : o < B.length) : (A ++ (B ++ C)).set (a + o) v = A ++ (B.set o v ++ C) := by
  rw [set_mid A _ ha, List.set_append_left _ _ h]
theorem vs_set (f : Nat → Vt) (i : Nat) (x : Vt) (hi : i < 33) : (vsL f).set i (cv x) = vsL (updV f i x) := by
  unfold vsL
  apply List.ext_getElem?
  intro j
  rw [List.getElem?_set]
  by_cases hj : i = j
  · subst hj
    rw [if_pos rfl, if_pos (by simpa using hi), List.getElem?_map, List.getElem?_range hi]
    simp [updV_same]
  · rw [if_neg hj, List.getElem?_map, List.getElem?_map]
    by_cases h2 : j < 33
    · rw [List.getElem?_range h2]; simp [updV_ne (fun e => hj e.symm)]
    · rw [List.getElem?_eq_none (by simpa using h2)]; rfl
/-- a vote is another one -/
theorem cR_put (k : Rc) {i : Nat} (hi : i < 33) (x : Vt) : splice (cR k) (2 + i * 4) (cv x) = cR { k with vote := updV k.vote i x } := by
  unfold cR
  rw [splice_mid (hdL k) _ _ (cv x) (a := 2) rfl (i * 4) (by rw [vs_len, cv_len]; omega)]
  have h4 := flatten_splice (z := 4) (vsL k.vote) [cv x] (vs4 k.vote) (by simp [cv]) i
  rw [splice_one _ _ _ (by unfold vsL; simpa using hi)] at h4
  simp only [List.flatten_cons, List.flatten_nil, List.append_nil] at h4
  rw [h4, vs_set _ _ _ hi]
  rfl
theorem cR_set_on (k : Rc) (b : Bool) : (cR k).set 143 (.bool b) = cR { k with on := b } := by
  have h : cR k = (hdL k ++ ((vsL k.vote).flatten ++ pastL k.past)) ++ tlL k := by unfold cR; simp only [List.append_assoc]
  rw [h, set_mid _ _ (a := 142) (by rw [List.length_append, List.length_append, vs_len, past_len]; rfl) 1]
  unfold cR; simp only [List.append_assoc]; rfl
theorem cR_set_seq (k : Rc) (s : Int) : (cR k).set 144 (.int .u32 s) = cR { k with seq := s } := by
  have h : cR k = (hdL k ++ ((vsL k.vote).flatten ++ pastL k.past)) ++ tlL k := by unfold cR; simp only [List.append_assoc]
  rw [h, set_mid _ _ (a := 142) (by rw [List.length_append, List.length_append, vs_len, past_len]; rfl) 2]
  unfold cR; simp only [List.append_assoc]; rfl
theorem cR_set_got (k : Rc) (b : Bool) : (cR k).set 145 (.bool b) = cR { k with got := b } := by
  have h : cR k = (hdL k ++ ((vsL k.vote).flatten ++ pastL k.past)) ++ tlL k := by unfold cR; simp only [List.append_assoc]
  rw [h, set_mid _ _ (a := 142) (by rw [List.length_append, List.length_append, vs_len, past_len]; rfl) 3]
  unfold cR; simp only [List.append_assoc]; rfl
/-- a round is over: the rounds are moved by one, the newest one is the first -/
theorem past_end {p : List Bool} {r : Nat} (b : Bool) (hr : 1 ≤ r) (h8 : r ≤ 8) (hp : p.length ≤ r) : (splice (pastL p) 1 ((pastL p).take (r - 1))).set 0 (.bool b) = pastL ((b :: p).take r) := by
  have hl : ((pastL p).take (r - 1)).length = r - 1 := by rw [List.length_take, past_len]; omega
  have h1 : (splice (pastL p) 1 ((pastL p).take (r - 1))).length = 8 := by
    rw [length_splice _ _ _ (by rw [hl, past_len]; omega), past_len]
  apply List.ext_getElem?
  intro j
  by_cases hj : j < 8
  · rw [past_at _ hj, List.getElem?_set]
    have h2 : ((b :: p).take r).getD j false = if j < r then (b :: p).getD j false else false := by
      rw [List.getD_eq_getElem?_getD, List.getElem?_take]
      split
      · rw [List.getD_eq_getElem?_getD]
      · rfl
    rw [h2]
    by_cases h0 : 0 = j
    · subst h0
      rw [if_pos rfl, if_pos (by omega), if_pos (by omega)]
      simp
    · rw [if_neg h0]
      obtain ⟨m, rfl⟩ : ∃ m, j = m + 1 := ⟨j - 1, by omega⟩
      simp only [splice]
      have ht : (List.take 1 (pastL p)).length = 1 := by rw [List.length_take, past_len]; rfl
      rw [List.getElem?_append_right (by omega), ht, show m + 1 - 1 = m by omega]
      by_cases hm : m + 1 < r
      · rw [if_pos hm, List.getElem?_append_left (by omega), List.getElem?_take, if_pos (by omega), past_at _ (by omega)]
        simp
      · rw [if_neg hm, List.getElem?_append_right (by omega), hl, List.getElem?_drop, show 1 + (r - 1) + (m - (r - 1)) = m + 1 by omega, past_at _ hj]
        rw [List.getD_eq_getElem?_getD, List.getElem?_eq_none (by omega)]
        rfl
  · rw [List.getElem?_eq_none (by rw [List.length_set]; omega), List.getElem?_eq_none (by rw [past_len]; omega)]
theorem heap_lt' {w : World} {g : Nat} {o : Obj} (h : w.heap[g]? = some o) : g < w.heap.size := by
  rcases Nat.lt_or_ge g w.heap.size with h1 | h1
  · exact h1
  · rw [Array.getElem?_eq_none h1] at h; cases h
/-- the program's reach -/
structure Rs (g : Nat) (k : Rc) (w : World) : Prop where
  heap : w.heap[g]? = some (.cells (cR k).toArray 73 (0, 0))
  ok : OkR k
section
variable {g : Nat} {k k' : Rc} {w w' w2 : World} {F : Nat → Prop}
theorem Rs.lt (h : Rs g k w) : g < w.heap.size := heap_lt' h.heap
theorem Rs.free (h : Rs g k w) (o : Nat) : w.frozen? ⟨g, o, none⟩ = false := frozen_of_row w g o _ _ h.heap
theorem Rs.touch (h : Rs g k w) (ht : Touch F w w') (hF : ¬ F g) : Rs g k w' := ⟨(ht.block g h.lt hF).trans h.heap, h.ok⟩
theorem Rs.keep (h : Rs g k w) (hb : Below w.heap.size w w') : Rs g k w' := h.touch (Touch.of_below (fun _ => False) hb) (fun h => h)
theorem Rs.at_ (h : Rs g k w) {n : Nat} {u : Value} (hu : (cR k)[n]? = some u) : w.cell? ⟨g, n, none⟩ = some u := by
  rw [cell_of_row w g _ _ _ _ h.heap, List.getElem?_toArray]; exact hu
theorem Rs.hd (h : Rs g k w) (n : Nat) (u : Value) (hu : (hdL k)[n]? = some u) : w.cell? ⟨g, n, none⟩ = some u := h.at_ (cR_hd k hu)
theorem Rs.vote (h : Rs g k w) (i : Nat) (hi : i < 33) (j : Nat) (u : Value) (hu : (cv (k.vote i))[j]? = some u) : w.cell? ⟨g, 2 + i * 4 + j, none⟩ = some u := by rw [Nat.add_assoc]; exact h.at_ (cR_vote k hi hu)
theorem Rs.past (h : Rs g k w) (i : Nat) (hi : i < 8) : w.cell? ⟨g, 134 + i, none⟩ = some (.bool (k.past.getD i false)) := h.at_ (cR_past k hi)
theorem Rs.tl (h : Rs g k w) (n : Nat) (u : Value) (hu : (tlL k)[n]? = some u) : w.cell? ⟨g, 142 + n, none⟩ = some u := h.at_ (cR_tl k hu)
end
/-- behind a call: it holds k', and nothing turned but its own block -/
def RAft (g : Nat) (k' : Rc) (w w' : World) : Prop := Rs g k' w' ∧ Touch (fun b => b = g) w w'
section
variable {g : Nat} {k k' k2 : Rc} {w w1 w' : World}
theorem Rs.same (h : Rs g k w) (hb : Below w.heap.size w w') : RAft g k w w' := ⟨h.keep hb, Touch.of_below _ hb⟩
theorem RAft.after (hb : Below w.heap.size w w1) (h : RAft g k' w1 w') : RAft g k' w w' := ⟨h.1, (Touch.of_below _ hb).trans h.2 (fun _ _ h => h)⟩
theorem RAft.then_ (h : RAft g k' w w1) (hb : Below w1.heap.size w1 w') : RAft g k' w w' := ⟨h.1.keep hb, h.2.trans (Touch.of_below _ hb) (fun _ _ h => h)⟩
theorem RAft.trans (h : RAft g k2 w w1) (h2 : RAft g k' w1 w') : RAft g k' w w' := ⟨h2.1, h.2.trans h2.2 (fun _ _ h => h)⟩
theorem Rs.set (h : Rs g k w) (n : Nat) (v : Value) (he : (cR k).set n v = cR k') (hok : OkR k') : RAft g k' w (w.setCell ⟨g, n, none⟩ v) := by
  refine ⟨⟨?_, hok⟩, Touch.set (F := fun b => b = g) (Touch.refl _ _) (fun _ => rfl) _⟩
  rw [heap_setCell_same w g n _ _ v h.heap]
  rw [← he]; simp
theorem Rs.sets (h : Rs g k w) (o : Nat) (vs : List Value) (hl : o + vs.length ≤ 146) (he : splice (cR k) o vs = cR k') (hok : OkR k') : RAft g k' w (w.setCells g o vs) := by
  refine ⟨⟨?_, hok⟩, Touch.sets (F := fun b => b = g) (Touch.refl _ _) g (fun _ => rfl) _ _⟩
  rw [heap_setCells g _ vs o w _ h.heap (by rw [cR_len]; exact hl), he]
theorem Rs.row (h : Rs g k w) (hok : OkR k') : RAft g k' w (w.setRow g (cR k').toArray) :=
  ⟨⟨setRow_heap w g _ _ _ _ h.heap, hok⟩, rfl, rfl, rfl, by simp, fun b _ hb => setRow_other w g b _ hb⟩
end
end Go.Proofs.Ytnkjepemliccpaa
