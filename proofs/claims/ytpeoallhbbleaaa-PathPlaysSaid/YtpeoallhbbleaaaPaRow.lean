/- A table of paths in memory: one block, four cells and an array of 33 structs. -/
import Derived.Test.YtpeoallhbbleaaaHold
import Derived.Test.YtpeoallhbbleaaaERow
import Derived.Test.YtpeoallhbbleaaaPaMath
import Derived.Deep.WholeRow
import Derived.Laws.Tables
namespace Go.Proofs.Ytpeoallhbbleaaa
open Go.Sort Go.RowKit Go.BigFrame
set_option linter.unusedVariables false
set_option linter.unusedSimpArgs false

theorem splice_mid {α : Type} (A B vs : List α) {a : Nat} (ha : A.length = a) (o : Nat) (h : o + vs.length ≤ B.length) : splice (A ++ B) (a + o) vs = A ++ splice B o vs := by
  subst ha
  simp only [splice]
  rw [List.take_append, List.drop_append]
  rw [List.take_of_length_le (show A.length ≤ A.length + o by omega), List.drop_eq_nil_of_le (show A.length ≤ A.length + o + vs.length by omega)]
  rw [show A.length + o - A.length = o by omega, show A.length + o + vs.length - A.length = o + vs.length by omega]
  simp only [List.nil_append, List.append_assoc]
theorem set_mid {α : Type} (A B : List α) {a : Nat} (ha : A.length = a) (o : Nat) (v : α) : (A ++ B).set (a + o) v = A ++ B.set o v := by
  subst ha
  rw [List.set_append_right _ _ (by omega)]
  congr 2; omega
theorem heap_lt' {w : World} {g : Nat} {o : Obj} (h : w.heap[g]? = some o) : g < w.heap.size := by
  rcases Nat.lt_or_ge g w.heap.size with h1 | h1
  · exact h1
  · rw [Array.getElem?_eq_none h1] at h; cases h

/-! an array of 33 members behind a head -/
section
variable {α : Type} {c : α → List Value} {z : Nat}
def rowL (c : α → List Value) (f : Nat → α) : List (List Value) := (List.range 33).map fun i => c (f i)
def cB (hd : List Value) (c : α → List Value) (f : Nat → α) : List Value := hd ++ (rowL c f).flatten
theorem row_z (he : Enc c z) (f : Nat → α) : ∀ x ∈ rowL c f, x.length = z := by
  intro x hx
  obtain ⟨i, _, rfl⟩ := List.mem_map.1 hx
  exact he.len _
theorem row_len (he : Enc c z) (f : Nat → α) : (rowL c f).flatten.length = 33 * z := by
  rw [flatten_len (z := z) _ (row_z he f)]; unfold rowL; rw [List.length_map, List.length_range]
theorem row_at (f : Nat → α) {i : Nat} (hi : i < 33) : (rowL c f)[i]? = some (c (f i)) := by unfold rowL; rw [List.getElem?_map, List.getElem?_range hi]; rfl
theorem row_cell (he : Enc c z) (f : Nat → α) {i j : Nat} {u : Value} (hi : i < 33) (hu : (c (f i))[j]? = some u) : (rowL c f).flatten[i * z + j]? = some u := by
  have hj := (List.getElem?_eq_some_iff.1 hu).1
  rw [he.len] at hj
  rw [flatten_at (z := z) _ (row_z he f) i j hj _ (row_at f hi)]; exact hu
theorem row_part (he : Enc c z) (f : Nat → α) {i : Nat} (hi : i < 33) : ((rowL c f).flatten.drop (i * z)).take z = c (f i) := by
  rw [flatten_drop (z := z) _ _ (row_z he f)]
  obtain ⟨h1, h3⟩ := List.getElem?_eq_some_iff.1 (row_at (c := c) f hi)
  have : (rowL c f).drop i = c (f i) :: (rowL c f).drop (i + 1) := by rw [List.drop_eq_getElem_cons h1, h3]
  rw [this, List.flatten_cons, List.take_append_of_le_length (by rw [he.len]; exact Nat.le_refl _)]
  exact List.take_of_length_le (by rw [he.len]; exact Nat.le_refl _)
theorem row_upd (f : Nat → α) (i : Nat) (x : α) (hi : i < 33) : (rowL c f).set i (c x) = rowL c (upd f i x) := by
  unfold rowL
  apply List.ext_getElem?
  intro j
  rw [List.getElem?_set]
  by_cases hj : i = j
  · subst hj
    rw [if_pos rfl, if_pos (by simpa using hi), List.getElem?_map, List.getElem?_range hi]
    simp [upd_same]
  · rw [if_neg hj, List.getElem?_map, List.getElem?_map]
    by_cases h2 : j < 33
    · rw [List.getElem?_range h2]; simp [upd_ne (fun e => hj e.symm)]
    · rw [List.getElem?_eq_none (by simpa using h2)]; rfl
theorem cB_cell (he : Enc c z) {hd : List Value} {n : Nat} (hh : hd.length = n) (f : Nat → α) {i j : Nat} {u : Value} (hi : i < 33) (hu : (c (f i))[j]? = some u) : (cB hd c f)[n + i * z + j]? = some u := by
  unfold cB
  rw [List.getElem?_append_right (by omega), show n + i * z + j - hd.length = i * z + j by omega]
  exact row_cell he f hi hu
theorem cB_arr {hd : List Value} {n : Nat} (hh : hd.length = n) (f : Nat → α) {m : Nat} {u : Value} (hu : (rowL c f).flatten[m]? = some u) : (cB hd c f)[n + m]? = some u := by
  unfold cB
  rw [List.getElem?_append_right (by omega), show n + m - hd.length = m by omega]; exact hu
theorem cB_hd {hd : List Value} (f : Nat → α) {n : Nat} {u : Value} (hu : hd[n]? = some u) : (cB hd c f)[n]? = some u := by
  have hn := (List.getElem?_eq_some_iff.1 hu).1
  unfold cB; rw [List.getElem?_append_left hn]; exact hu
theorem cB_len (he : Enc c z) {hd : List Value} {n : Nat} (hh : hd.length = n) (f : Nat → α) : (cB hd c f).length = n + 33 * z := by unfold cB; rw [List.length_append, row_len he, hh]
theorem cB_put (he : Enc c z) {hd : List Value} {n : Nat} (hh : hd.length = n) (f : Nat → α) {i : Nat} (hi : i < 33) (x : α) : splice (cB hd c f) (n + i * z) (c x) = cB hd c (upd f i x) := by
  unfold cB
  have hb : i * z + z ≤ 33 * z := by
    have := Nat.mul_le_mul_right z (show i + 1 ≤ 33 by omega)
    rw [Nat.add_mul, Nat.one_mul] at this
    exact this
  rw [splice_mid _ _ _ hh _ (by rw [row_len he, he.len]; exact hb)]
  have h4 := flatten_splice (z := z) (rowL c f) [c x] (row_z he f) (by simpa using he.len x) i
  rw [splice_one _ _ _ (by unfold rowL; simpa using hi)] at h4
  simp only [List.flatten_cons, List.flatten_nil, List.append_nil] at h4
  rw [h4, row_upd _ _ _ hi]
theorem cB_set (he : Enc c z) {hd : List Value} {n : Nat} (hh : hd.length = n) (f : Nat → α) {i j : Nat} (hi : i < 33) (hj : j < z) (x : α) (v : Value) (hx : (c (f i)).set j v = c x) : (cB hd c f).set (n + i * z + j) v = cB hd c (upd f i x) := by
  unfold cB
  rw [Nat.add_assoc, set_mid _ _ hh, ← row_upd f i x hi, ← hx, flatten_field (z := z) _ i j _ v (row_z he f) (row_at f hi) hj]
end

/-- a block of its own: all that it holds -/
structure Bk (g : Nat) (T : TypeId) (cs : List Value) (w : World) : Prop where
  heap : w.heap[g]? = some (.cells cs.toArray T (0, 0))
section
variable {g : Nat} {T : TypeId} {cs : List Value} {w w' : World} {F : Nat → Prop}
theorem Bk.lt (h : Bk g T cs w) : g < w.heap.size := heap_lt' h.heap
theorem Bk.free (h : Bk g T cs w) (o : Nat) : w.frozen? ⟨g, o, none⟩ = false := frozen_of_row w g o _ _ h.heap
theorem Bk.touch (h : Bk g T cs w) (ht : Touch F w w') (hF : ¬ F g) : Bk g T cs w' := ⟨(ht.block g h.lt hF).trans h.heap⟩
theorem Bk.keep (h : Bk g T cs w) (hb : Below w.heap.size w w') : Bk g T cs w' := h.touch (Touch.of_below (fun _ => False) hb) (fun h => h)
theorem Bk.at_ (h : Bk g T cs w) {n : Nat} {u : Value} (hu : cs[n]? = some u) : w.cell? ⟨g, n, none⟩ = some u := by
  rw [cell_of_row w g _ _ _ _ h.heap, List.getElem?_toArray]; exact hu
theorem Bk.set (h : Bk g T cs w) (n : Nat) (v : Value) : Bk g T (cs.set n v) (w.setCell ⟨g, n, none⟩ v) := by
  refine ⟨?_⟩
  rw [heap_setCell_same w g n _ _ v h.heap]; simp
theorem Bk.sets (h : Bk g T cs w) (o : Nat) (vs : List Value) (hl : o + vs.length ≤ cs.length) : Bk g T (splice cs o vs) (w.setCells g o vs) :=
  ⟨heap_setCells g _ vs o w _ h.heap hl⟩
theorem Bk.new (w : World) (T : TypeId) (cs : List Value) : Bk w.heap.size T cs (w.alloc (.cells cs.toArray T)) := ⟨heap_alloc_new _ _⟩
end

/-! a table -/
def cp (x : Pt) : List Value := [.int .i64 x.peer, .int .i64 x.st, .int .i64 x.tr, .int .u32 x.ip, .int .u16 x.pt, .int .u64 x.nx, .int .u64 x.un]
theorem cp_ones (v : Pt) : ∀ u ∈ cp v, u.oneCell' = true := by
  intro u hu
  simp only [cp, List.mem_cons, List.not_mem_nil, or_false] at hu
  rcases hu with rfl | rfl | rfl | rfl | rfl | rfl | rfl <;> rfl
theorem cp_enc : Enc cp 7 := ⟨by decide, fun _ => rfl, fun x u hu => cp_ones x u hu⟩
/-- what is to be sent: to whom, and what -/
def ck (x : Int × Int) : List Value := [.int .i64 x.1, .int .i64 x.2]
theorem ck_ones (v : Int × Int) : ∀ u ∈ ck v, u.oneCell' = true := by
  intro u hu
  simp only [ck, List.mem_cons, List.not_mem_nil, or_false] at hu
  rcases hu with rfl | rfl <;> rfl
theorem ck_enc : Enc ck 2 := ⟨by decide, fun _ => rfl, fun x u hu => ck_ones x u hu⟩
def hdK (k : Tk) : List Value := [.int .i64 k.tries, .int .u64 k.base, .int .u64 k.keep, .int .u64 k.hold]
def cK (k : Tk) : List Value := cB (hdK k) cp k.p
structure Ts (g : Nat) (k : Tk) (w : World) : Prop where
  bk : Bk g 73 (cK k) w
  ok : OkK k
section
variable {g : Nat} {k k' : Tk} {w w1 w' : World} {F : Nat → Prop}
theorem Ts.lt (h : Ts g k w) : g < w.heap.size := h.bk.lt
theorem Ts.free (h : Ts g k w) (o : Nat) : w.frozen? ⟨g, o, none⟩ = false := h.bk.free o
theorem Ts.touch (h : Ts g k w) (ht : Touch F w w') (hF : ¬ F g) : Ts g k w' := ⟨h.bk.touch ht hF, h.ok⟩
theorem Ts.keep (h : Ts g k w) (hb : Below w.heap.size w w') : Ts g k w' := ⟨h.bk.keep hb, h.ok⟩
theorem Ts.hd (h : Ts g k w) (n : Nat) (u : Value) (hu : (hdK k)[n]? = some u) : w.cell? ⟨g, n, none⟩ = some u := h.bk.at_ (cB_hd _ hu)
theorem Ts.p (h : Ts g k w) (i : Nat) (hi : i < 33) (j : Nat) (u : Value) (hu : (cp (k.p i))[j]? = some u) : w.cell? ⟨g, 4 + i * 7 + j, none⟩ = some u := h.bk.at_ (cB_cell cp_enc rfl _ hi hu)
theorem Ts.arr (h : Ts g k w) (j : Nat) (u : Value) (hu : (rowL cp k.p).flatten[j]? = some u) : w.cell? ⟨g, 4 + j, none⟩ = some u := h.bk.at_ (cB_arr rfl _ hu)
/-- behind a call: it holds k', and nothing turned but its own block -/
def TAft (g : Nat) (k' : Tk) (w w' : World) : Prop := Ts g k' w' ∧ Touch (fun b => b = g) w w'
theorem Ts.same (h : Ts g k w) (hb : Below w.heap.size w w') : TAft g k w w' := ⟨h.keep hb, Touch.of_below _ hb⟩
theorem TAft.after (hb : Below w.heap.size w w1) (h : TAft g k' w1 w') : TAft g k' w w' := ⟨h.1, (Touch.of_below _ hb).trans h.2 (fun _ _ h => h)⟩
theorem TAft.then_ (h : TAft g k' w w1) (hb : Below w1.heap.size w1 w') : TAft g k' w w' := ⟨h.1.keep hb, h.2.trans (Touch.of_below _ hb) (fun _ _ h => h)⟩
theorem TAft.trans {k2 : Tk} (h : TAft g k2 w w1) (h2 : TAft g k' w1 w') : TAft g k' w w' := ⟨h2.1, h.2.trans h2.2 (fun _ _ h => h)⟩
/-- a path is another one: all of it -/
theorem Ts.put (h : Ts g k w) {i : Nat} (hi : i < 33) (x : Pt) (hok : OkK (setP k i x)) : TAft g (setP k i x) w (w.setCells g (4 + i * 7) (cp x)) := by
  refine ⟨⟨?_, hok⟩, Touch.sets (F := fun b => b = g) (Touch.refl _ _) g (fun _ => rfl) _ _⟩
  have := h.bk.sets (4 + i * 7) (cp x) (by unfold cK; rw [cB_len (n := 4) cp_enc rfl]; show 4 + i * 7 + 7 ≤ _; omega)
  unfold cK at this
  rw [cB_put (n := 4) cp_enc rfl _ hi] at this
  exact this
/-- one field of it -/
theorem Ts.set (h : Ts g k w) {i j : Nat} (hi : i < 33) (hj : j < 7) (x : Pt) (v : Value) (hx : (cp (k.p i)).set j v = cp x) (hok : OkK (setP k i x)) : TAft g (setP k i x) w (w.setCell ⟨g, 4 + i * 7 + j, none⟩ v) := by
  refine ⟨⟨?_, hok⟩, Touch.set (F := fun b => b = g) (Touch.refl _ _) (fun _ => rfl) _⟩
  have := h.bk.set (4 + i * 7 + j) v
  unfold cK at this
  rw [cB_set (n := 4) cp_enc rfl _ hi hj x v hx] at this
  exact this
/-- two fields of it -/
theorem Ts.set2 (h : Ts g k w) {i j l : Nat} (hi : i < 33) (hj : j < 7) (hl : l < 7) (y x : Pt) (v u : Value) (hy : (cp (k.p i)).set j v = cp y) (hx : (cp y).set l u = cp x) (hok : OkK (setP k i x)) : TAft g (setP k i x) w ((w.setCell ⟨g, 4 + i * 7 + j, none⟩ v).setCell ⟨g, 4 + i * 7 + l, none⟩ u) := by
  refine ⟨⟨?_, hok⟩, Touch.set (F := fun b => b = g) (Touch.set (F := fun b => b = g) (Touch.refl _ _) (fun _ => rfl) _) (fun _ => rfl) _⟩
  have h1 := h.bk.set (4 + i * 7 + j) v
  unfold cK at h1
  rw [cB_set (n := 4) cp_enc rfl _ hi hj y v hy] at h1
  have h2 := h1.set (4 + i * 7 + l) u
  rw [cB_set (n := 4) cp_enc rfl _ hi hl x u (by rw [upd_same]; exact hx), upd_upd] at h2
  exact h2
end
end Go.Proofs.Ytpeoallhbbleaaa
