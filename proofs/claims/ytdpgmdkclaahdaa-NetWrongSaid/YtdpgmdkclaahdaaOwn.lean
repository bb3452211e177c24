/- Memory that is written: which blocks (Touch); a block that is a row of elements of z cells each (Rw); copy and clear at such elements. -/
import Derived.Test.YtdpgmdkclaahdaaBoxes
import Derived.Deep.AppendLies
import Derived.Deep.Upon
import Derived.Laws.IdiomCopy
import Derived.Lib.SliceRun
namespace Go.Proofs.Ytdpgmdkclaahdaa
open Go.Sort Go.RowKit Go.BigFrame
set_option linter.unusedVariables false
set_option linter.unusedSimpArgs false

/-- w' is w but for blocks of F, and new ones -/
structure Touch (F : Nat → Prop) (w w' : World) : Prop where
  os : w'.os = w.os
  tape : w'.tape = w.tape
  output : w'.output = w.output
  size : w.heap.size ≤ w'.heap.size
  block : ∀ k, k < w.heap.size → ¬ F k → w'.heap[k]? = w.heap[k]?
section
variable {F F' : Nat → Prop} {w w' w'' : World}
theorem Touch.refl (F : Nat → Prop) (w : World) : Touch F w w := ⟨rfl, rfl, rfl, Nat.le_refl _, fun _ _ _ => rfl⟩
theorem Touch.mono (h : Touch F w w') (hF : ∀ k, k < w.heap.size → F k → F' k) : Touch F' w w' := ⟨h.os, h.tape, h.output, h.size, fun k hk hn => h.block k hk (fun e => hn (hF k hk e))⟩
theorem Touch.trans (h : Touch F w w') (h2 : Touch F' w' w'') (hF : ∀ k, k < w.heap.size → F' k → F k) : Touch F w w'' :=
  ⟨h2.os.trans h.os, h2.tape.trans h.tape, h2.output.trans h.output, Nat.le_trans h.size h2.size, fun k hk hn => (h2.block k (Nat.lt_of_lt_of_le hk h.size) (fun e => hn (hF k hk e))).trans (h.block k hk hn)⟩
theorem Touch.of_below (F : Nat → Prop) (h : Below w.heap.size w w') : Touch F w w' := ⟨h.os, h.tape, h.output, h.size, fun k hk _ => h.block k hk⟩
theorem Touch.of_grown {row : Option Nat} (h : w.grownBy w' row) (hF : ∀ k, row = some k → F k) : Touch F w w' :=
  ⟨h.os, h.tape, h.output, h.size, fun k hk hn => h.block k hk (fun e => hn (hF k e.symm))⟩
theorem Touch.set (h : Touch F w w') {a : Addr} (ha : a.block < w.heap.size → F a.block) (v : Value) : Touch F w (w'.setCell a v) :=
  ⟨h.os, h.tape, h.output, by simpa using h.size, fun k hk hn => (Below.heap_setCell w' a v k (fun e => by subst e; exact hn (ha hk))).trans (h.block k hk hn)⟩
theorem Touch.alloc (h : Touch F w w') (o : Obj) : Touch F w (w'.alloc o) :=
  ⟨h.os, h.tape, h.output, by have := h.size; simp; omega, fun k hk hn => (Below.heap_alloc w' o k (Nat.lt_of_lt_of_le hk h.size)).trans (h.block k hk hn)⟩
theorem Touch.drew (h : Touch F w w') : Touch F w w'.drew := ⟨h.os, h.tape, h.output, h.size, h.block⟩
theorem Touch.below (h : Touch F w w') {B : Nat} (hB : B ≤ w.heap.size) (hF : ∀ k, k < w.heap.size → F k → B ≤ k) : Below B w w' :=
  ⟨h.os, h.tape, h.output, h.size, fun k hk => h.block k (by omega) (fun e => by have := hF k (by omega) e; omega)⟩
theorem Touch.cell (h : Touch F w w') {p : Addr} (hp : p.block < w.heap.size) (hF : ¬ F p.block) : w'.cell? p = w.cell? p := World.cell?_of_block (w := w) (h.block _ hp hF)
theorem Touch.frozen (h : Touch F w w') {p : Addr} (hp : p.block < w.heap.size) (hF : ¬ F p.block) : w'.frozen? p = w.frozen? p := World.frozen?_of_block (w := w) (h.block _ hp hF)
theorem Touch.sets (h : Touch F w w') (g : Nat) (hF : g < w.heap.size → F g) : ∀ (vs : List Value) (o : Nat), Touch F w (w'.setCells g o vs) := by
  intro vs
  induction vs generalizing w' with
  | nil => intro o; exact h
  | cons v r ih => intro o; exact ih (h.set (a := ⟨g, o, none⟩) hF v) (o + 1)
theorem Cs.touch {g : Nat} {vs : List Value} (h : Cs g vs w) (ht : Touch F w w') (hF : ¬ F g) : Cs g vs w' :=
  ⟨fun i v hv => (ht.cell (p := ⟨g, i, none⟩) h.lt hF).trans (h.cell i v hv), fun i v hv => (ht.frozen (p := ⟨g, i, none⟩) h.lt hF).trans (h.free i v hv), Nat.lt_of_lt_of_le h.lt ht.size, by obtain ⟨c, t, e⟩ := h.pl; exact ⟨c, t, (ht.block g h.lt hF).trans e⟩⟩
theorem own_touch {base : Nat} {e : TypeId} {size : Nat} {v : Value} {n : Nat} {xs : List Value} (h : w.ownsRow base e size v n xs) (ht : Touch F w w') (hF : ∀ k, v.ownBlock = some k → ¬ F k) : w'.ownsRow base e size v n xs := by
  refine ⟨h.1, ?_⟩
  rcases h.2 with h0 | ⟨g, cap, cur, rfl, hb, hg, h1⟩
  · exact .inl h0
  · refine .inr ⟨g, cap, cur, rfl, hb, ?_, h1⟩
    have hlt : g < w.heap.size := by
      rcases Nat.lt_or_ge g w.heap.size with h | h
      · exact h
      · rw [Array.getElem?_eq_none h] at hg; cases hg
    exact (ht.block g hlt (hF g rfl)).trans hg
end

/-! lists of lists, all of one length -/
section
variable {α : Type} {z : Nat}
theorem flatten_len : ∀ (C : List (List α)), (∀ c ∈ C, c.length = z) → C.flatten.length = C.length * z
  | [], _ => by simp
  | c :: r, h => by
    rw [List.flatten_cons, List.length_append, flatten_len r (fun x hx => h x (by simp [hx])), h c (by simp), List.length_cons, Nat.add_mul]; omega
theorem flatten_take : ∀ (C : List (List α)) (i : Nat), (∀ c ∈ C, c.length = z) → C.flatten.take (i * z) = (C.take i).flatten
  | [], i, _ => by simp
  | c :: r, 0, _ => by simp
  | c :: r, i + 1, h => by
    rw [List.flatten_cons, List.take_succ_cons, List.flatten_cons, ← flatten_take r i (fun x hx => h x (by simp [hx]))]
    rw [show (i + 1) * z = c.length + i * z by rw [h c (by simp), Nat.add_mul]; omega, List.take_length_add_append]
theorem flatten_drop : ∀ (C : List (List α)) (i : Nat), (∀ c ∈ C, c.length = z) → C.flatten.drop (i * z) = (C.drop i).flatten
  | [], i, _ => by simp
  | c :: r, 0, _ => by simp
  | c :: r, i + 1, h => by
    rw [List.flatten_cons, List.drop_succ_cons, ← flatten_drop r i (fun x hx => h x (by simp [hx]))]
    rw [show (i + 1) * z = c.length + i * z by rw [h c (by simp), Nat.add_mul]; omega, List.drop_length_add_append]
theorem flatten_at (C : List (List α)) (h : ∀ c ∈ C, c.length = z) (i k : Nat) (hk : k < z) (c : List α) (hc : C[i]? = some c) : C.flatten[i * z + k]? = c[k]? := by
  have hl := h c (List.mem_of_getElem? hc)
  have h1 : C.flatten[i * z + k]? = (C.flatten.drop (i * z))[k]? := by rw [List.getElem?_drop]
  rw [h1, flatten_drop C i h]
  have h2 : C.drop i = c :: C.drop (i + 1) := by
    obtain ⟨hi, rfl⟩ := List.getElem?_eq_some_iff.1 hc
    exact List.drop_eq_getElem_cons hi
  rw [h2, List.flatten_cons, List.getElem?_append_left (by omega)]
theorem flatten_inj : ∀ (C D : List (List α)), 0 < z → (∀ c ∈ C, c.length = z) → (∀ c ∈ D, c.length = z) → C.flatten = D.flatten → C = D
  | [], [], _, _, _, _ => rfl
  | [], d :: r, hz, _, hD, e => by
    have := congrArg List.length e
    rw [List.flatten_cons, List.length_append, hD d (by simp)] at this
    simp at this; omega
  | c :: r, [], hz, hC, _, e => by
    have := congrArg List.length e
    rw [List.flatten_cons, List.length_append, hC c (by simp)] at this
    simp at this; omega
  | c :: r, d :: s, hz, hC, hD, e => by
    rw [List.flatten_cons, List.flatten_cons] at e
    obtain ⟨h1, h2⟩ := List.append_inj e (by rw [hC c (by simp), hD d (by simp)])
    rw [h1, flatten_inj r s hz (fun x hx => hC x (by simp [hx])) (fun x hx => hD x (by simp [hx])) h2]
theorem splice_all {C D : List (List α)} (h : ∀ c ∈ C, c.length = z) (h2 : ∀ c ∈ D, c.length = z) (i : Nat) : ∀ c ∈ splice C i D, c.length = z := by
  intro c hc
  simp only [splice, List.mem_append] at hc
  rcases hc with hc | hc | hc
  · exact h c (List.mem_of_mem_take hc)
  · exact h2 c hc
  · exact h c (List.mem_of_mem_drop hc)
theorem flatten_splice (C D : List (List α)) (h : ∀ c ∈ C, c.length = z) (h2 : ∀ c ∈ D, c.length = z) (i : Nat) : splice C.flatten (i * z) D.flatten = (splice C i D).flatten := by
  simp only [splice, List.flatten_append]
  rw [flatten_take C i h, flatten_len D h2, ← Nat.add_mul, flatten_drop C _ h]
theorem splice_one (C : List (List α)) (i : Nat) (c : List α) (hi : i < C.length) : splice C i [c] = C.set i c := by
  simp only [splice]
  rw [List.set_eq_take_append_cons_drop, if_pos hi]; rfl
theorem set_all {C : List (List α)} (h : ∀ c ∈ C, c.length = z) (i : Nat) (c : List α) (hc : c.length = z) : ∀ x ∈ C.set i c, x.length = z := by
  intro x hx
  rcases List.mem_or_eq_of_mem_set hx with h1 | rfl
  · exact h x h1
  · exact hc
theorem flatten_field : ∀ (C : List (List α)) (i k : Nat) (c : List α) (v : α), (∀ c ∈ C, c.length = z) → C[i]? = some c → k < z → (C.set i (c.set k v)).flatten = C.flatten.set (i * z + k) v
  | [], i, k, c, v, _, hc, _ => by simp at hc
  | d :: r, 0, k, c, v, h, hc, hk => by
    simp at hc; subst hc
    rw [List.set_cons_zero, List.flatten_cons, List.flatten_cons, Nat.zero_mul, Nat.zero_add, List.set_append_left _ _ (by rw [h d (by simp)]; exact hk)]
  | d :: r, i + 1, k, c, v, h, hc, hk => by
    have hd := h d (by simp)
    rw [List.set_cons_succ, List.flatten_cons, List.flatten_cons, flatten_field r i k c v (fun x hx => h x (by simp [hx])) (by simpa using hc) hk]
    rw [List.set_append_right _ _ (by rw [hd, Nat.add_mul]; omega)]
    congr 2
    rw [hd, Nat.add_mul]; omega
theorem chunk_ex (hz : 0 < z) : ∀ (n : Nat) (l : List α), l.length = n * z → ∃ C : List (List α), (∀ c ∈ C, c.length = z) ∧ C.flatten = l ∧ C.length = n
  | 0, l, h => ⟨[], by simp, by simp at h; simp [h], rfl⟩
  | n + 1, l, h => by
    obtain ⟨C, h1, h2, h3⟩ := chunk_ex hz n (l.drop z) (by rw [List.length_drop, h, Nat.add_mul]; omega)
    refine ⟨l.take z :: C, fun c hc => ?_, by rw [List.flatten_cons, h2, List.take_append_drop], by simp [h3]⟩
    rcases List.mem_cons.1 hc with rfl | hc
    · rw [List.length_take, h, Nat.add_mul]; omega
    · exact h1 c hc
end

/-! a row of elements of z cells each -/
/-- block g is a row of elements of z cells each, nothing frozen -/
structure Rw (z g : Nat) (t : TypeId) (C : List (List Value)) (w : World) : Prop where
  all : ∀ c ∈ C, c.length = z
  heap : w.heap[g]? = some (.cells C.flatten.toArray t (0, 0))
section
variable {z g : Nat} {t : TypeId} {C : List (List Value)} {w : World}
theorem Rw.lt (h : Rw z g t C w) : g < w.heap.size := by
  rcases Nat.lt_or_ge g w.heap.size with h1 | h1
  · exact h1
  · have := h.heap; rw [Array.getElem?_eq_none h1] at this; cases this
theorem Rw.cell (h : Rw z g t C w) (i k : Nat) (c : List Value) (v : Value) (hc : C[i]? = some c) (hv : c[k]? = some v) : w.cell? ⟨g, i * z + k, none⟩ = some v := by
  have hk : k < z := by
    have := h.all c (List.mem_of_getElem? hc)
    obtain ⟨h1, _⟩ := List.getElem?_eq_some_iff.1 hv
    omega
  rw [cell_of_row w g _ _ t (0, 0) h.heap]
  have := flatten_at C h.all i k hk c hc
  simpa [hv] using this
theorem Rw.free (h : Rw z g t C w) (o : Nat) : w.frozen? ⟨g, o, none⟩ = false := frozen_of_row w g o _ t h.heap
theorem Rw.of_block {w' : World} (h : Rw z g t C w) (e : w'.heap[g]? = w.heap[g]?) : Rw z g t C w' := ⟨h.all, e.trans h.heap⟩
theorem Rw.touch {F : Nat → Prop} {w' : World} (h : Rw z g t C w) (ht : Touch F w w') (hF : ¬ F g) : Rw z g t C w' := h.of_block (ht.block g h.lt hF)
theorem Rw.field (h : Rw z g t C w) (i k : Nat) (c : List Value) (v : Value) (hc : C[i]? = some c) (hk : k < z) : Rw z g t (C.set i (c.set k v)) (w.setCell ⟨g, i * z + k, none⟩ v) := by
  refine ⟨set_all h.all i _ (by rw [List.length_set]; exact h.all c (List.mem_of_getElem? hc)), ?_⟩
  rw [heap_setCell_same w g _ _ t v h.heap, flatten_field C i k c v h.all hc hk]
  simp
theorem heap_setCells (g : Nat) (t : TypeId) : ∀ (vs : List Value) (o : Nat) (w : World) (cur : List Value), w.heap[g]? = some (.cells cur.toArray t (0, 0)) → o + vs.length ≤ cur.length → (w.setCells g o vs).heap[g]? = some (.cells (splice cur o vs).toArray t (0, 0))
  | [], o, w, cur, h, _ => by rw [World.setCells, h]; simp [splice]
  | v :: r, o, w, cur, h, hl => by
    rw [World.setCells]
    have h1 := heap_setCell_same w g o cur.toArray t v h
    rw [List.setIfInBounds_toArray] at h1
    rw [heap_setCells g t r (o + 1) _ (cur.set o v) h1 (by rw [List.length_set]; simp at hl; omega)]
    congr 3
    simp only [splice]
    have ho : o < cur.length := by simp at hl; omega
    rw [List.set_eq_take_append_cons_drop, if_pos ho]
    have e1 : (cur.take o).length = o := by rw [List.length_take]; omega
    have e2 : (cur.take o).take (o + 1) = cur.take o := List.take_of_length_le (by omega)
    have e3 : (cur.take o).drop (o + 1 + r.length) = [] := List.drop_eq_nil_of_le (by omega)
    rw [List.take_append, List.drop_append, e1, e2, e3]
    rw [show o + 1 - o = 1 by omega, show o + 1 + r.length - o = r.length + 1 by omega]
    simp only [List.take_succ_cons, List.take_zero, List.drop_succ_cons, List.nil_append, List.drop_drop, List.length_cons, List.append_assoc, List.cons_append]
    rw [show o + 1 + r.length = o + (r.length + 1) by omega]
theorem Rw.store (h : Rw z g t C w) (i : Nat) (D : List (List Value)) (hD : ∀ c ∈ D, c.length = z) (hi : i + D.length ≤ C.length) : Rw z g t (splice C i D) (w.setCells g (i * z) D.flatten) := by
  refine ⟨splice_all h.all hD i, ?_⟩
  rw [heap_setCells g t _ _ w _ h.heap (by rw [flatten_len D hD, flatten_len C h.all, ← Nat.add_mul]; exact Nat.mul_le_mul_right _ hi), flatten_splice C D h.all hD]
theorem Rw.put (h : Rw z g t C w) (i : Nat) (c : List Value) (hc : c.length = z) (hi : i < C.length) : Rw z g t (C.set i c) (w.setCells g (i * z) c) := by
  have := h.store i [c] (by simpa using hc) (by simp; omega)
  rw [splice_one C i c hi] at this
  simpa using this
theorem Rw.of_own (hz : 0 < z) {b n cap : Nat} {xs : List Value} (h : w.ownsRow b t z (.slice (some ⟨g, 0, none⟩) n cap) n xs) : ∃ C, Rw z g t C w ∧ C.length = cap ∧ n ≤ cap ∧ cap ≤ maxLen ∧ (C.take n).flatten = xs ∧ b ≤ g := by
  rcases h.2 with ⟨h', _⟩ | ⟨g', cap', cur, h', hb, hg, hn, hm, hs, ht⟩
  · simp at h'
  · simp only [Value.slice.injEq, Option.some.injEq, Addr.mk.injEq, and_true, true_and] at h'
    obtain ⟨rfl, rfl⟩ := h'
    obtain ⟨C, h1, h2, h3⟩ := chunk_ex hz cap cur.toList (by simpa using hs)
    refine ⟨C, ⟨h1, by rw [h2]; simpa using hg⟩, h3, hn, hm, ?_, hb⟩
    rw [← flatten_take C n h1, h2]; exact ht
theorem Rw.own (h : Rw z g t C w) {n : Nat} (hn : n ≤ C.length) (hm : C.length ≤ maxLen) : w.ownsRow 0 t z (.slice (some ⟨g, 0, none⟩) n C.length) n (C.take n).flatten := by
  refine ⟨?_, .inr ⟨g, C.length, C.flatten.toArray, rfl, Nat.zero_le _, h.heap, hn, hm, by simpa using flatten_len C h.all, ?_⟩⟩
  · rw [flatten_len (z := z) _ (fun c hc => h.all c (List.mem_of_mem_take hc)), List.length_take, Nat.min_eq_left hn]
  · simpa using flatten_take C n h.all
end
/-- copy at elements of z cells, out of one row into another (or the same: what stood there ahead of it) -/
theorem run_copy_z {P : Program} (w : World) (dT sT elem : TypeId) (z g o dLen dCap : Nat) (a : Addr) (sLen sCap : Nat) (t : TypeId) (C D : List (List Value))
    (hu : P.underlying dT = some (.slice elem)) (hs : (P.info? elem).map (·.size) = some z) (h : Rw z g t C w) (hD : ∀ c ∈ D, c.length = z) (hn : D.length = Nat.min sLen dLen)
    (hsrc : ∀ j v, D.flatten[j]? = some v → w.cell? (a.add j) = some v) (hfit : o + D.length ≤ C.length) (h1 : ∀ v ∈ D.flatten, v.oneCell' = true) :
    ∃ w', (∀ ty, (Builtin.copy_ #[dT, sT] ty #[.slice (some ⟨g, o * z, none⟩) dLen dCap, .slice (some a) sLen sCap]).run P w = .ok (goInt D.length) w') ∧ Rw z g t (splice C o D) w' ∧ w.grownBy w' (some g) := by
  have hfl := flatten_len D hD
  have hl := run_loadCells_list (P := P) w a D.flatten hsrc
  have hst := run_storeCells_at (P := P) g (o * z) t D.flatten 0 C.flatten.toArray w h.heap (by simp only [Nat.add_zero, List.size_toArray]; rw [hfl, flatten_len C h.all, ← Nat.add_mul]; exact Nat.mul_le_mul_right _ hfit) h1
  rw [hfl] at hl
  have hsp : C.flatten.toArray.toList.take (o * z + 0) ++ D.flatten ++ C.flatten.toArray.toList.drop (o * z + 0 + D.flatten.length) = splice C.flatten (o * z) D.flatten := by simp only [splice, Nat.add_zero, List.append_assoc]
  rw [hsp, flatten_splice C D h.all hD] at hst
  cases hq : P.info? elem with
  | none => simp [hq] at hs
  | some i =>
    have hi : i.size = z := by simpa [hq] using hs
    generalize D.flatten = X at *
    refine ⟨w.setRow g (splice C o D).flatten.toArray, fun ty => ?_, ⟨splice_all h.all hD o, setRow_heap w g _ _ t _ h.heap⟩, ⟨rfl, rfl, rfl, by simp [World.setRow], fun k _ hk => setRow_other w g k _ (fun e => hk (by simp [e]))⟩⟩
    simp [Builtin.copy_, run_underlying hu, Builtin.lenOf, Builtin.firstCells, sizeOf, typeInfo, hq, hi, ← hn, hl, hst]
/-- clear at elements of z cells -/
theorem run_clear_z {P : Program} (w : World) (t e : TypeId) (zv : Value) (z b i n c : Nat) (C : List (List Value)) (ht : P.underlying t = some (.slice e)) (hv : ∀ w, (zeroValue e).run P w = .ok zv w) (hz : zv.cells.size = z)
    (h1 : ∀ v ∈ zv.cells.toList, v.oneCell' = true) (hzp : 0 < z) (h : Rw z b e C w) (hfit : i + n ≤ C.length) :
    ∃ w', (∀ ty, (Builtin.clear_ #[t] ty #[.slice (some ⟨b, i * z, none⟩) n c]).run P w = .ok (.tuple #[]) w') ∧ (∃ D, Rw z b e (splice C i D) w' ∧ D.length = n) ∧ w.grownBy w' (some b) := by
  have hlen : (Builtin.zeroCells zv.cells n).toList.length = n * z := by simp [Builtin.zeroCells, hz]
  obtain ⟨D, hD, hDf, hDl⟩ := chunk_ex hzp n (Builtin.zeroCells zv.cells n).toList hlen
  have h1' : ∀ v ∈ (Builtin.zeroCells zv.cells n).toList, v.oneCell' = true := by
    intro v hv'
    simp only [Builtin.zeroCells, Array.toList_map, List.mem_map] at hv'
    obtain ⟨k, _, rfl⟩ := hv'
    have hk : k % zv.cells.size < zv.cells.size := Nat.mod_lt _ (by omega)
    rw [getElem!_pos zv.cells (k % zv.cells.size) hk]
    exact h1 _ (by simp)
  have hst := run_storeCells_at (P := P) b (i * z) e (Builtin.zeroCells zv.cells n).toList 0 C.flatten.toArray w h.heap (by simp only [Nat.add_zero, List.size_toArray]; rw [hlen, flatten_len C h.all, ← Nat.add_mul]; exact Nat.mul_le_mul_right _ hfit) h1'
  rw [← hDf] at hst
  have hsp : C.flatten.toArray.toList.take (i * z + 0) ++ D.flatten ++ C.flatten.toArray.toList.drop (i * z + 0 + D.flatten.length) = splice C.flatten (i * z) D.flatten := by simp only [splice, Nat.add_zero, List.append_assoc]
  rw [hsp, flatten_splice C D h.all hD, hDf] at hst
  refine ⟨w.setRow b (splice C i D).flatten.toArray, fun ty => ?_, ⟨D, ⟨splice_all h.all hD i, setRow_heap w b _ _ e _ h.heap⟩, hDl⟩, ⟨rfl, rfl, rfl, by simp [World.setRow], fun k _ hk => setRow_other w b k _ (fun e => hk (by simp [e]))⟩⟩
  by_cases hn : n = 0
  · subst hn
    obtain rfl : D = [] := List.eq_nil_of_length_eq_zero hDl
    have : splice C i ([] : List (List Value)) = C := by simp [splice]
    rw [this]
    rw [setRow_self w b _ e (0, 0) h.heap]
    simp [Builtin.clear_, run_underlying ht]
  · obtain ⟨m, rfl⟩ : ∃ m, n = m + 1 := ⟨n - 1, by omega⟩
    simp [Builtin.clear_, run_underlying ht, hv, hst]
/-- a slice's value -/
structure Sl where
  a : Option Addr
  n : Nat
  c : Nat
def Sl.v (s : Sl) : Value := .slice s.a s.n s.c
theorem Rw.sub {z g : Nat} {t : TypeId} {C D : List (List Value)} {w : World} {p : Nat} (h : Rw z g t C w) (hz : 0 < z) (hall : ∀ c ∈ D, c.length = z) (hD : ∀ i c, D[i]? = some c → C[p + i]? = some c) : ∀ j v, D.flatten[j]? = some v → w.cell? ((⟨g, p * z, none⟩ : Addr).add j) = some v := by
  intro j v hv
  have hlen := flatten_len _ hall
  have hj : j < D.flatten.length := (List.getElem?_eq_some_iff.1 hv).1
  rw [hlen] at hj
  have hq : j / z < D.length := by rw [Nat.div_lt_iff_lt_mul hz]; exact hj
  have hr : j % z < z := Nat.mod_lt _ hz
  have e : j = j / z * z + j % z := by rw [Nat.mul_comm]; exact (Nat.div_add_mod j z).symm
  have hc : D[j / z]? = some (D[j / z]) := List.getElem?_eq_getElem hq
  rw [e, flatten_at _ hall (j / z) (j % z) hr _ hc] at hv
  have := h.cell _ _ _ _ (hD _ _ hc) hv
  rw [add_at, ← this]
  congr 2
  rw [Nat.add_mul, Nat.add_assoc, ← e]
theorem taken_at {α β : Type} {C : List β} {l : List α} {f : α → β} (ht : C.take l.length = l.map f) {i : Nat} {x : α} (hx : l[i]? = some x) : C[i]? = some (f x) := by
  have hi : i < l.length := (List.getElem?_eq_some_iff.1 hx).1
  have h1 : (C.take l.length)[i]? = C[i]? := by rw [List.getElem?_take, if_pos hi]
  rw [← h1, ht, List.getElem?_map, hx]; rfl
theorem own_eq {a : Option Addr} {n c n' c' k : Nat} (h : (Value.slice a n c).ownBlock = some k) : (Value.slice a n' c').ownBlock = some k := by cases a <;> exact h
theorem own_empty (w : World) (t : TypeId) (z : Nat) : (w.alloc (.cells #[] t)).ownsRow w.heap.size t z (.slice (some ⟨w.heap.size, 0, none⟩) 0 0) 0 [] := by
  have := World.ownsRow_made (base := w.heap.size) (e := t) (size := z) w #[] 0 (Nat.le_refl _) (by decide) (by simp)
  exact this
theorem own_zero {w : World} {b : Nat} {t : TypeId} {z n : Nat} {v : Value} {xs : List Value} (h : w.ownsRow b t z v n xs) : w.ownsRow 0 t z v n xs := by
  refine ⟨h.1, ?_⟩
  rcases h.2 with h0 | ⟨g, cap, cur, h1, _, h2⟩
  · exact .inl h0
  · exact .inr ⟨g, cap, cur, h1, Nat.zero_le _, h2⟩
theorem sl_of {w : World} {b : Nat} {t : TypeId} {z n : Nat} {v : Value} {xs : List Value} (h : w.ownsRow b t z v n xs) : ∃ s : Sl, v = s.v := by
  rcases h.2 with ⟨rfl, _⟩ | ⟨g, c, _, rfl, _⟩
  · exact ⟨⟨none, 0, 0⟩, rfl⟩
  · exact ⟨⟨some ⟨g, 0, none⟩, n, c⟩, rfl⟩
end Go.Proofs.Ytdpgmdkclaahdaa
