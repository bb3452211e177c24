/- Rows of elements of any kind; who is suspected, in memory. -/
import Derived.Test.YtplllaafllcigaaOwn
import Derived.Test.YtplllaafllcigaaDbMath
import Derived.Deep.WholeRow
namespace Go.Proofs.Ytplllaafllcigaa
open Go.Sort Go.RowKit Go.BigFrame
set_option linter.unusedVariables false
set_option linter.unusedSimpArgs false

/-- how an element lies in memory: so many cells -/
structure Enc {α : Type} (c : α → List Value) (z : Nat) : Prop where
  pos : 0 < z
  len : ∀ x, (c x).length = z
  one : ∀ x u, u ∈ c x → u.oneCell' = true
def c64 (x : Int) : List Value := [.int .i64 x]
theorem c64_enc : Enc c64 1 := ⟨by decide, fun _ => rfl, fun x u hu => by
  simp only [c64, List.mem_cons, List.not_mem_nil, or_false] at hu
  rcases hu with rfl; rfl⟩
section
variable {α : Type} {c : α → List Value} {z : Nat} {T : TypeId} {w w' : World} {v : Value} {L : List α} {F : Nat → Prop}
def ERow (c : α → List Value) (z : Nat) (T : TypeId) (w : World) (v : Value) (L : List α) : Prop := w.ownsRow 0 T z v L.length (L.map c).flatten
theorem Enc.all (h : Enc c z) (L : List α) : ∀ x ∈ L.map c, x.length = z := by
  intro x hx
  obtain ⟨y, _, rfl⟩ := List.mem_map.1 hx
  exact h.len y
theorem Enc.ones (h : Enc c z) (L : List α) : ∀ u ∈ (L.map c).flatten, u.oneCell' = true := by
  intro u hu
  obtain ⟨y, hy, hu⟩ := List.mem_flatten.1 hu
  obtain ⟨x, _, rfl⟩ := List.mem_map.1 hy
  exact h.one x u hu
theorem erow_nil : ERow c z T w (.slice none 0 0) [] := World.ownsRow_nil _ _ _ _
theorem erow_form (h : ERow c z T w v L) : (v = .slice none 0 0 ∧ L = []) ∨ ∃ g cap, v = .slice (some ⟨g, 0, none⟩) L.length cap ∧ g < w.heap.size := by
  rcases h.2 with ⟨rfl, h0⟩ | ⟨g, cap, cur, rfl, _, hg, _⟩
  · exact .inl ⟨rfl, List.eq_nil_of_length_eq_zero h0⟩
  · refine .inr ⟨g, cap, rfl, ?_⟩
    rcases Nat.lt_or_ge g w.heap.size with h1 | h1
    · exact h1
    · rw [Array.getElem?_eq_none h1] at hg; cases hg
theorem erow_sl (h : ERow c z T w v L) : ∃ a cap, v = .slice a L.length cap := by
  rcases erow_form h with ⟨h1, h2⟩ | ⟨g, cap, h1, _⟩
  · exact ⟨none, 0, by rw [h1, h2]; rfl⟩
  · exact ⟨_, _, h1⟩
theorem erow_open (he : Enc c z) {g n cap : Nat} (h : ERow c z T w (.slice (some ⟨g, 0, none⟩) n cap) L) : n = L.length ∧ ∃ C, Rw z g T C w ∧ C.length = cap ∧ C.take L.length = L.map c ∧ L.length ≤ cap ∧ cap ≤ maxLen := by
  have hn : n = L.length := by
    rcases erow_form h with ⟨h1, _⟩ | ⟨_, _, h1, _⟩
    · simp at h1
    · simp at h1; exact h1.2.1
  subst hn
  obtain ⟨C, h1, h2, h3, h4, h5, _⟩ := Rw.of_own he.pos h
  refine ⟨rfl, C, h1, h2, ?_, h3, h4⟩
  exact flatten_inj (z := z) _ _ he.pos (fun x hx => h1.all x (List.mem_of_mem_take hx)) (he.all L) h5
theorem erow_touch (h : ERow c z T w v L) (ht : Touch F w w') (hF : ∀ k, v.ownBlock = some k → ¬ F k) : ERow c z T w' v L := own_touch h ht hF
theorem erow_keep (h : ERow c z T w v L) (hb : Below w.heap.size w w') : ERow c z T w' v L := erow_touch h (Touch.of_below (fun _ => False) hb) (fun _ _ h => h)
theorem erow_lt (h : ERow c z T w v L) {k : Nat} (hk : v.ownBlock = some k) : k < w.heap.size := (World.ownsRow.lt h k hk).2
/-- a slice that can be read -/
def RdE (c : α → List Value) (z : Nat) (w : World) (a : Option Addr) (L : List α) : Prop :=
  0 < L.length → ∃ b off, a = some ⟨b, off, none⟩ ∧ b < w.heap.size ∧ ∀ i x, L[i]? = some x → ∀ k u, (c x)[k]? = some u → w.cell? ⟨b, off + i * z + k, none⟩ = some u
theorem RdE.touch {a : Option Addr} (h : RdE c z w a L) (ht : Touch F w w') (hF : ∀ b off, a = some ⟨b, off, none⟩ → ¬ F b) : RdE c z w' a L := fun hp => by
  obtain ⟨b, off, rfl, hB, hc⟩ := h hp
  exact ⟨b, off, rfl, Nat.lt_of_lt_of_le hB ht.size, fun i x hx k v hv => (ht.cell (p := ⟨b, off + i * z + k, none⟩) hB (hF b off rfl)).trans (hc i x hx k v hv)⟩
theorem RdE.keep {a : Option Addr} (h : RdE c z w a L) (hb : Below w.heap.size w w') : RdE c z w' a L := h.touch (Touch.of_below (fun _ => False) hb) (fun _ _ _ h => h)
theorem erow_rd (he : Enc c z) {a : Option Addr} {n cap : Nat} (h : ERow c z T w (.slice a n cap) L) : RdE c z w a L := fun hp => by
  rcases erow_form h with ⟨_, rfl⟩ | ⟨g, cap', h1, hlt⟩
  · simp at hp
  · simp only [Value.slice.injEq] at h1
    obtain ⟨rfl, rfl, rfl⟩ := h1
    obtain ⟨_, C, hC, _, ht, _⟩ := erow_open he h
    exact ⟨g, 0, rfl, hlt, fun i x hx k v hv => by rw [Nat.zero_add]; exact hC.cell i k _ v (taken_at ht hx) hv⟩
theorem erow_snoc {n : Nat} {v' : Value} {x : α} (hn : n = L.length) (h : w.ownsRow 0 T z v' (n + 1) ((L.map c).flatten ++ c x)) : ERow c z T w v' (L ++ [x]) := by
  unfold ERow
  rw [List.map_append, List.flatten_append, List.length_append, ← hn]
  simpa using h
theorem erow_n {u : Sl} (h : ERow c z T w u.v L) : u.n = L.length := by
  obtain ⟨a, n, c⟩ := u
  obtain ⟨a', cap', e⟩ := erow_sl h
  simp [Sl.v] at e
  exact e.2.1
/-- a slice of new memory that holds D -/
def NewE (c : α → List Value) (z : Nat) (T : TypeId) (D : List α) (w : World) (v : Sl) (w' : World) : Prop := ERow c z T w' v.v D ∧ v.n = D.length ∧ ∀ b, v.v.ownBlock = some b → w.heap.size ≤ b
def NewPost (c : α → List Value) (z : Nat) (T : TypeId) (D : List α) (w : World) (e : Ending) (w' : World) : Prop := ∃ v : Sl, e = .returned (.slice v.a v.n v.c) ∧ NewE c z T D w v w' ∧ Below w.heap.size w w'
end

theorem erow_close {α : Type} {c : α → List Value} {z : Nat} {T : TypeId} {w : World} {g : Nat} {C : List (List Value)} {L : List α} (h : Rw z g T C w) (ht : C.take L.length = L.map c) (hl : L.length ≤ C.length) (hm : C.length ≤ maxLen) : ERow c z T w (.slice (some ⟨g, 0, none⟩) L.length C.length) L := by
  have := h.own hl hm
  rw [ht] at this
  exact this

def nilS : Sl := ⟨none, 0, 0⟩
/-- the five cells of an item -/
def ci (x : It) (s : Sl) : List Value := [.int .i64 x.id, .int .u32 x.inc, .int .u64 x.since, .int .u64 x.hold, .slice s.a s.n s.c]
def cp (p : It × Sl) : List Value := ci p.1 p.2
theorem ci_ones (x : It) (s : Sl) : ∀ u ∈ ci x s, u.oneCell' = true := by
  intro u hu
  simp only [ci, List.mem_cons, List.not_mem_nil, or_false] at hu
  rcases hu with rfl | rfl | rfl | rfl | rfl <;> rfl
theorem cp_enc : Enc cp 5 := ⟨by decide, fun _ => rfl, fun x u hu => ci_ones _ _ u hu⟩
def updV (V : Nat → Sl) (i : Nat) (s : Sl) : Nat → Sl := fun j => if j = i then s else V j
theorem updV_same (V : Nat → Sl) (i : Nat) (s : Sl) : updV V i s i = s := by unfold updV; rw [if_pos rfl]
theorem updV_ne {V : Nat → Sl} {i j : Nat} {s : Sl} (h : j ≠ i) : updV V i s j = V j := by unfold updV; rw [if_neg h]
theorem nil_own (b : Nat) : nilS.v.ownBlock ≠ some b := by intro h; simp [nilS, Sl.v, Value.ownBlock] at h
/-- two rows of other element types have no block in common -/
theorem rows_apart {α β : Type} {c : α → List Value} {d : β → List Value} {z y : Nat} {T U : TypeId} {w : World} {v u : Value} {L : List α} {M : List β} (h : ERow c z T w v L) (h2 : ERow d y U w u M) (hT : T ≠ U) {b : Nat} (hb : v.ownBlock = some b) (hb2 : u.ownBlock = some b) : False := by
  rcases h.2 with ⟨rfl, _⟩ | ⟨g, cap, cur, rfl, _, hg, _⟩
  · simp [Value.ownBlock] at hb
  · rcases h2.2 with ⟨rfl, _⟩ | ⟨g', cap', cur', rfl, _, hg', _⟩
    · simp [Value.ownBlock] at hb2
    · obtain rfl : g = b := by injection hb
      obtain rfl : g' = g := by injection hb2
      rw [hg] at hg'
      injection hg' with hg'
      injection hg' with _ h3
      exact hT h3
/-- a block of another type is no row's -/
theorem row_not {α : Type} {c : α → List Value} {z : Nat} {T U : TypeId} {w : World} {v : Value} {L : List α} (h : ERow c z T w v L) {g : Nat} {cur : Array Value} {fr : Nat × Nat} (hg : w.heap[g]? = some (.cells cur U fr)) (hT : T ≠ U) : v.ownBlock ≠ some g := by
  intro hb
  rcases h.2 with ⟨rfl, _⟩ | ⟨g2, cap, cur2, rfl, _, hg2, _⟩
  · simp [Value.ownBlock] at hb
  · obtain rfl : g2 = g := by injection hb
    rw [hg] at hg2
    injection hg2 with hg2
    injection hg2 with _ h3
    exact hT h3.symm
/-- the program's: an array of 33 items -/
structure Ds (g : Nat) (V : Nat → Sl) (k : Nat → It) (w : World) : Prop where
  heap : w.heap[g]? = some (.cells ((List.range 33).map fun i => ci (k i) (V i)).flatten.toArray 61 (0, 0))
  who : ∀ i, ERow c64 1 3 w (V i).v (k i).who
  ap : ∀ i j b, (V i).v.ownBlock = some b → (V j).v.ownBlock = some b → i = j
  zero : ∀ i, susp (k i) = false → V i = nilS
  ok : OkD k
def DOwn (g : Nat) (V : Nat → Sl) (b : Nat) : Prop := b = g ∨ ∃ i, (V i).v.ownBlock = some b
def zCells : List Value := ((List.range 33).map fun _ => ci zIt nilS).flatten
theorem z_info : (Try.prog.info? 61).map (fun i => (i.zero, i.size)) = some (some (.agg zCells.toArray), 165) := by kernel_rfl
theorem z_cells : zCells.toArray.size = 165 := by kernel_rfl
theorem ci5 (k : Nat → It) (V : Nat → Sl) : ∀ c ∈ (List.range 33).map fun i => ci (k i) (V i), c.length = 5 := by
  intro c hc
  obtain ⟨i, _, rfl⟩ := List.mem_map.1 hc
  rfl
theorem ci_len (k : Nat → It) (V : Nat → Sl) : ((List.range 33).map fun i => ci (k i) (V i)).flatten.length = 165 := by
  rw [flatten_len (z := 5) _ (ci5 k V), List.length_map, List.length_range]
theorem ci_set (k : Nat → It) (V : Nat → Sl) (i : Nat) (x : It) (s : Sl) (hi : i < 33) : ((List.range 33).map fun j => ci (k j) (V j)).set i (ci x s) = (List.range 33).map fun j => ci (updD k i x j) (updV V i s j) := by
  apply List.ext_getElem?
  intro j
  rw [List.getElem?_set]
  by_cases hj : i = j
  · subst hj
    rw [if_pos rfl, if_pos (by simpa using hi), List.getElem?_map, List.getElem?_range hi]
    simp [updD_same, updV_same]
  · rw [if_neg hj, List.getElem?_map, List.getElem?_map]
    by_cases h2 : j < 33
    · rw [List.getElem?_range h2]; simp [updD_ne (fun e => hj e.symm), updV_ne (fun e => hj e.symm)]
    · rw [List.getElem?_eq_none (by simpa using h2)]; rfl
theorem heap_lt' {w : World} {g : Nat} {o : Obj} (h : w.heap[g]? = some o) : g < w.heap.size := by
  rcases Nat.lt_or_ge g w.heap.size with h1 | h1
  · exact h1
  · rw [Array.getElem?_eq_none h1] at h; cases h
section
variable {g : Nat} {V V' : Nat → Sl} {k k' : Nat → It} {w w' w2 : World} {F : Nat → Prop}
theorem Ds.glt (h : Ds g V k w) : g < w.heap.size := heap_lt' h.heap
theorem Ds.free (h : Ds g V k w) (o : Nat) : w.frozen? ⟨g, o, none⟩ = false := frozen_of_row w g o _ _ h.heap
theorem Ds.lt (h : Ds g V k w) : ∀ b, DOwn g V b → b < w.heap.size := by
  rintro b (rfl | ⟨i, hb⟩)
  · exact h.glt
  · exact erow_lt (h.who i) hb
theorem Ds.touch (h : Ds g V k w) (ht : Touch F w w') (hF : ∀ b, DOwn g V b → ¬ F b) : Ds g V k w' :=
  ⟨(ht.block g h.glt (hF g (.inl rfl))).trans h.heap, fun i => erow_touch (h.who i) ht (fun b hb => hF b (.inr ⟨i, hb⟩)), h.ap, h.zero, h.ok⟩
theorem Ds.keep (h : Ds g V k w) (hb : Below w.heap.size w w') : Ds g V k w' := h.touch (Touch.of_below (fun _ => False) hb) (fun _ _ h => h)
theorem Ds.cell (h : Ds g V k w) (i : Nat) (hi : i < 33) (j : Nat) (u : Value) (hu : (ci (k i) (V i))[j]? = some u) : w.cell? ⟨g, i * 5 + j, none⟩ = some u := by
  rw [cell_of_row w g _ _ _ _ h.heap]
  have hj : j < 5 := (List.getElem?_eq_some_iff.1 hu).1
  rw [List.getElem?_toArray]
  rw [flatten_at (z := 5) _ (ci5 k V) i j hj (ci (k i) (V i)) (by rw [List.getElem?_map, List.getElem?_range hi]; rfl)]
  exact hu
theorem Ds.new (w : World) : Ds w.heap.size (fun _ => nilS) newD (w.alloc (.cells zCells.toArray 61)) := by
  refine ⟨heap_alloc_new _ _, fun i => erow_nil, fun i j b hb => absurd hb (nil_own b), fun _ _ => rfl, new_ok⟩
/-- an item is another one -/
theorem Ds.put (h : Ds g V k w) {i : Nat} (hi : i < 33) {x : It} {s : Sl} {w3 : World} (hok : OkD (updD k i x)) (hz : susp x = false → s = nilS)
    (h3 : w3.heap[g]? = some (.cells (((List.range 33).map fun j => ci (k j) (V j)).set i (ci x s)).flatten.toArray 61 (0, 0)))
    (ht : Touch (fun b => b = g ∨ (V i).v.ownBlock = some b) w w3) (hr : ERow c64 1 3 w3 s.v x.who) (hn : ∀ b, s.v.ownBlock = some b → (V i).v.ownBlock = some b ∨ w.heap.size ≤ b) : Ds g (updV V i s) (updD k i x) w3 := by
  have hge : ∀ j, (V j).v.ownBlock ≠ some g := fun j => row_not (h.who j) h.heap (by decide)
  refine ⟨by rw [← ci_set k V i x s hi]; exact h3, fun j => ?_, fun a b c ha hb => ?_, fun j hj => ?_, hok⟩
  · by_cases e : j = i
    · subst e; rw [updV_same, updD_same]; exact hr
    · rw [updV_ne e, updD_ne e]
      exact erow_touch (h.who j) ht (fun b hb hf => by
        rcases hf with rfl | hf
        · exact hge j hb
        · exact e (h.ap j i b hb hf))
  · by_cases e1 : a = i
    · by_cases e2 : b = i
      · rw [e1, e2]
      · rw [e1, updV_same] at ha
        rw [updV_ne e2] at hb
        rcases hn c ha with h1 | h1
        · exact absurd (h.ap _ _ _ hb h1) e2
        · have := erow_lt (h.who b) hb; omega
    · rw [updV_ne e1] at ha
      by_cases e2 : b = i
      · rw [e2, updV_same] at hb
        rcases hn c hb with h1 | h1
        · exact absurd (h.ap _ _ _ ha h1) e1
        · have := erow_lt (h.who a) ha; omega
      · rw [updV_ne e2] at hb
        exact h.ap _ _ _ ha hb
  · by_cases e : j = i
    · subst e; rw [updV_same]; rw [updD_same] at hj; exact hz hj
    · rw [updV_ne e]; rw [updD_ne e] at hj; exact h.zero j hj
theorem own_upd {i : Nat} {s : Sl} {B : Nat} (hn : ∀ b, s.v.ownBlock = some b → (V i).v.ownBlock = some b ∨ B ≤ b) : ∀ b, DOwn g (updV V i s) b → DOwn g V b ∨ B ≤ b := by
  rintro b (rfl | ⟨j, hb⟩)
  · exact .inl (.inl rfl)
  · by_cases e : j = i
    · rw [e, updV_same] at hb
      exact (hn b hb).imp (fun h => .inr ⟨i, h⟩) id
    · rw [updV_ne e] at hb
      exact .inl (.inr ⟨j, hb⟩)
end
/-- behind a call: it holds k', and nothing turned but what is its own -/
def DAft (g : Nat) (V : Nat → Sl) (k' : Nat → It) (w w' : World) : Prop := ∃ V', Ds g V' k' w' ∧ Touch (DOwn g V) w w' ∧ ∀ b, DOwn g V' b → DOwn g V b ∨ w.heap.size ≤ b
section
variable {g : Nat} {V V1 : Nat → Sl} {k k' : Nat → It} {w w1 w' : World}
theorem Ds.same (h : Ds g V k w) (hb : Below w.heap.size w w') : DAft g V k w w' := ⟨V, h.keep hb, Touch.of_below _ hb, fun _ hb => .inl hb⟩
theorem DAft.after (hb : Below w.heap.size w w1) (h : DAft g V k' w1 w') : DAft g V k' w w' := by
  obtain ⟨V', h1, h2, h3⟩ := h
  exact ⟨V', h1, (Touch.of_below _ hb).trans h2 (fun _ _ h => h), fun b hk => (h3 b hk).imp id (fun h => Nat.le_trans hb.size h)⟩
theorem DAft.then_ (h : DAft g V k' w w1) (hb : Below w1.heap.size w1 w') : DAft g V k' w w' := by
  obtain ⟨V', h1, h2, h3⟩ := h
  exact ⟨V', h1.keep hb, h2.trans (Touch.of_below (DOwn g V) hb) (fun _ _ h => h), h3⟩
theorem DAft.trans (h2 : Touch (DOwn g V) w w1) (h3 : ∀ b, DOwn g V1 b → DOwn g V b ∨ w.heap.size ≤ b) (h : DAft g V1 k' w1 w') : DAft g V k' w w' := by
  obtain ⟨V', h4, h5, h6⟩ := h
  have hm : ∀ b, b < w.heap.size → DOwn g V1 b → DOwn g V b := fun b hb h => (h3 b h).resolve_right (by omega)
  exact ⟨V', h4, h2.trans h5 hm, fun b hb => by
    rcases h6 b hb with h | h
    · exact h3 b h
    · exact .inr (Nat.le_trans h2.size h)⟩
/-- a whole item is stored, that nobody confirms -/
theorem Ds.store (h : Ds g V k w) {i : Nat} (hi : i < 33) {x : It} (hw : x.who = []) (hok : OkD (updD k i x)) : DAft g V (updD k i x) w (w.setCells g (i * 5) (ci x nilS)) := by
  have h3 := heap_setCells g 61 (ci x nilS) (i * 5) w _ h.heap (by rw [ci_len]; simp [ci]; omega)
  have h4 := flatten_splice (z := 5) ((List.range 33).map fun j => ci (k j) (V j)) [ci x nilS] (ci5 k V) (by simp [ci]) i
  rw [splice_one _ _ _ (by simpa using hi)] at h4
  simp only [List.flatten_cons, List.flatten_nil, List.append_nil] at h4
  rw [h4] at h3
  have ht : ∀ (F : Nat → Prop), F g → Touch F w (w.setCells g (i * 5) (ci x nilS)) := fun F hF => Touch.sets (Touch.refl F w) g (fun _ => hF) _ _
  have hn : ∀ b, nilS.v.ownBlock = some b → (V i).v.ownBlock = some b ∨ w.heap.size ≤ b := fun b hb => absurd hb (nil_own b)
  refine ⟨updV V i nilS, h.put hi hok (fun _ => rfl) h3 (ht _ (.inl rfl)) (by rw [hw]; exact erow_nil) hn, ht _ (.inl rfl), own_upd hn⟩
end
end Go.Proofs.Ytplllaafllcigaa
