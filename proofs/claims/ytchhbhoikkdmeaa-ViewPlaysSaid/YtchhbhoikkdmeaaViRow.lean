/- Rows of elements of any kind; a view of the program in memory. -/
import Derived.Test.YtchhbhoikkdmeaaOwn
import Derived.Test.YtchhbhoikkdmeaaRecJoin
import Derived.Deep.WholeRow
namespace Go.Proofs.Ytchhbhoikkdmeaa
open Go.Sort Go.RowKit Go.BigFrame
set_option linter.unusedVariables false
set_option linter.unusedSimpArgs false

/-- how an element lies in memory: so many cells -/
structure Enc {α : Type} (c : α → List Value) (z : Nat) : Prop where
  pos : 0 < z
  len : ∀ x, (c x).length = z
  one : ∀ x u, u ∈ c x → u.oneCell' = true
def ce (x : Ev) : List Value := [.int .i64 x.id, .int .i64 x.was, .int .i64 x.is, .int .u32 x.n]
def c64 (x : Int) : List Value := [.int .i64 x]
theorem rcs_enc : Enc rcs 5 := ⟨by decide, fun _ => rfl, fun x u hu => by
  simp only [rcs, List.mem_cons, List.not_mem_nil, or_false] at hu
  rcases hu with rfl | rfl | rfl | rfl | rfl <;> rfl⟩
theorem ce_enc : Enc ce 4 := ⟨by decide, fun _ => rfl, fun x u hu => by
  simp only [ce, List.mem_cons, List.not_mem_nil, or_false] at hu
  rcases hu with rfl | rfl | rfl | rfl <;> rfl⟩
theorem c64_enc : Enc c64 1 := ⟨by decide, fun _ => rfl, fun x u hu => by
  simp only [c64, List.mem_cons, List.not_mem_nil, or_false] at hu
  rcases hu with rfl; rfl⟩
section
variable {α : Type} {c : α → List Value} {z : Nat} {T : TypeId} {w w' : World} {v : Value} {L : List α} {F : Nat → Prop}
def ERow (c : α → List Value) (z : Nat) (T : TypeId) (w : World) (v : Value) (L : List α) : Prop := w.ownsRow 0 T z v L.length (L.map c).flatten
theorem Enc.all (h : Enc c z) (L : List α) : ∀ x ∈ L.map c, x.length = z := by
  intro x hx
  obtain ⟨y, _, rfl⟩ := List.mem_map.1 hx
  exact h.len y
theorem Enc.ones (h : Enc c z) (L : List α) : ∀ u ∈ (L.map c).flatten, u.oneCell' = true := by
  intro u hu
  obtain ⟨y, hy, hu⟩ := List.mem_flatten.1 hu
  obtain ⟨x, _, rfl⟩ := List.mem_map.1 hy
  exact h.one x u hu
theorem erow_nil : ERow c z T w (.slice none 0 0) [] := World.ownsRow_nil _ _ _ _
theorem erow_form (h : ERow c z T w v L) : (v = .slice none 0 0 ∧ L = []) ∨ ∃ g cap, v = .slice (some ⟨g, 0, none⟩) L.length cap ∧ g < w.heap.size := by
  rcases h.2 with ⟨rfl, h0⟩ | ⟨g, cap, cur, rfl, _, hg, _⟩
  · exact .inl ⟨rfl, List.eq_nil_of_length_eq_zero h0⟩
  · refine .inr ⟨g, cap, rfl, ?_⟩
    rcases Nat.lt_or_ge g w.heap.size with h1 | h1
    · exact h1
    · rw [Array.getElem?_eq_none h1] at hg; cases hg
theorem erow_sl (h : ERow c z T w v L) : ∃ a cap, v = .slice a L.length cap := by
  rcases erow_form h with ⟨h1, h2⟩ | ⟨g, cap, h1, _⟩
  · exact ⟨none, 0, by rw [h1, h2]; rfl⟩
  · exact ⟨_, _, h1⟩
theorem erow_open (he : Enc c z) {g n cap : Nat} (h : ERow c z T w (.slice (some ⟨g, 0, none⟩) n cap) L) : n = L.length ∧ ∃ C, Rw z g T C w ∧ C.length = cap ∧ C.take L.length = L.map c ∧ L.length ≤ cap ∧ cap ≤ maxLen := by
  have hn : n = L.length := by
    rcases erow_form h with ⟨h1, _⟩ | ⟨_, _, h1, _⟩
    · simp at h1
    · simp at h1; exact h1.2.1
  subst hn
  obtain ⟨C, h1, h2, h3, h4, h5, _⟩ := Rw.of_own he.pos h
  refine ⟨rfl, C, h1, h2, ?_, h3, h4⟩
  exact flatten_inj (z := z) _ _ he.pos (fun x hx => h1.all x (List.mem_of_mem_take hx)) (he.all L) h5
theorem erow_touch (h : ERow c z T w v L) (ht : Touch F w w') (hF : ∀ k, v.ownBlock = some k → ¬ F k) : ERow c z T w' v L := own_touch h ht hF
theorem erow_keep (h : ERow c z T w v L) (hb : Below w.heap.size w w') : ERow c z T w' v L := erow_touch h (Touch.of_below (fun _ => False) hb) (fun _ _ h => h)
theorem erow_lt (h : ERow c z T w v L) {k : Nat} (hk : v.ownBlock = some k) : k < w.heap.size := (World.ownsRow.lt h k hk).2
/-- a slice that can be read -/
def RdE (c : α → List Value) (z : Nat) (w : World) (a : Option Addr) (L : List α) : Prop :=
  0 < L.length → ∃ b off, a = some ⟨b, off, none⟩ ∧ b < w.heap.size ∧ ∀ i x, L[i]? = some x → ∀ k u, (c x)[k]? = some u → w.cell? ⟨b, off + i * z + k, none⟩ = some u
theorem RdE.touch {a : Option Addr} (h : RdE c z w a L) (ht : Touch F w w') (hF : ∀ b off, a = some ⟨b, off, none⟩ → ¬ F b) : RdE c z w' a L := fun hp => by
  obtain ⟨b, off, rfl, hB, hc⟩ := h hp
  exact ⟨b, off, rfl, Nat.lt_of_lt_of_le hB ht.size, fun i x hx k v hv => (ht.cell (p := ⟨b, off + i * z + k, none⟩) hB (hF b off rfl)).trans (hc i x hx k v hv)⟩
theorem RdE.keep {a : Option Addr} (h : RdE c z w a L) (hb : Below w.heap.size w w') : RdE c z w' a L := h.touch (Touch.of_below (fun _ => False) hb) (fun _ _ _ h => h)
theorem erow_rd (he : Enc c z) {a : Option Addr} {n cap : Nat} (h : ERow c z T w (.slice a n cap) L) : RdE c z w a L := fun hp => by
  rcases erow_form h with ⟨_, rfl⟩ | ⟨g, cap', h1, hlt⟩
  · simp at hp
  · simp only [Value.slice.injEq] at h1
    obtain ⟨rfl, rfl, rfl⟩ := h1
    obtain ⟨_, C, hC, _, ht, _⟩ := erow_open he h
    exact ⟨g, 0, rfl, hlt, fun i x hx k v hv => by rw [Nat.zero_add]; exact hC.cell i k _ v (taken_at ht hx) hv⟩
theorem erow_snoc {n : Nat} {v' : Value} {x : α} (hn : n = L.length) (h : w.ownsRow 0 T z v' (n + 1) ((L.map c).flatten ++ c x)) : ERow c z T w v' (L ++ [x]) := by
  unfold ERow
  rw [List.map_append, List.flatten_append, List.length_append, ← hn]
  simpa using h
theorem erow_n {u : Sl} (h : ERow c z T w u.v L) : u.n = L.length := by
  obtain ⟨a, n, c⟩ := u
  obtain ⟨a', cap', e⟩ := erow_sl h
  simp [Sl.v] at e
  exact e.2.1
/-- a slice of new memory that holds D -/
def NewE (c : α → List Value) (z : Nat) (T : TypeId) (D : List α) (w : World) (v : Sl) (w' : World) : Prop := ERow c z T w' v.v D ∧ v.n = D.length ∧ ∀ b, v.v.ownBlock = some b → w.heap.size ≤ b
def NewPost (c : α → List Value) (z : Nat) (T : TypeId) (D : List α) (w : World) (e : Ending) (w' : World) : Prop := ∃ v : Sl, e = .returned (.slice v.a v.n v.c) ∧ NewE c z T D w v w' ∧ Below w.heap.size w w'
end

/-! cells that are set, in lists one behind the other -/
theorem splice_left {α : Type} (A B D : List α) (o : Nat) (h : o + D.length ≤ A.length) : splice (A ++ B) o D = splice A o D ++ B := by
  simp only [splice]
  rw [List.take_append_of_le_length (by omega), List.drop_append_of_le_length h]
  simp
theorem splice_right {α : Type} (A B D : List α) (o : Nat) : splice (A ++ B) (A.length + o) D = A ++ splice B o D := by
  simp only [splice]
  rw [List.take_length_add_append, Nat.add_assoc, List.drop_length_add_append]
  simp

/-! a view of the program -/
/-- the cells of a view: what is known, the last events, how many there were -/
structure VC (v : Vw) (cur : List Value) : Prop where
  out : ∃ D : List (List Value), cur = ((List.range 33).map fun i => rcs (v.k i)).flatten ++ (D.flatten ++ [.int .u64 (v.E.length : Nat)]) ∧ (∀ d ∈ D, d.length = 4) ∧ D.length = 128 ∧ ∀ t x, v.E[t]? = some x → v.E.length ≤ t + 128 → D[t % 128]? = some (ce x)
structure Vs (g : Nat) (v : Vw) (w : World) : Prop where
  heap : ∃ cur : List Value, w.heap[g]? = some (.cells cur.toArray 82 (0, 0)) ∧ VC v cur
  ok : OkV v
/-- the cells of a new one -/
def zCells : List Value := ((List.range 33).map fun _ => rcs zRec).flatten ++ ((List.replicate 128 (ce ⟨0, 0, 0, 0⟩)).flatten ++ [.int .u64 0])
theorem z_info : (Try.prog.info? 82).map (fun i => (i.zero, i.size)) = some (some (.agg zCells.toArray), 678) := by kernel_rfl
theorem z_cells : zCells.toArray.size = 678 := by kernel_rfl
theorem known_len5 (k : Nat → Rec) : ((List.range 33).map fun i => rcs (k i)).flatten.length = 165 := by
  rw [flatten_len (z := 5) _ (by intro c hc; obtain ⟨i, _, rfl⟩ := List.mem_map.1 hc; rfl), List.length_map, List.length_range]
theorem known_set (k : Nat → Rec) (i : Nat) (r : Rec) (hi : i < 33) : ((List.range 33).map fun j => rcs (k j)).set i (rcs r) = (List.range 33).map fun j => rcs (upd k i r j) := by
  apply List.ext_getElem?
  intro j
  rw [List.getElem?_set]
  by_cases hj : i = j
  · subst hj
    rw [if_pos rfl, if_pos (by simpa using hi), List.getElem?_map, List.getElem?_range hi]
    simp [upd_same]
  · rw [if_neg hj, List.getElem?_map, List.getElem?_map]
    by_cases h2 : j < 33
    · rw [List.getElem?_range h2]; simp [upd_ne (fun e => hj e.symm)]
    · rw [List.getElem?_eq_none (by simpa using h2)]; rfl
section
variable {g : Nat} {v : Vw} {w w' : World} {F : Nat → Prop}
theorem heap_lt' {o : Obj} (h : w.heap[g]? = some o) : g < w.heap.size := by
  rcases Nat.lt_or_ge g w.heap.size with h1 | h1
  · exact h1
  · rw [Array.getElem?_eq_none h1] at h; cases h
theorem Vs.lt (h : Vs g v w) : g < w.heap.size := by
  obtain ⟨cur, h1, _⟩ := h.heap
  exact heap_lt' h1
theorem Vs.free (h : Vs g v w) (o : Nat) : w.frozen? ⟨g, o, none⟩ = false := by
  obtain ⟨cur, h1, _⟩ := h.heap
  exact frozen_of_row w g o _ _ h1
theorem Vs.touch (h : Vs g v w) (ht : Touch F w w') (hF : ¬ F g) : Vs g v w' := by
  have hl := h.lt
  obtain ⟨cur, h1, h2⟩ := h.heap
  exact ⟨⟨cur, (ht.block g hl hF).trans h1, h2⟩, h.ok⟩
theorem Vs.keep (h : Vs g v w) (hb : Below w.heap.size w w') : Vs g v w' := h.touch (Touch.of_below (fun _ => False) hb) (fun h => h)
theorem Vs.rec_ (h : Vs g v w) (i : Nat) (hi : i < 33) (j : Nat) (u : Value) (hu : (rcs (v.k i))[j]? = some u) : w.cell? ⟨g, i * 5 + j, none⟩ = some u := by
  obtain ⟨cur, h1, D, rfl, -, -, -⟩ := h.heap
  rw [cell_of_row w g _ _ _ _ h1]
  have hj : j < 5 := (List.getElem?_eq_some_iff.1 hu).1
  have hl : i * 5 + j < ((List.range 33).map fun i => rcs (v.k i)).flatten.length := by rw [known_len5]; omega
  rw [List.getElem?_toArray, List.getElem?_append_left hl]
  rw [flatten_at (z := 5) _ (by intro c hc; obtain ⟨i, _, rfl⟩ := List.mem_map.1 hc; rfl) i j hj (rcs (v.k i)) (by rw [List.getElem?_map, List.getElem?_range hi]; rfl)]
  exact hu
theorem Vs.ev (h : Vs g v w) (t : Nat) (x : Ev) (hx : v.E[t]? = some x) (ht : v.E.length ≤ t + 128) (j : Nat) (u : Value) (hu : (ce x)[j]? = some u) : w.cell? ⟨g, 165 + t % 128 * 4 + j, none⟩ = some u := by
  obtain ⟨cur, h1, D, rfl, hD, hDl, hE⟩ := h.heap
  rw [cell_of_row w g _ _ _ _ h1]
  have hj : j < 4 := (List.getElem?_eq_some_iff.1 hu).1
  have hl : D.flatten.length = 512 := by rw [flatten_len D hD, hDl]
  have hm : t % 128 < 128 := Nat.mod_lt _ (by decide)
  rw [List.getElem?_toArray, List.getElem?_append_right (by rw [known_len5]; omega), known_len5, List.getElem?_append_left (by rw [hl]; omega)]
  rw [show 165 + t % 128 * 4 + j - 165 = t % 128 * 4 + j by omega, flatten_at D hD (t % 128) j hj _ (hE t x hx ht)]
  exact hu
theorem Vs.seen (h : Vs g v w) : w.cell? ⟨g, 677, none⟩ = some (.int .u64 (v.E.length : Nat)) := by
  obtain ⟨cur, h1, D, rfl, hD, hDl, hE⟩ := h.heap
  have hl : D.flatten.length = 512 := by rw [flatten_len D hD, hDl]
  rw [cell_of_row w g _ _ _ _ h1, List.getElem?_toArray, List.getElem?_append_right (by rw [known_len5]; decide), known_len5, List.getElem?_append_right (by rw [hl]; decide), hl]
  rfl
/-- there is a cell -/
theorem Vs.has (h : Vs g v w) (o : Nat) (ho : o < 678) : ∃ u, w.cell? ⟨g, o, none⟩ = some u := by
  obtain ⟨cur, h1, D, rfl, hD, hDl, hE⟩ := h.heap
  have hl : D.flatten.length = 512 := by rw [flatten_len D hD, hDl]
  rw [cell_of_row w g _ _ _ _ h1, List.getElem?_toArray, List.getElem?_eq_getElem (by rw [List.length_append, List.length_append, known_len5, hl]; simpa using ho)]
  exact ⟨_, rfl⟩
theorem Vs.new (w : World) : Vs w.heap.size newV (w.alloc (.cells zCells.toArray 82)) := by
  refine ⟨⟨zCells, heap_alloc_new _ _, List.replicate 128 (ce ⟨0, 0, 0, 0⟩), rfl, ?_, by simp, ?_⟩, new_ok⟩
  · intro d hd
    rw [List.mem_replicate] at hd
    rw [hd.2]; rfl
  · intro t x hx; simp [newV] at hx
/-- a record is stored -/
theorem Vs.put (h : Vs g v w) (i : Nat) (hi : i < 33) (r : Rec) (hok : OkV ⟨upd v.k i r, v.E⟩) : Vs g ⟨upd v.k i r, v.E⟩ (w.setCells g (i * 5) (rcs r)) := by
  obtain ⟨cur, h1, D, rfl, hD, hDl, hE⟩ := h.heap
  have hl : D.flatten.length = 512 := by rw [flatten_len D hD, hDl]
  have h2 := heap_setCells g 82 (rcs r) (i * 5) w _ h1 (by rw [List.length_append, List.length_append, known_len5, hl]; simp [rcs]; omega)
  rw [splice_left _ _ _ _ (by rw [known_len5]; simp [rcs]; omega)] at h2
  have h3 := flatten_splice (z := 5) ((List.range 33).map fun i => rcs (v.k i)) [rcs r] (by intro c hc; obtain ⟨i, _, rfl⟩ := List.mem_map.1 hc; rfl) (by simp [rcs]) i
  rw [splice_one _ _ _ (by simpa using hi), known_set v.k i r hi] at h3
  simp only [List.flatten_cons, List.flatten_nil, List.append_nil] at h3
  rw [h3] at h2
  exact ⟨⟨_, h2, D, rfl, hD, hDl, hE⟩, hok⟩
/-- an event is stored, and counted -/
theorem Vs.note (h : Vs g v w) (x : Ev) : Vs g ⟨v.k, v.E ++ [x]⟩ (((w.setCells g (165 + v.E.length % 128 * 4) (ce x)).drew).setCell ⟨g, 677, none⟩ (.int .u64 ((v.E.length : Int) + 1))) := by
  obtain ⟨cur, h1, D, rfl, hD, hDl, hE⟩ := h.heap
  have hl : D.flatten.length = 512 := by rw [flatten_len D hD, hDl]
  have hm : v.E.length % 128 < 128 := Nat.mod_lt _ (by decide)
  have h2 := heap_setCells g 82 (ce x) (165 + v.E.length % 128 * 4) w _ h1 (by rw [List.length_append, List.length_append, known_len5, hl]; simp [ce]; omega)
  have e := splice_right ((List.range 33).map fun i => rcs (v.k i)).flatten (D.flatten ++ [Value.int .u64 (v.E.length : Nat)]) (ce x) (v.E.length % 128 * 4)
  rw [known_len5] at e
  rw [e, splice_left _ _ _ _ (by rw [hl]; simp [ce]; omega)] at h2
  have h3 := flatten_splice (z := 4) D [ce x] hD (by simp [ce]) (v.E.length % 128)
  rw [splice_one _ _ _ (by omega)] at h3
  simp only [List.flatten_cons, List.flatten_nil, List.append_nil] at h3
  rw [h3] at h2
  have hD' : ∀ d ∈ D.set (v.E.length % 128) (ce x), d.length = 4 := set_all hD _ _ rfl
  have hl' : (D.set (v.E.length % 128) (ce x)).flatten.length = 512 := by rw [flatten_len _ hD', List.length_set, hDl]
  have h4 := heap_setCell_same (w.setCells g (165 + v.E.length % 128 * 4) (ce x)).drew g 677 _ 82 (.int .u64 ((v.E.length : Int) + 1)) h2
  rw [List.setIfInBounds_toArray] at h4
  refine ⟨⟨_, h4, D.set (v.E.length % 128) (ce x), ?_, hD', by rw [List.length_set]; exact hDl, fun t y hy ht => ?_⟩, ⟨h.ok.ok, fun i hi => h.ok.id i hi⟩⟩
  · rw [List.set_append_right _ _ (by rw [known_len5]; decide), known_len5, List.set_append_right _ _ (by rw [hl']; decide), hl']
    simp
  · simp only [List.length_append, List.length_cons, List.length_nil] at ht
    rw [List.getElem?_set]
    by_cases he : v.E.length % 128 = t % 128
    · rw [if_pos he, if_pos (by omega)]
      have htl : t < (v.E ++ [x]).length := (List.getElem?_eq_some_iff.1 hy).1
      simp only [List.length_append, List.length_cons, List.length_nil] at htl
      obtain rfl : t = v.E.length := by omega
      rw [List.getElem?_append_right (Nat.le_refl _), Nat.sub_self] at hy
      simp at hy; rw [hy]
    · rw [if_neg he]
      have htl : t < (v.E ++ [x]).length := (List.getElem?_eq_some_iff.1 hy).1
      simp only [List.length_append, List.length_cons, List.length_nil] at htl
      have : t < v.E.length := by
        rcases Nat.lt_or_ge t v.E.length with h5 | h5
        · exact h5
        · obtain rfl : t = v.E.length := by omega
          exact (he rfl).elim
      rw [List.getElem?_append_left this] at hy
      exact hE t y hy (by omega)
end
/-- behind a call: the view holds v', and nothing turned but its block -/
def VAft (g : Nat) (v' : Vw) (w w' : World) : Prop := Vs g v' w' ∧ Touch (fun k => k = g) w w'
section
variable {g : Nat} {v v' v2 : Vw} {w w1 w' : World}
theorem Vs.same (h : Vs g v w) (hb : Below w.heap.size w w') : VAft g v w w' := ⟨h.keep hb, Touch.of_below _ hb⟩
theorem VAft.after (hb : Below w.heap.size w w1) (h : VAft g v' w1 w') : VAft g v' w w' := ⟨h.1, (Touch.of_below _ hb).trans h.2 (fun _ _ h => h)⟩
theorem VAft.then_ (h : VAft g v' w w1) (hb : Below w1.heap.size w1 w') : VAft g v' w w' := ⟨h.1.keep hb, h.2.trans (Touch.of_below (fun k => k = g) hb) (fun _ _ h => h)⟩
theorem VAft.trans (h : VAft g v' w w1) (h2 : VAft g v2 w1 w') : VAft g v2 w w' := ⟨h2.1, h.2.trans h2.2 (fun _ _ h => h)⟩
end
end Go.Proofs.Ytchhbhoikkdmeaa
