/- Rows of elements of any kind (taken from chapter 15). -/
import Derived.Test.YtdpgmdkclaahdaaOwn
import Derived.Deep.WholeRow
namespace Go.Proofs.Ytdpgmdkclaahdaa
open Go.Sort Go.RowKit Go.BigFrame
set_option linter.unusedVariables false
set_option linter.unusedSimpArgs false

/-- how an element lies in memory: so many cells -/
structure Enc {α : Type} (c : α → List Value) (z : Nat) : Prop where
  pos : 0 < z
  len : ∀ x, (c x).length = z
  one : ∀ x u, u ∈ c x → u.oneCell' = true
def c64 (x : Int) : List Value := [.int .i64 x]
theorem c64_enc : Enc c64 1 := ⟨by decide, fun _ => rfl, fun x u hu => by
  simp only [c64, List.mem_cons, List.not_mem_nil, or_false] at hu
  rcases hu with rfl; rfl⟩
section
variable {α : Type} {c : α → List Value} {z : Nat} {T : TypeId} {w w' : World} {v : Value} {L : List α} {F : Nat → Prop}
def ERow (c : α → List Value) (z : Nat) (T : TypeId) (w : World) (v : Value) (L : List α) : Prop := w.ownsRow 0 T z v L.length (L.map c).flatten
theorem Enc.all (h : Enc c z) (L : List α) : ∀ x ∈ L.map c, x.length = z := by
  intro x hx
  obtain ⟨y, _, rfl⟩ := List.mem_map.1 hx
  exact h.len y
theorem Enc.ones (h : Enc c z) (L : List α) : ∀ u ∈ (L.map c).flatten, u.oneCell' = true := by
  intro u hu
  obtain ⟨y, hy, hu⟩ := List.mem_flatten.1 hu
  obtain ⟨x, _, rfl⟩ := List.mem_map.1 hy
  exact h.one x u hu
theorem erow_nil : ERow c z T w (.slice none 0 0) [] := World.ownsRow_nil _ _ _ _
theorem erow_form (h : ERow c z T w v L) : (v = .slice none 0 0 ∧ L = []) ∨ ∃ g cap, v = .slice (some ⟨g, 0, none⟩) L.length cap ∧ g < w.heap.size := by
  rcases h.2 with ⟨rfl, h0⟩ | ⟨g, cap, cur, rfl, _, hg, _⟩
  · exact .inl ⟨rfl, List.eq_nil_of_length_eq_zero h0⟩
  · refine .inr ⟨g, cap, rfl, ?_⟩
    rcases Nat.lt_or_ge g w.heap.size with h1 | h1
    · exact h1
    · rw [Array.getElem?_eq_none h1] at hg; cases hg
theorem erow_sl (h : ERow c z T w v L) : ∃ a cap, v = .slice a L.length cap := by
  rcases erow_form h with ⟨h1, h2⟩ | ⟨g, cap, h1, _⟩
  · exact ⟨none, 0, by rw [h1, h2]; rfl⟩
  · exact ⟨_, _, h1⟩
theorem erow_open (he : Enc c z) {g n cap : Nat} (h : ERow c z T w (.slice (some ⟨g, 0, none⟩) n cap) L) : n = L.length ∧ ∃ C, Rw z g T C w ∧ C.length = cap ∧ C.take L.length = L.map c ∧ L.length ≤ cap ∧ cap ≤ maxLen := by
  have hn : n = L.length := by
    rcases erow_form h with ⟨h1, _⟩ | ⟨_, _, h1, _⟩
    · simp at h1
    · simp at h1; exact h1.2.1
  subst hn
  obtain ⟨C, h1, h2, h3, h4, h5, _⟩ := Rw.of_own he.pos h
  refine ⟨rfl, C, h1, h2, ?_, h3, h4⟩
  exact flatten_inj (z := z) _ _ he.pos (fun x hx => h1.all x (List.mem_of_mem_take hx)) (he.all L) h5
theorem erow_touch (h : ERow c z T w v L) (ht : Touch F w w') (hF : ∀ k, v.ownBlock = some k → ¬ F k) : ERow c z T w' v L := own_touch h ht hF
theorem erow_keep (h : ERow c z T w v L) (hb : Below w.heap.size w w') : ERow c z T w' v L := erow_touch h (Touch.of_below (fun _ => False) hb) (fun _ _ h => h)
theorem erow_lt (h : ERow c z T w v L) {k : Nat} (hk : v.ownBlock = some k) : k < w.heap.size := (World.ownsRow.lt h k hk).2
/-- a slice that can be read -/
def RdE (c : α → List Value) (z : Nat) (w : World) (a : Option Addr) (L : List α) : Prop :=
  0 < L.length → ∃ b off, a = some ⟨b, off, none⟩ ∧ b < w.heap.size ∧ ∀ i x, L[i]? = some x → ∀ k u, (c x)[k]? = some u → w.cell? ⟨b, off + i * z + k, none⟩ = some u
theorem RdE.touch {a : Option Addr} (h : RdE c z w a L) (ht : Touch F w w') (hF : ∀ b off, a = some ⟨b, off, none⟩ → ¬ F b) : RdE c z w' a L := fun hp => by
  obtain ⟨b, off, rfl, hB, hc⟩ := h hp
  exact ⟨b, off, rfl, Nat.lt_of_lt_of_le hB ht.size, fun i x hx k v hv => (ht.cell (p := ⟨b, off + i * z + k, none⟩) hB (hF b off rfl)).trans (hc i x hx k v hv)⟩
theorem RdE.keep {a : Option Addr} (h : RdE c z w a L) (hb : Below w.heap.size w w') : RdE c z w' a L := h.touch (Touch.of_below (fun _ => False) hb) (fun _ _ _ h => h)
theorem erow_rd (he : Enc c z) {a : Option Addr} {n cap : Nat} (h : ERow c z T w (.slice a n cap) L) : RdE c z w a L := fun hp => by
  rcases erow_form h with ⟨_, rfl⟩ | ⟨g, cap', h1, hlt⟩
  · simp at hp
  · simp only [Value.slice.injEq] at h1
    obtain ⟨rfl, rfl, rfl⟩ := h1
    obtain ⟨_, C, hC, _, ht, _⟩ := erow_open he h
    exact ⟨g, 0, rfl, hlt, fun i x hx k v hv => by rw [Nat.zero_add]; exact hC.cell i k _ v (taken_at ht hx) hv⟩
theorem erow_snoc {n : Nat} {v' : Value} {x : α} (hn : n = L.length) (h : w.ownsRow 0 T z v' (n + 1) ((L.map c).flatten ++ c x)) : ERow c z T w v' (L ++ [x]) := by
  unfold ERow
  rw [List.map_append, List.flatten_append, List.length_append, ← hn]
  simpa using h
theorem erow_n {u : Sl} (h : ERow c z T w u.v L) : u.n = L.length := by
  obtain ⟨a, n, c⟩ := u
  obtain ⟨a', cap', e⟩ := erow_sl h
  simp [Sl.v] at e
  exact e.2.1
/-- a slice of new memory that holds D -/
def NewE (c : α → List Value) (z : Nat) (T : TypeId) (D : List α) (w : World) (v : Sl) (w' : World) : Prop := ERow c z T w' v.v D ∧ v.n = D.length ∧ ∀ b, v.v.ownBlock = some b → w.heap.size ≤ b
def NewPost (c : α → List Value) (z : Nat) (T : TypeId) (D : List α) (w : World) (e : Ending) (w' : World) : Prop := ∃ v : Sl, e = .returned (.slice v.a v.n v.c) ∧ NewE c z T D w v w' ∧ Below w.heap.size w w'
end

theorem erow_close {α : Type} {c : α → List Value} {z : Nat} {T : TypeId} {w : World} {g : Nat} {C : List (List Value)} {L : List α} (h : Rw z g T C w) (ht : C.take L.length = L.map c) (hl : L.length ≤ C.length) (hm : C.length ≤ maxLen) : ERow c z T w (.slice (some ⟨g, 0, none⟩) L.length C.length) L := by
  have := h.own hl hm
  rw [ht] at this
  exact this

def nilS : Sl := ⟨none, 0, 0⟩
theorem nil_own (b : Nat) : nilS.v.ownBlock ≠ some b := by intro h; simp [nilS, Sl.v, Value.ownBlock] at h
/-- two rows of other element types have no block in common -/
theorem rows_apart {α β : Type} {c : α → List Value} {d : β → List Value} {z y : Nat} {T U : TypeId} {w : World} {v u : Value} {L : List α} {M : List β} (h : ERow c z T w v L) (h2 : ERow d y U w u M) (hT : T ≠ U) {b : Nat} (hb : v.ownBlock = some b) (hb2 : u.ownBlock = some b) : False := by
  rcases h.2 with ⟨rfl, _⟩ | ⟨g, cap, cur, rfl, _, hg, _⟩
  · simp [Value.ownBlock] at hb
  · rcases h2.2 with ⟨rfl, _⟩ | ⟨g', cap', cur', rfl, _, hg', _⟩
    · simp [Value.ownBlock] at hb2
    · obtain rfl : g = b := by injection hb
      obtain rfl : g' = g := by injection hb2
      rw [hg] at hg'
      injection hg' with hg'
      injection hg' with _ h3
      exact hT h3
/-- a block of another type is no row's -/
theorem row_not {α : Type} {c : α → List Value} {z : Nat} {T U : TypeId} {w : World} {v : Value} {L : List α} (h : ERow c z T w v L) {g : Nat} {cur : Array Value} {fr : Nat × Nat} (hg : w.heap[g]? = some (.cells cur U fr)) (hT : T ≠ U) : v.ownBlock ≠ some g := by
  intro hb
  rcases h.2 with ⟨rfl, _⟩ | ⟨g2, cap, cur2, rfl, _, hg2, _⟩
  · simp [Value.ownBlock] at hb
  · obtain rfl : g2 = g := by injection hb
    rw [hg] at hg2
    injection hg2 with hg2
    injection hg2 with _ h3
    exact hT h3.symm
end Go.Proofs.Ytdpgmdkclaahdaa
