/- Rows of elements of any kind; a queue of either program in memory. -/
import Derived.Test.YthebcaielbnhjaaOwn
import Derived.Test.YthebcaielbnhjaaRecJoin
import Derived.Test.YthebcaielbnhjaaQuMath
import Derived.Deep.WholeRow
namespace Go.Proofs.Ythebcaielbnhjaa
open Go.Sort Go.RowKit Go.BigFrame
set_option linter.unusedVariables false
set_option linter.unusedSimpArgs false

/-- how an element lies in memory: so many cells -/
structure Enc {α : Type} (c : α → List Value) (z : Nat) : Prop where
  pos : 0 < z
  len : ∀ x, (c x).length = z
  one : ∀ x u, u ∈ c x → u.oneCell' = true
def c64 (x : Int) : List Value := [.int .i64 x]
theorem rcs_enc : Enc rcs 5 := ⟨by decide, fun _ => rfl, fun x u hu => by
  simp only [rcs, List.mem_cons, List.not_mem_nil, or_false] at hu
  rcases hu with rfl | rfl | rfl | rfl | rfl <;> rfl⟩
theorem c64_enc : Enc c64 1 := ⟨by decide, fun _ => rfl, fun x u hu => by
  simp only [c64, List.mem_cons, List.not_mem_nil, or_false] at hu
  rcases hu with rfl; rfl⟩
section
variable {α : Type} {c : α → List Value} {z : Nat} {T : TypeId} {w w' : World} {v : Value} {L : List α} {F : Nat → Prop}
def ERow (c : α → List Value) (z : Nat) (T : TypeId) (w : World) (v : Value) (L : List α) : Prop := w.ownsRow 0 T z v L.length (L.map c).flatten
theorem Enc.all (h : Enc c z) (L : List α) : ∀ x ∈ L.map c, x.length = z := by
  intro x hx
  obtain ⟨y, _, rfl⟩ := List.mem_map.1 hx
  exact h.len y
theorem Enc.ones (h : Enc c z) (L : List α) : ∀ u ∈ (L.map c).flatten, u.oneCell' = true := by
  intro u hu
  obtain ⟨y, hy, hu⟩ := List.mem_flatten.1 hu
  obtain ⟨x, _, rfl⟩ := List.mem_map.1 hy
  exact h.one x u hu
theorem erow_nil : ERow c z T w (.slice none 0 0) [] := World.ownsRow_nil _ _ _ _
theorem erow_form (h : ERow c z T w v L) : (v = .slice none 0 0 ∧ L = []) ∨ ∃ g cap, v = .slice (some ⟨g, 0, none⟩) L.length cap ∧ g < w.heap.size := by
  rcases h.2 with ⟨rfl, h0⟩ | ⟨g, cap, cur, rfl, _, hg, _⟩
  · exact .inl ⟨rfl, List.eq_nil_of_length_eq_zero h0⟩
  · refine .inr ⟨g, cap, rfl, ?_⟩
    rcases Nat.lt_or_ge g w.heap.size with h1 | h1
    · exact h1
    · rw [Array.getElem?_eq_none h1] at hg; cases hg
theorem erow_sl (h : ERow c z T w v L) : ∃ a cap, v = .slice a L.length cap := by
  rcases erow_form h with ⟨h1, h2⟩ | ⟨g, cap, h1, _⟩
  · exact ⟨none, 0, by rw [h1, h2]; rfl⟩
  · exact ⟨_, _, h1⟩
theorem erow_open (he : Enc c z) {g n cap : Nat} (h : ERow c z T w (.slice (some ⟨g, 0, none⟩) n cap) L) : n = L.length ∧ ∃ C, Rw z g T C w ∧ C.length = cap ∧ C.take L.length = L.map c ∧ L.length ≤ cap ∧ cap ≤ maxLen := by
  have hn : n = L.length := by
    rcases erow_form h with ⟨h1, _⟩ | ⟨_, _, h1, _⟩
    · simp at h1
    · simp at h1; exact h1.2.1
  subst hn
  obtain ⟨C, h1, h2, h3, h4, h5, _⟩ := Rw.of_own he.pos h
  refine ⟨rfl, C, h1, h2, ?_, h3, h4⟩
  exact flatten_inj (z := z) _ _ he.pos (fun x hx => h1.all x (List.mem_of_mem_take hx)) (he.all L) h5
theorem erow_touch (h : ERow c z T w v L) (ht : Touch F w w') (hF : ∀ k, v.ownBlock = some k → ¬ F k) : ERow c z T w' v L := own_touch h ht hF
theorem erow_keep (h : ERow c z T w v L) (hb : Below w.heap.size w w') : ERow c z T w' v L := erow_touch h (Touch.of_below (fun _ => False) hb) (fun _ _ h => h)
theorem erow_lt (h : ERow c z T w v L) {k : Nat} (hk : v.ownBlock = some k) : k < w.heap.size := (World.ownsRow.lt h k hk).2
/-- a slice that can be read -/
def RdE (c : α → List Value) (z : Nat) (w : World) (a : Option Addr) (L : List α) : Prop :=
  0 < L.length → ∃ b off, a = some ⟨b, off, none⟩ ∧ b < w.heap.size ∧ ∀ i x, L[i]? = some x → ∀ k u, (c x)[k]? = some u → w.cell? ⟨b, off + i * z + k, none⟩ = some u
theorem RdE.touch {a : Option Addr} (h : RdE c z w a L) (ht : Touch F w w') (hF : ∀ b off, a = some ⟨b, off, none⟩ → ¬ F b) : RdE c z w' a L := fun hp => by
  obtain ⟨b, off, rfl, hB, hc⟩ := h hp
  exact ⟨b, off, rfl, Nat.lt_of_lt_of_le hB ht.size, fun i x hx k v hv => (ht.cell (p := ⟨b, off + i * z + k, none⟩) hB (hF b off rfl)).trans (hc i x hx k v hv)⟩
theorem RdE.keep {a : Option Addr} (h : RdE c z w a L) (hb : Below w.heap.size w w') : RdE c z w' a L := h.touch (Touch.of_below (fun _ => False) hb) (fun _ _ _ h => h)
theorem erow_rd (he : Enc c z) {a : Option Addr} {n cap : Nat} (h : ERow c z T w (.slice a n cap) L) : RdE c z w a L := fun hp => by
  rcases erow_form h with ⟨_, rfl⟩ | ⟨g, cap', h1, hlt⟩
  · simp at hp
  · simp only [Value.slice.injEq] at h1
    obtain ⟨rfl, rfl, rfl⟩ := h1
    obtain ⟨_, C, hC, _, ht, _⟩ := erow_open he h
    exact ⟨g, 0, rfl, hlt, fun i x hx k v hv => by rw [Nat.zero_add]; exact hC.cell i k _ v (taken_at ht hx) hv⟩
theorem erow_snoc {n : Nat} {v' : Value} {x : α} (hn : n = L.length) (h : w.ownsRow 0 T z v' (n + 1) ((L.map c).flatten ++ c x)) : ERow c z T w v' (L ++ [x]) := by
  unfold ERow
  rw [List.map_append, List.flatten_append, List.length_append, ← hn]
  simpa using h
theorem erow_n {u : Sl} (h : ERow c z T w u.v L) : u.n = L.length := by
  obtain ⟨a, n, c⟩ := u
  obtain ⟨a', cap', e⟩ := erow_sl h
  simp [Sl.v] at e
  exact e.2.1
/-- a slice of new memory that holds D -/
def NewE (c : α → List Value) (z : Nat) (T : TypeId) (D : List α) (w : World) (v : Sl) (w' : World) : Prop := ERow c z T w' v.v D ∧ v.n = D.length ∧ ∀ b, v.v.ownBlock = some b → w.heap.size ≤ b
def NewPost (c : α → List Value) (z : Nat) (T : TypeId) (D : List α) (w : World) (e : Ending) (w' : World) : Prop := ∃ v : Sl, e = .returned (.slice v.a v.n v.c) ∧ NewE c z T D w v w' ∧ Below w.heap.size w w'
end

theorem erow_close {α : Type} {c : α → List Value} {z : Nat} {T : TypeId} {w : World} {g : Nat} {C : List (List Value)} {L : List α} (h : Rw z g T C w) (ht : C.take L.length = L.map c) (hl : L.length ≤ C.length) (hm : C.length ≤ maxLen) : ERow c z T w (.slice (some ⟨g, 0, none⟩) L.length C.length) L := by
  have := h.own hl hm
  rw [ht] at this
  exact this
/-- the six cells of an item -/
def ci (x : Im) : List Value := [.int .i64 x.r.id, .int .i64 x.r.st, .int .u32 x.r.n, .int .u32 x.r.ip, .int .u16 x.r.port, .int .i64 x.left]
theorem ci_enc : Enc ci 6 := ⟨by decide, fun _ => rfl, fun x u hu => by
  simp only [ci, List.mem_cons, List.not_mem_nil, or_false] at hu
  rcases hu with rfl | rfl | rfl | rfl | rfl | rfl <;> rfl⟩
theorem ci_rcs (x : Im) : ci x = rcs x.r ++ [.int .i64 x.left] := rfl
/-- the types of the two programs: an item -/
def tI : Bool → TypeId | true => 61 | false => 63
/-- the cells of a queue -/
def qc (k : Bool) (room : Nat) (v : Sl) : List Value := match k with
  | true => [.int .i64 (room : Nat), .slice v.a v.n v.c]
  | false => [.slice v.a v.n v.c, .int .i64 (room : Nat)]
/-- the blocks of a queue -/
def OwnS (g : Nat) (v : Sl) (k : Nat) : Prop := k = g ∨ v.v.ownBlock = some k
/-- how the items lie: the program's in any order, the reference's in theirs -/
def Lies (k : Bool) (L S : List Im) : Prop := match k with | true => L.Perm S | false => L = S
/-- a queue in memory: what is told on is S -/
structure Qs (k : Bool) (g room : Nat) (v : Sl) (S : List Im) (w : World) : Prop where
  box : Cs g (qc k room v) w
  row : ∃ L, ERow ci 6 (tI k) w v.v L ∧ Lies k L S
  ne : v.v.ownBlock ≠ some g
  r1 : 1 ≤ room
  r2 : room ≤ 64
  ok : OkS room S
section
variable {k : Bool} {g room : Nat} {v : Sl} {S : List Im} {w w' : World} {F : Nat → Prop}
theorem Qs.touch (h : Qs k g room v S w) (ht : Touch F w w') (hF : ∀ b, OwnS g v b → ¬ F b) : Qs k g room v S w' := by
  obtain ⟨L, h1, h2⟩ := h.row
  exact ⟨h.box.touch ht (hF _ (.inl rfl)), ⟨L, erow_touch h1 ht (fun b hb => hF b (.inr hb)), h2⟩, h.ne, h.r1, h.r2, h.ok⟩
theorem Qs.keep (h : Qs k g room v S w) (hb : Below w.heap.size w w') : Qs k g room v S w' := h.touch (Touch.of_below (fun _ => False) hb) (fun _ _ h => h)
theorem lies_len {L S : List Im} (h : Lies k L S) : L.length = S.length := by
  cases k with
  | true => exact List.Perm.length_eq h
  | false => rw [show L = S from h]
theorem Qs.n (h : Qs k g room v S w) : v.n = S.length := by
  obtain ⟨L, h1, h2⟩ := h.row
  rw [erow_n (c := ci) (z := 6) h1, lies_len h2]
theorem Qs.lt (h : Qs k g room v S w) : ∀ b, OwnS g v b → b < w.heap.size := by
  intro b hb
  rcases hb with rfl | hb
  · exact h.box.lt
  · obtain ⟨L, h1, _⟩ := h.row
    exact erow_lt h1 hb
end
/-- behind a call: the queue holds S', and nothing turned but what is its own -/
def Aft (k : Bool) (g room : Nat) (v : Sl) (S' : List Im) (w w' : World) : Prop := ∃ v', Qs k g room v' S' w' ∧ Touch (OwnS g v) w w' ∧ ∀ b, OwnS g v' b → OwnS g v b ∨ w.heap.size ≤ b
theorem Qs.same {k : Bool} {g room : Nat} {v : Sl} {S : List Im} {w w' : World} (h : Qs k g room v S w) (hb : Below w.heap.size w w') : Aft k g room v S w w' := ⟨v, h.keep hb, Touch.of_below _ hb, fun _ hb => .inl hb⟩
/-- new memory ahead of the call -/
theorem Aft.after {k : Bool} {g room : Nat} {v : Sl} {S' : List Im} {w w1 w' : World} (hb : Below w.heap.size w w1) (h : Aft k g room v S' w1 w') : Aft k g room v S' w w' := by
  obtain ⟨v', h1, h2, h3⟩ := h
  exact ⟨v', h1, (Touch.of_below _ hb).trans h2 (fun _ _ h => h), fun b hk => (h3 b hk).imp id (fun h => Nat.le_trans hb.size h)⟩
/-- .. and behind it -/
theorem Aft.then_ {k : Bool} {g room : Nat} {v : Sl} {S' : List Im} {w w1 w' : World} (h : Aft k g room v S' w w1) (hb : Below w1.heap.size w1 w') : Aft k g room v S' w w' := by
  obtain ⟨v', h1, h2, h3⟩ := h
  exact ⟨v', h1.keep hb, h2.trans (Touch.of_below (OwnS g v) hb) (fun _ _ h => h), h3⟩
theorem Aft.trans {k : Bool} {g room : Nat} {v v1 : Sl} {S' : List Im} {w w1 w' : World} (h2 : Touch (OwnS g v) w w1) (h3 : ∀ b, OwnS g v1 b → OwnS g v b ∨ w.heap.size ≤ b) (h : Aft k g room v1 S' w1 w') : Aft k g room v S' w w' := by
  obtain ⟨v', h4, h5, h6⟩ := h
  have hm : ∀ b, b < w.heap.size → OwnS g v1 b → OwnS g v b := fun b hb h => (h3 b h).resolve_right (by omega)
  exact ⟨v', h4, h2.trans h5 hm, fun b hb => by
    rcases h6 b hb with h | h
    · exact h3 b h
    · exact .inr (Nat.le_trans h2.size h)⟩
/-- the queue's slice in its place -/
def slotQ (k : Bool) : Nat := match k with | true => 1 | false => 0
theorem qc_set (k : Bool) (room : Nat) (v v' : Sl) : (qc k room v).set (slotQ k) (.slice v'.a v'.n v'.c) = qc k room v' := by cases k <;> rfl
/-- a new slice is stored: its row is the queue's own, or new -/
theorem put_row {k : Bool} {g room : Nat} {v v' : Sl} {L' S' : List Im} {w w2 : World} (hbox : Cs g (qc k room v) w) (hv : v.v.ownBlock ≠ some g) (r1 : 1 ≤ room) (r2 : room ≤ 64) (hr : ERow ci 6 (tI k) w2 v'.v L') (hp : Lies k L' S')
    (ht : Touch (fun b => v.v.ownBlock = some b) w w2) (hn : ∀ b, v'.v.ownBlock = some b → v.v.ownBlock = some b ∨ w.heap.size ≤ b) (hok : OkS room S') : Aft k g room v S' w (w2.setCell ⟨g, slotQ k, none⟩ (.slice v'.a v'.n v'.c)) := by
  have hne : v'.v.ownBlock ≠ some g := fun e => by
    rcases hn g e with h1 | h1
    · exact hv h1
    · have := hbox.lt; omega
  refine ⟨v', ⟨?_, ⟨L', ?_, hp⟩, hne, r1, r2, hok⟩, ?_, fun b hb => ?_⟩
  · have hx := hbox.touch ht hv
    have := hx.set (slotQ k) (.slice v'.a v'.n v'.c) (by cases k <;> simp [qc, slotQ])
    rw [qc_set] at this
    exact this
  · exact erow_touch hr (Touch.set (F := fun b => b = g) (Touch.refl _ w2) (fun _ => rfl) _) (fun b hb e => hne (by rw [← e]; exact hb))
  · have t2 : Touch (OwnS g v) w w2 := ht.mono (fun b _ hb => Or.inr hb)
    exact t2.set (a := ⟨g, slotQ k, none⟩) (fun _ => Or.inl rfl) _
  · rcases hb with rfl | hb
    · exact .inl (.inl rfl)
    · exact (hn b hb).imp Or.inr id
theorem Qs.put {k : Bool} {g room : Nat} {v v' : Sl} {S L' S' : List Im} {w w2 : World} (h : Qs k g room v S w) (hr : ERow ci 6 (tI k) w2 v'.v L') (hp : Lies k L' S') (ht : Touch (fun b => v.v.ownBlock = some b) w w2) (hn : ∀ b, v'.v.ownBlock = some b → v.v.ownBlock = some b ∨ w.heap.size ≤ b) (hok : OkS room S') : Aft k g room v S' w (w2.setCell ⟨g, slotQ k, none⟩ (.slice v'.a v'.n v'.c)) :=
  put_row h.box h.ne h.r1 h.r2 hr hp ht hn hok
end Go.Proofs.Ythebcaielbnhjaa
