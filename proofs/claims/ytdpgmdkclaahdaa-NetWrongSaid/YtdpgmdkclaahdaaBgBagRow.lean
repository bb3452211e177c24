/- A datagram under way, plain and in memory; a slice of them; a bag of either program in memory. -/
import Derived.Test.YtdpgmdkclaahdaaOwn
import Derived.Test.YtdpgmdkclaahdaaBgBagSmall
namespace Go.Proofs.Ytdpgmdkclaahdaa.Bg
open Go.Sort Go.RowKit Go.BigFrame
set_option linter.unusedVariables false
set_option linter.unusedSimpArgs false

/-- a datagram under way, as plain data -/
structure Pi where
  fi : Int
  fp : Int
  ti : Int
  tp : Int
  b : ByteArray
  t : Int
def ci (x : Pi) : List Value := [.int .u32 x.fi, .int .u16 x.fp, .int .u32 x.ti, .int .u16 x.tp, .string x.b, .int .u64 x.t]
/-- the types of the two programs: an item, a slice of items, a bag -/
def tI : Bool → TypeId | true => 75 | false => 75
def IRow (T : TypeId) (w : World) (v : Value) (L : List Pi) : Prop := w.ownsRow 0 T 6 v L.length (L.map ci).flatten
theorem ci_all (L : List Pi) : ∀ c ∈ L.map ci, c.length = 6 := by
  intro c hc
  obtain ⟨x, _, rfl⟩ := List.mem_map.1 hc
  rfl
theorem ci_one (x : Pi) : ∀ u ∈ ci x, u.oneCell' = true := by
  intro u hu
  simp only [ci, List.mem_cons, List.not_mem_nil, or_false] at hu
  rcases hu with rfl | rfl | rfl | rfl | rfl | rfl <;> rfl
theorem cis_one (L : List Pi) : ∀ u ∈ (L.map ci).flatten, u.oneCell' = true := by
  intro u hu
  obtain ⟨c, hc, hu⟩ := List.mem_flatten.1 hu
  obtain ⟨x, _, rfl⟩ := List.mem_map.1 hc
  exact ci_one x u hu
theorem irow_form {T : TypeId} {w : World} {v : Value} {L : List Pi} (h : IRow T w v L) : (v = .slice none 0 0 ∧ L = []) ∨ ∃ g cap, v = .slice (some ⟨g, 0, none⟩) L.length cap ∧ g < w.heap.size := by
  rcases h.2 with ⟨rfl, h0⟩ | ⟨g, cap, cur, rfl, _, hg, _⟩
  · exact .inl ⟨rfl, List.eq_nil_of_length_eq_zero h0⟩
  · refine .inr ⟨g, cap, rfl, ?_⟩
    rcases Nat.lt_or_ge g w.heap.size with h1 | h1
    · exact h1
    · rw [Array.getElem?_eq_none h1] at hg; cases hg
theorem irow_open {T : TypeId} {w : World} {g n cap : Nat} {L : List Pi} (h : IRow T w (.slice (some ⟨g, 0, none⟩) n cap) L) : n = L.length ∧ ∃ C, Rw 6 g T C w ∧ C.length = cap ∧ C.take L.length = L.map ci ∧ L.length ≤ cap ∧ cap ≤ maxLen := by
  have hn : n = L.length := by
    rcases irow_form h with ⟨h1, _⟩ | ⟨_, _, h1, _⟩
    · simp at h1
    · simp at h1; exact h1.2.1
  subst hn
  obtain ⟨C, h1, h2, h3, h4, h5, _⟩ := Rw.of_own (by decide) h
  refine ⟨rfl, C, h1, h2, ?_, h3, h4⟩
  exact flatten_inj (z := 6) _ _ (by decide) (fun c hc => h1.all c (List.mem_of_mem_take hc)) (ci_all L) h5
theorem irow_close {T : TypeId} {w : World} {g : Nat} {C : List (List Value)} {L : List Pi} (h : Rw 6 g T C w) (ht : C.take L.length = L.map ci) (hl : L.length ≤ C.length) (hm : C.length ≤ maxLen) : IRow T w (.slice (some ⟨g, 0, none⟩) L.length C.length) L := by
  have := h.own hl hm
  rw [ht] at this
  exact this
theorem irow_touch {T : TypeId} {F : Nat → Prop} {w w' : World} {v : Value} {L : List Pi} (h : IRow T w v L) (ht : Touch F w w') (hF : ∀ k, v.ownBlock = some k → ¬ F k) : IRow T w' v L := own_touch h ht hF
/-- a slice of items that can be read -/
def RdI (w : World) (a : Option Addr) (L : List Pi) : Prop :=
  0 < L.length → ∃ b off, a = some ⟨b, off, none⟩ ∧ b < w.heap.size ∧ ∀ i x, L[i]? = some x → ∀ k v, (ci x)[k]? = some v → w.cell? ⟨b, off + i * 6 + k, none⟩ = some v
theorem RdI.keep {w w' : World} {a : Option Addr} {L : List Pi} (h : RdI w a L) (hb : Below w.heap.size w w') : RdI w' a L := fun hp => by
  obtain ⟨b, off, rfl, hB, hc⟩ := h hp
  exact ⟨b, off, rfl, Nat.lt_of_lt_of_le hB hb.size, fun i x hx k v hv => (hb.cell (p := ⟨b, off + i * 6 + k, none⟩) hB).trans (hc i x hx k v hv)⟩
theorem irow_rd {T : TypeId} {w : World} {a : Option Addr} {n cap : Nat} {L : List Pi} (h : IRow T w (.slice a n cap) L) : RdI w a L := fun hp => by
  rcases irow_form h with ⟨_, rfl⟩ | ⟨g, cap', h1, hlt⟩
  · simp at hp
  · simp only [Value.slice.injEq] at h1
    obtain ⟨rfl, rfl, rfl⟩ := h1
    obtain ⟨_, C, hC, _, ht, _⟩ := irow_open h
    exact ⟨g, 0, rfl, hlt, fun i x hx k v hv => by rw [Nat.zero_add]; exact hC.cell i k _ v (taken_at ht hx) hv⟩
/-- an item that may be under way -/
structure OkI (x : Pi) : Prop where
  t0 : 0 ≤ x.t
  t1 : x.t ≤ 18446744073709551615
  f : noneA x.fi x.fp = false
  to_ : noneA x.ti x.tp = false
  b0 : ¬ x.b.size = 0
  b1 : x.b.size ≤ 1024
/-- the cells of a bag -/
def bc (k : Bool) (room : Nat) (v : Sl) : List Value := match k with
  | true => [.int .i64 (room : Nat), .slice v.a v.n v.c]
  | false => [.slice v.a v.n v.c, .int .i64 (room : Nat)]
/-- the blocks of a bag -/
def OwnS (g : Nat) (v : Sl) (k : Nat) : Prop := k = g ∨ v.v.ownBlock = some k
/-- a bag in memory -/
structure Bs (k : Bool) (g room : Nat) (v : Sl) (L : List Pi) (w : World) : Prop where
  box : Cs g (bc k room v) w
  row : IRow (tI k) w v.v L
  ne : v.v.ownBlock ≠ some g
  r1 : 1 ≤ room
  r2 : room ≤ 256
  len : L.length ≤ room
  ok : ∀ x ∈ L, OkI x
section
variable {k : Bool} {g room : Nat} {v : Sl} {L : List Pi} {w w' : World} {F : Nat → Prop}
theorem Bs.touch (h : Bs k g room v L w) (ht : Touch F w w') (hF : ∀ b, OwnS g v b → ¬ F b) : Bs k g room v L w' :=
  ⟨h.box.touch ht (hF _ (.inl rfl)), irow_touch h.row ht (fun b hb => hF b (.inr hb)), h.ne, h.r1, h.r2, h.len, h.ok⟩
theorem Bs.keep (h : Bs k g room v L w) (hb : Below w.heap.size w w') : Bs k g room v L w' := h.touch (Touch.of_below (fun _ => False) hb) (fun _ _ h => h)
theorem Bs.n (h : Bs k g room v L w) : v.n = L.length := by
  obtain ⟨a, n, c⟩ := v
  rcases irow_form h.row with ⟨h1, h2⟩ | ⟨b, cap, h1, h2⟩
  · simp [Sl.v] at h1
    obtain ⟨rfl, rfl, rfl⟩ := h1
    rw [h2]; rfl
  · simp [Sl.v] at h1
    exact h1.2.1
theorem Bs.lt (h : Bs k g room v L w) : ∀ b, OwnS g v b → b < w.heap.size := by
  intro b hb
  rcases hb with rfl | hb
  · exact h.box.lt
  · exact (World.ownsRow.lt h.row b hb).2
end
/-- behind a call: the bag holds L', and nothing turned but what is its own -/
def Aft (k : Bool) (g room : Nat) (v : Sl) (L' : List Pi) (w w' : World) : Prop := ∃ v', Bs k g room v' L' w' ∧ Touch (OwnS g v) w w' ∧ ∀ b, OwnS g v' b → OwnS g v b ∨ w.heap.size ≤ b
theorem Bs.same {k : Bool} {g room : Nat} {v : Sl} {L : List Pi} {w w' : World} (h : Bs k g room v L w) (hb : Below w.heap.size w w') : Aft k g room v L w w' := ⟨v, h.keep hb, Touch.of_below _ hb, fun _ hb => .inl hb⟩
/-- new memory ahead of the call -/
theorem Aft.after {k : Bool} {g room : Nat} {v : Sl} {L' : List Pi} {w w1 w' : World} (hb : Below w.heap.size w w1) (h : Aft k g room v L' w1 w') : Aft k g room v L' w w' := by
  obtain ⟨v', h1, h2, h3⟩ := h
  exact ⟨v', h1, (Touch.of_below _ hb).trans h2 (fun _ _ h => h), fun b hk => (h3 b hk).imp id (fun h => Nat.le_trans hb.size h)⟩
/-- .. and behind it -/
theorem Aft.then_ {k : Bool} {g room : Nat} {v : Sl} {L' : List Pi} {w w1 w' : World} (h : Aft k g room v L' w w1) (hb : Below w1.heap.size w1 w') : Aft k g room v L' w w' := by
  obtain ⟨v', h1, h2, h3⟩ := h
  exact ⟨v', h1.keep hb, h2.trans (Touch.of_below (OwnS g v) hb) (fun _ _ h => h), h3⟩
/-- the bag's slice in its place -/
def slotI (k : Bool) : Nat := match k with | true => 1 | false => 0
theorem bc_set (k : Bool) (room : Nat) (v v' : Sl) : (bc k room v).set (slotI k) (.slice v'.a v'.n v'.c) = bc k room v' := by cases k <;> rfl
/-- a new slice is stored: its row is the bag's own, or new -/
theorem Bs.put {k : Bool} {g room : Nat} {v v' : Sl} {L L' : List Pi} {w w2 : World} (h : Bs k g room v L w) (hr : IRow (tI k) w2 v'.v L') (ht : Touch (fun b => v.v.ownBlock = some b) w w2) (hn : ∀ b, v'.v.ownBlock = some b → v.v.ownBlock = some b ∨ w.heap.size ≤ b)
    (hl : L'.length ≤ room) (hok : ∀ x ∈ L', OkI x) : Aft k g room v L' w (w2.setCell ⟨g, slotI k, none⟩ (.slice v'.a v'.n v'.c)) := by
  have hne : v'.v.ownBlock ≠ some g := fun e => by
    rcases hn g e with h1 | h1
    · exact h.ne h1
    · have := h.box.lt; omega
  refine ⟨v', ⟨?_, ?_, hne, h.r1, h.r2, hl, hok⟩, ?_, fun b hb => ?_⟩
  · have hx := h.box.touch ht h.ne
    have := hx.set (slotI k) (.slice v'.a v'.n v'.c) (by cases k <;> simp [bc, slotI])
    rw [bc_set] at this
    exact this
  · exact irow_touch hr (Touch.set (F := fun b => b = g) (Touch.refl _ w2) (fun _ => rfl) _) (fun b hb e => hne (by rw [← e]; exact hb))
  · have t2 : Touch (OwnS g v) w w2 := ht.mono (fun b _ hb => Or.inr hb)
    exact t2.set (a := ⟨g, slotI k, none⟩) (fun _ => Or.inl rfl) _
  · rcases hb with rfl | hb
    · exact .inl (.inl rfl)
    · exact (hn b hb).imp Or.inr id
theorem Bs.rd {k : Bool} {g room : Nat} {v : Sl} {L : List Pi} {w : World} (h : Bs k g room v L w) : RdI w v.a L := irow_rd (n := v.n) (cap := v.c) h.row
end Go.Proofs.Ytdpgmdkclaahdaa.Bg