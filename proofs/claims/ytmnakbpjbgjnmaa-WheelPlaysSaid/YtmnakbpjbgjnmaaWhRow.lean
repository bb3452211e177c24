/- A wheel of either program in memory, beside what else is touched. -/
import Derived.Test.YtmnakbpjbgjnmaaWhMath
namespace Go.Proofs.Ytmnakbpjbgjnmaa
open Go.Sort Go.RowKit Go.BigFrame
set_option linter.unusedVariables false
set_option linter.unusedSimpArgs false

/-- the blocks of a wheel -/
def OwnS (g : Nat) (v : Sl) (k : Nat) : Prop := k = g ∨ v.v.ownBlock = some k
/-- a wheel in memory -/
structure Ws (k : Bool) (g : Nat) (v : Sl) (L : List Tm) (w : World) : Prop where
  box : Cs g [.slice v.a v.n v.c] w
  row : TRow (tT k) w v.v L
  ne : v.v.ownBlock ≠ some g
  ok : OkW L
section
variable {k : Bool} {g : Nat} {v : Sl} {L : List Tm} {w w' : World} {F : Nat → Prop}
theorem Ws.touch (h : Ws k g v L w) (ht : Touch F w w') (hF : ∀ b, OwnS g v b → ¬ F b) : Ws k g v L w' :=
  ⟨h.box.touch ht (hF _ (.inl rfl)), trow_touch h.row ht (fun b hb => hF b (.inr hb)), h.ne, h.ok⟩
theorem Ws.keep (h : Ws k g v L w) (hb : Below w.heap.size w w') : Ws k g v L w' := h.touch (Touch.of_below (fun _ => False) hb) (fun _ _ h => h)
theorem Ws.n (h : Ws k g v L w) : v.n = L.length := by
  obtain ⟨a, n, c⟩ := v
  rcases trow_form h.row with ⟨h1, h2⟩ | ⟨b, cap, h1, h2⟩
  · simp [Sl.v] at h1
    obtain ⟨rfl, rfl, rfl⟩ := h1
    rw [h2]; rfl
  · simp [Sl.v] at h1
    exact h1.2.1
theorem Ws.lt (h : Ws k g v L w) : ∀ b, OwnS g v b → b < w.heap.size := by
  intro b hb
  rcases hb with rfl | hb
  · exact h.box.lt
  · exact (World.ownsRow.lt h.row b hb).2
theorem Ws.rd (h : Ws k g v L w) : RdT w v.a L := trow_rd (n := v.n) (cap := v.c) h.row
end
/-- behind a call: the wheel holds L', and nothing turned but what is its own -/
def Aft (k : Bool) (g : Nat) (v : Sl) (L' : List Tm) (w w' : World) : Prop := ∃ v', Ws k g v' L' w' ∧ Touch (OwnS g v) w w' ∧ ∀ b, OwnS g v' b → OwnS g v b ∨ w.heap.size ≤ b
theorem Ws.same {k : Bool} {g : Nat} {v : Sl} {L : List Tm} {w w' : World} (h : Ws k g v L w) (hb : Below w.heap.size w w') : Aft k g v L w w' := ⟨v, h.keep hb, Touch.of_below _ hb, fun _ hb => .inl hb⟩
theorem Aft.after {k : Bool} {g : Nat} {v : Sl} {L' : List Tm} {w w1 w' : World} (hb : Below w.heap.size w w1) (h : Aft k g v L' w1 w') : Aft k g v L' w w' := by
  obtain ⟨v', h1, h2, h3⟩ := h
  exact ⟨v', h1, (Touch.of_below _ hb).trans h2 (fun _ _ h => h), fun b hk => (h3 b hk).imp id (fun h => Nat.le_trans hb.size h)⟩
theorem Aft.then_ {k : Bool} {g : Nat} {v : Sl} {L' : List Tm} {w w1 w' : World} (h : Aft k g v L' w w1) (hb : Below w1.heap.size w1 w') : Aft k g v L' w w' := by
  obtain ⟨v', h1, h2, h3⟩ := h
  exact ⟨v', h1.keep hb, h2.trans (Touch.of_below (OwnS g v) hb) (fun _ _ h => h), h3⟩
/-- two calls, one behind the other -/
theorem Aft.trans {k : Bool} {g : Nat} {v v1 : Sl} {L1 L' : List Tm} {w w1 w' : World} (h1 : Ws k g v1 L1 w1) (ht : Touch (OwnS g v) w w1) (hn : ∀ b, OwnS g v1 b → OwnS g v b ∨ w.heap.size ≤ b) (h : Aft k g v1 L' w1 w') : Aft k g v L' w w' := by
  obtain ⟨v', h2, h3, h4⟩ := h
  refine ⟨v', h2, ⟨h3.os.trans ht.os, h3.tape.trans ht.tape, h3.output.trans ht.output, Nat.le_trans ht.size h3.size, fun b hb hk => ?_⟩, fun b hb => ?_⟩
  · rw [h3.block b (Nat.lt_of_lt_of_le hb ht.size) (fun e => by
      rcases hn b e with h5 | h5
      · exact hk h5
      · omega), ht.block b hb hk]
  · rcases h4 b hb with h5 | h5
    · exact hn b h5
    · exact .inr (Nat.le_trans ht.size h5)
/-- a new slice is stored: its row is the wheel's own, or new -/
theorem Ws.put {k : Bool} {g : Nat} {v v' : Sl} {L L' : List Tm} {w w2 : World} (h : Ws k g v L w) (hr : TRow (tT k) w2 v'.v L') (ht : Touch (fun b => v.v.ownBlock = some b) w w2) (hn : ∀ b, v'.v.ownBlock = some b → v.v.ownBlock = some b ∨ w.heap.size ≤ b)
    (hok : OkW L') : Aft k g v L' w (w2.setCell ⟨g, 0, none⟩ (.slice v'.a v'.n v'.c)) := by
  have hne : v'.v.ownBlock ≠ some g := fun e => by
    rcases hn g e with h1 | h1
    · exact h.ne h1
    · have := h.box.lt; omega
  refine ⟨v', ⟨?_, ?_, hne, hok⟩, ?_, fun b hb => ?_⟩
  · exact (h.box.touch ht h.ne).set 0 (.slice v'.a v'.n v'.c) (by simp)
  · exact trow_touch hr (Touch.set (F := fun b => b = g) (Touch.refl _ w2) (fun _ => rfl) _) (fun b hb e => hne (by rw [← e]; exact hb))
  · have t2 : Touch (OwnS g v) w w2 := ht.mono (fun b _ hb => Or.inr hb)
    exact t2.set (a := ⟨g, 0, none⟩) (fun _ => Or.inl rfl) _
  · rcases hb with rfl | hb
    · exact .inl (.inl rfl)
    · exact (hn b hb).imp Or.inr id
end Go.Proofs.Ytmnakbpjbgjnmaa
