/- A law that holds a growing row of its own beside the bag: what is neither the bag's nor ahead of B is as it was. -/
import Derived.Test.YtnaghagcaiolmaaBagPuts
namespace Go.Proofs.Ytnaghagcaiolmaa
open Go.Sort Go.RowKit Go.BigFrame
set_option linter.unusedVariables false
set_option linter.unusedSimpArgs false

section
variable {B g room : Nat} {l : List (Nat × List Value)} {L L' : List Pi} {w w' : World}
theorem L1.aftT {v : Sl} (h : L1 B l g room L w) (h2 : ∀ b, OwnS g v b → B ≤ b ∧ ∀ x ∈ l, x.1 ≠ b) (ha : Aft true g room v L' w w') : Touch (fun b => B ≤ b ∧ ∀ x ∈ l, x.1 ≠ b) w w' := by
  obtain ⟨v', h3, h4, h5⟩ := ha
  exact h4.mono (fun k _ hk => h2 k hk)
def PutTA (B : Nat) (l : List (Nat × List Value)) (g room : Nat) (L' : List Pi) (u : Value) (w : World) (e : Ending) (w' : World) : Prop := L1A B l g room L' u w e w' ∧ Touch (fun b => B ≤ b ∧ ∀ x ∈ l, x.1 ≠ b) w w'
theorem L1.putT (h : L1 B l g room L w) (x1 x2 x3 x4 : Int) (x5 : ByteArray) (x6 : Int) (hx0 : 0 ≤ x6) (hx1 : x6 ≤ 18446744073709551615) (hxs : x5.size ≤ 140737488355328) {e : Int} {L' : List Pi} (he : putE room ⟨x1, x2, x3, x4, x5, x6⟩ L = e) (hL : putL room ⟨x1, x2, x3, x4, x5, x6⟩ L = L') :
    Calls Try.prog 21 #[.pointer (some ⟨g, 0, none⟩), .agg #[.int .u32 x1, .int .u16 x2, .int .u32 x3, .int .u16 x4, .string x5, .int .u64 x6]] w (PutTA B l g room L' (.int .i64 e) w) := by
  obtain ⟨v, h1, h2⟩ := h.t
  refine (put_any x1 x2 x3 x4 x5 x6 hx0 hx1 hxs g room v L w h1).mono ?_
  rintro e' w' ⟨rfl, ha⟩
  rw [he]
  rw [hL] at ha
  exact ⟨⟨rfl, h.aft h2 ha⟩, h.aftT h2 ha⟩
theorem L1.takeT (h : L1 B l g room L w) (now pick : Int) (hp : pick ≤ 9223372036854775807) {x1 x2 x3 x4 : Int} {x5 : ByteArray} {x6 e : Int} {L' : List Pi} (hx : takeX now pick L = ⟨x1, x2, x3, x4, x5, x6⟩) (he : (pickE now pick L).2 = e) (hL : takeL now pick L = L') :
    Calls Try.prog 12 #[.pointer (some ⟨g, 0, none⟩), .int .u64 now, .int .i64 pick] w (PutTA B l g room L' (.tuple #[.agg #[.int .u32 x1, .int .u16 x2, .int .u32 x3, .int .u16 x4, .string x5, .int .u64 x6], .int .i64 e]) w) := by
  obtain ⟨v, h1, h2⟩ := h.t
  refine (take_any now pick hp g room v L w h1).mono ?_
  rintro e' w' ⟨rfl, ha⟩
  rw [he, hx]
  rw [hL] at ha
  exact ⟨⟨rfl, h.aft h2 ha⟩, h.aftT h2 ha⟩
end
/-- the block of a value, as one of ours -/
def rowB (v : Value) : List (Nat × List Value) := match v.ownBlock with | some k => [(k, [])] | none => []
theorem rowB_mem {v : Value} {k : Nat} (h : v.ownBlock = some k) : (k, []) ∈ rowB v := by unfold rowB; rw [h]; simp
/-- a bag, and a row of numbers of our own that grows -/
structure L1R (B : Nat) (v : Value) (R : List Int) (g room : Nat) (L : List Pi) (w0 w : World) : Prop where
  l1 : L1 B (rowB v) g room L w
  row : w.ownsRow B 3 1 v R.length (R.map (Value.int .i64))
  bel : Below B w0 w
section
variable {B g room : Nat} {v : Value} {R : List Int} {L L' : List Pi} {w0 w w' : World}
theorem L1R.start (h : L1 B [] g room L w) (hb : Below B w0 w) : L1R B (.slice none 0 0) [] g room L w0 w := ⟨h, World.ownsRow_nil _ _ _ _, hb⟩
theorem L1R.keep (h : L1R B v R g room L w0 w) (b : Below w.heap.size w w') : L1R B v R g room L w0 w' :=
  ⟨h.l1.keep b, own_touch h.row (Touch.of_below (fun _ => False) b) (fun _ _ h => h), h.bel.trans (b.mono h.l1.lo)⟩
theorem L1R.after {u : Value} {e : Ending} (h : L1R B v R g room L w0 w) (ha : PutTA B (rowB v) g room L' u w e w') : e = .returned u ∧ L1R B v R g room L' w0 w' := by
  obtain ⟨⟨h1, h2, h3⟩, h4⟩ := ha
  exact ⟨h1, h2, own_touch h.row h4 (fun k hk hF => hF.2 _ (rowB_mem hk) rfl), h.bel.trans h3⟩
/-- one number more -/
theorem L1R.push {z : Int} {v' : Value} (h : L1R B v R g room L w0 w) (hown : w'.ownsRow B 3 1 v' (R.length + 1) (R.map (Value.int .i64) ++ [.int .i64 z])) (hgrow : w.grownBy w' v.ownBlock) (hat : ∀ k, v'.ownBlock = some k → v.ownBlock = some k ∨ w.heap.size ≤ k) : L1R B v' (R ++ [z]) g room L w0 w' := by
  have ht : Touch (fun b => v.ownBlock = some b) w w' := Touch.of_grown hgrow (fun _ h => h)
  have hnot : ∀ k, v.ownBlock = some k → B ≤ k := fun k hk => (World.ownsRow.lt h.row k hk).1
  obtain ⟨s, h1, h2⟩ := h.l1.t
  have hsep : ∀ b, OwnS g s b → ¬ v.ownBlock = some b := fun b hb e => (h2 b hb).2 _ (rowB_mem e) rfl
  refine ⟨⟨fun x hx => ?_, Nat.le_trans h.l1.lo ht.size, s, h1.touch ht hsep, fun b hb => ⟨(h2 b hb).1, fun x hx => ?_⟩⟩, by rw [List.map_append, List.length_append]; exact hown, h.bel.trans (ht.below h.l1.lo (fun k _ hk => hnot k hk))⟩
  · unfold rowB at hx
    cases e : v'.ownBlock with
    | none => rw [e] at hx; simp at hx
    | some k =>
      rw [e] at hx
      obtain rfl := List.mem_singleton.1 hx
      exact ⟨fun i v hv => by simp at hv, fun i v hv => by simp at hv, (World.ownsRow.lt hown k e).2⟩
  · unfold rowB at hx
    cases e : v'.ownBlock with
    | none => rw [e] at hx; simp at hx
    | some k =>
      rw [e] at hx
      obtain rfl := List.mem_singleton.1 hx
      intro e2
      have e3 : k = b := e2
      subst e3
      rcases hat k e with h3 | h3
      · exact hsep k hb h3
      · have := h1.lt k hb; omega
end
/-- the places of those that are ready, from k on -/
def idxR (t : Int) : List Int → Nat → List Int
  | [], _ => []
  | x :: r, k => if x ≤ t then (k : Int) :: idxR t r (k + 1) else idxR t r (k + 1)
end Go.Proofs.Ytnaghagcaiolmaa
