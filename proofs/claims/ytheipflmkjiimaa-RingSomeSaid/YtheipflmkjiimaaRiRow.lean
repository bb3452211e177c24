/- A ring in memory; slices of numbers that can be read. -/
import Derived.Test.YtheipflmkjiimaaOwn
import Derived.Test.YtheipflmkjiimaaDrawSame
import Derived.Test.YtheipflmkjiimaaRiMath
import Derived.Deep.WholeRow
namespace Go.Proofs.Ytheipflmkjiimaa
open Go.Sort Go.RowKit Go.BigFrame
set_option linter.unusedVariables false
set_option linter.unusedSimpArgs false

/-- the block in which a slice lies -/
def blk (a : Option Addr) (b : Nat) : Prop := ∃ ad, a = some ad ∧ ad.block = b
theorem blk_some {b o : Nat} {p} : blk (some ⟨b, o, p⟩) b := ⟨_, rfl, rfl⟩
theorem blk_none {b : Nat} : ¬ blk none b := fun ⟨_, h, _⟩ => by cases h
theorem blk_inj {b c o : Nat} {p} (h : blk (some ⟨b, o, p⟩) c) : c = b := by
  obtain ⟨ad, h1, h2⟩ := h
  injection h1 with h1
  subst h1
  exact h2.symm
theorem Rd.touch {k : IntKind} {F : Nat → Prop} {w w' : World} {a : Option Addr} {zs : List Int} (h : Rd k w w.heap.size a zs) (ht : Touch F w w') (hF : ∀ b, blk a b → ¬ F b) : Rd k w' w'.heap.size a zs := fun hp => by
  obtain ⟨b, off, rfl, hB, hc⟩ := h hp
  exact ⟨b, off, rfl, Nat.lt_of_lt_of_le hB ht.size, fun i hi => (ht.cell (p := ⟨b, off + i, none⟩) hB (hF b blk_some)).trans (hc i hi)⟩
theorem Rd.keep {k : IntKind} {w w' : World} {a : Option Addr} {zs : List Int} (h : Rd k w w.heap.size a zs) (hb : Below w.heap.size w w') : Rd k w' w'.heap.size a zs := h.touch (Touch.of_below (fun _ => False) hb) (fun _ _ h => h)
theorem Rd.tail {k : IntKind} {w : World} {B b o : Nat} {x : Int} {r : List Int} (h : Rd k w B (some ⟨b, o, none⟩) (x :: r)) : Rd k w B (some ⟨b, o + 1, none⟩) r := fun hp => by
  obtain ⟨b', off, he, hB, hc⟩ := h (by simp)
  injection he with he
  injection he with h1 h2
  subst h1 h2
  refine ⟨b, o + 1, rfl, hB, fun i hi => ?_⟩
  have := hc (i + 1) (by simpa using hi)
  rw [Nat.add_assoc, Nat.add_comm 1 i, this]
  simp [List.getD_eq_getElem?_getD]

/-- the cells of a ring: both programs' lie alike -/
def rc (s : Int) (v : Sl) : List Value := [.int .u64 s, .slice v.a v.n v.c]
/-- a ring's own blocks -/
def OwnR (g : Nat) (v : Sl) (b : Nat) : Prop := b = g ∨ blk v.a b
/-- a ring in memory: its stream stands at s, left are L -/
structure Rs (g : Nat) (s : Int) (v : Sl) (L : List Int) (w : World) : Prop where
  box : Cs g (rc s v) w
  rd : Rd .i64 w w.heap.size v.a L
  n : v.n = L.length
  cap : v.n ≤ v.c
  nil : v.a = none → v.c = 0
  lo : ∀ b, blk v.a b → b < w.heap.size
  ne : ¬ blk v.a g
  small : L.length ≤ 1000
section
variable {g : Nat} {s : Int} {v : Sl} {L : List Int} {w w' : World} {F : Nat → Prop}
theorem Rs.touch (h : Rs g s v L w) (ht : Touch F w w') (hF : ∀ b, OwnR g v b → ¬ F b) : Rs g s v L w' :=
  ⟨h.box.touch ht (hF _ (.inl rfl)), h.rd.touch ht (fun b hb => hF b (.inr hb)), h.n, h.cap, h.nil, fun b hb => Nat.lt_of_lt_of_le (h.lo b hb) ht.size, h.ne, h.small⟩
theorem Rs.keep (h : Rs g s v L w) (hb : Below w.heap.size w w') : Rs g s v L w' := h.touch (Touch.of_below (fun _ => False) hb) (fun _ _ h => h)
theorem Rs.lt (h : Rs g s v L w) : ∀ b, OwnR g v b → b < w.heap.size := by
  rintro b (rfl | hb)
  · exact h.box.lt
  · exact h.lo b hb
end
/-- behind a call: the ring stands at s', left are L'; nothing turned but its box -/
def AftR (g : Nat) (v : Sl) (s' : Int) (L' : List Int) (w w' : World) : Prop := ∃ v', Rs g s' v' L' w' ∧ Touch (fun b => b = g) w w' ∧ ∀ b, OwnR g v' b → OwnR g v b ∨ w.heap.size ≤ b
section
variable {g : Nat} {s s' s'' : Int} {v v' : Sl} {L L' L'' : List Int} {w w' w'' : World}
theorem Rs.same (h : Rs g s v L w) (hb : Below w.heap.size w w') : AftR g v s L w w' := ⟨v, h.keep hb, Touch.of_below _ hb, fun _ hb => .inl hb⟩
theorem AftR.then_ (h : AftR g v s' L' w w') (hb : Below w'.heap.size w' w'') : AftR g v s' L' w w'' := by
  obtain ⟨v', h1, h2, h3⟩ := h
  exact ⟨v', h1.keep hb, h2.trans (Touch.of_below (fun b => b = g) hb) (fun _ _ h => h), h3⟩
/-- new memory ahead of the call -/
theorem AftR.after {w1 : World} (hb : Below w.heap.size w w1) (h : AftR g v s' L' w1 w') : AftR g v s' L' w w' := by
  obtain ⟨v', h1, h2, h3⟩ := h
  exact ⟨v', h1, (Touch.of_below _ hb).trans h2 (fun _ _ h => h), fun b hk => (h3 b hk).imp id (fun h => Nat.le_trans hb.size h)⟩
/-- the box's slice is stored: a part of what was there, or new -/
theorem Rs.put (h : Rs g s v L w) (hr : Rd .i64 w w.heap.size v'.a L') (hn : v'.n = L'.length) (hc : v'.n ≤ v'.c) (hnil : v'.a = none → v'.c = 0) (hlo : ∀ b, blk v'.a b → b < w.heap.size) (hne : ¬ blk v'.a g) (hs : L'.length ≤ 1000) : Rs g s v' L' (w.setCell ⟨g, 1, none⟩ (.slice v'.a v'.n v'.c)) := by
  have t : Touch (fun b => b = g) w (w.setCell ⟨g, 1, none⟩ (.slice v'.a v'.n v'.c)) := Touch.set (F := fun b => b = g) (Touch.refl _ w) (a := ⟨g, 1, none⟩) (fun _ => rfl) _
  exact ⟨h.box.set 1 _ (by simp [rc]), hr.touch t (fun b hb e => hne (by rw [← e]; exact hb)), hn, hc, hnil, by simpa using hlo, hne, hs⟩
/-- the box's stream is stored -/
theorem Rs.stream (h : Rs g s v L w) (s' : Int) : Rs g s' v L (w.setCell ⟨g, 0, none⟩ (.int .u64 s')) := by
  have t : Touch (fun b => b = g) w (w.setCell ⟨g, 0, none⟩ (.int .u64 s')) := Touch.set (F := fun b => b = g) (Touch.refl _ w) (a := ⟨g, 0, none⟩) (fun _ => rfl) _
  exact ⟨h.box.set 0 _ (by simp [rc]), h.rd.touch t (fun b hb e => h.ne (by rw [← e]; exact hb)), h.n, h.cap, h.nil, by simpa using h.lo, h.ne, h.small⟩
end
theorem rs_new (w : World) (s : Int) (t : TypeId) : Rs w.heap.size s ⟨none, 0, 0⟩ [] (w.alloc (.cells #[.int .u64 s, .slice none 0 0] t)) :=
  ⟨Cs.new w [.int .u64 s, .slice none 0 0] t, Rd.nil _ _ _ _, rfl, Nat.le_refl _, fun _ => rfl, fun b hb => (blk_none hb).elim, blk_none, by decide⟩
end Go.Proofs.Ytheipflmkjiimaa
