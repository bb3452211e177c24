/- The reference's box in memory, and all that is its own in blocks of S; its Sweep, Rebind. -/
import Derived.Test.YtnemmnndaoaadaaBoxRefAtA
import Derived.BigRegion
namespace Go.Proofs.Ytnemmnndaoaadaa
open Go.Sort Go.RowKit Go.BigFrame
set_option linter.unusedVariables false
set_option linter.unusedSimpArgs false

/-- a list of addresses that is not written here -/
def MetR (g : Nat) (S : Nat → Prop) (v : Sl) (w : World) (x : Bd) : Prop := (x.2.n = x.1.met.length ∧ (x.2.a = none → x.2.c = 0)) ∧ RdA w w.heap.size x.2.a x.1.met ∧ ∀ b, (Value.slice x.2.a 0 0).ownBlock = some b → S b ∧ b ≠ g ∧ v.v.ownBlock ≠ some b
structure RBs (g : Nat) (S : Nat → Prop) (m f ip hold : Int) (room : Nat) (v : Sl) (L : List Bd) (w : World) : Prop where
  box : Cs g (bcells m f ip hold room v) w
  row : RfRow 0 w v.v L
  n : v.n = L.length
  gS : S g
  vS : ∀ k, v.v.ownBlock = some k → S k ∧ k ≠ g
  met : ∀ x ∈ L, MetR g S v w x
  lt : ∀ k, S k → k < w.heap.size
  hw : HoldW room (L.map (·.1))
  r1 : 1 ≤ room
  r2 : room ≤ 64
  h1 : 1 ≤ hold
  h2 : hold ≤ 1000000
  m16 : ∀ x ∈ L, x.1.met.length ≤ 16
theorem grownS_self {S : Nat → Prop} {w w' : World} (h : w'.heap.size ≤ w.heap.size) : ∀ k, grownS S w w' k → S k := fun k hk => by
  rcases hk with hk | ⟨h1, h2⟩
  · exact hk
  · omega
section
variable {g : Nat} {S S' F : Nat → Prop} {m f ip hold : Int} {room : Nat} {v v' : Sl} {L L' : List Bd} {w w' w9 : World}
theorem RBs.len (h : RBs g S m f ip hold room v L w) : L.length ≤ room := by have := h.hw.len; rwa [List.length_map] at this
theorem RBs.rd (h : RBs g S m f ip hold room v L w) : RdB w v.a L := rrow_rd (by have := h.row; unfold Sl.v at this; exact this)
theorem RBs.touch (h : RBs g S m f ip hold room v L w) (ht : Touch F w w') (hF : ∀ k, S k → ¬ F k) : RBs g S m f ip hold room v L w' :=
  ⟨h.box.touch ht (hF _ h.gS), rrow_touch h.row ht (fun k hk => hF k (h.vS k hk).1), h.n, h.gS, h.vS, fun x hx => ⟨(h.met x hx).1, (h.met x hx).2.1.touch ht (fun b e => hF b ((h.met x hx).2.2 b e).1), (h.met x hx).2.2⟩, fun k hk => Nat.lt_of_lt_of_le (h.lt k hk) ht.size, h.hw, h.r1, h.r2, h.h1, h.h2, h.m16⟩
theorem RBs.keep (h : RBs g S m f ip hold room v L w) (hb : Below w.heap.size w w') : RBs g S m f ip hold room v L w' := h.touch (Touch.of_below (fun _ => False) hb) (fun _ _ h => h)
theorem RBs.mono (h : RBs g S m f ip hold room v L w) (hS : ∀ k, S k → S' k) (hl : ∀ k, S' k → k < w.heap.size) : RBs g S' m f ip hold room v L w :=
  ⟨h.box, h.row, h.n, hS _ h.gS, fun k hk => ⟨hS _ (h.vS k hk).1, (h.vS k hk).2⟩, fun x hx => ⟨(h.met x hx).1, (h.met x hx).2.1, fun b e => ⟨hS _ ((h.met x hx).2.2 b e).1, ((h.met x hx).2.2 b e).2⟩⟩, hl, h.hw, h.r1, h.r2, h.h1, h.h2, h.m16⟩
theorem grown_lt (hl : ∀ k, S k → k < w.heap.size) (hs : w.heap.size ≤ w'.heap.size) : ∀ k, grownS S w w' k → k < w'.heap.size := fun k hk => by
  rcases hk with hk | ⟨_, h2⟩
  · exact Nat.lt_of_lt_of_le (hl k hk) hs
  · exact h2
/-- a new row is stored -/
theorem RBs.put (h : RBs g S m f ip hold room v L w) (hb : Below w.heap.size w w9) (hr : RfRow 0 w9 v'.v L') (hlo : ∀ k, v'.v.ownBlock = some k → w.heap.size ≤ k) (hn : v'.n = L'.length) (hsub : ∀ x ∈ L', x ∈ L) (hw : HoldW room (L'.map (·.1))) :
    RBs g (grownS S w (w9.setCell ⟨g, 5, none⟩ v'.v)) m f ip hold room v' L' (w9.setCell ⟨g, 5, none⟩ v'.v) ∧ Touch (fun k => k = g) w (w9.setCell ⟨g, 5, none⟩ v'.v) := by
  have h2 := h.keep hb
  have ts : Touch (fun k => k = g) w9 (w9.setCell ⟨g, 5, none⟩ v'.v) := Touch.set (F := fun k => k = g) (Touch.refl _ w9) (fun _ => rfl) _
  have hg := h.lt g h.gS
  have tt : Touch (fun k => k = g) w (w9.setCell ⟨g, 5, none⟩ v'.v) := (Touch.of_below (fun k => k = g) hb).trans ts (fun _ _ h => h)
  have hrow : RfRow 0 (w9.setCell ⟨g, 5, none⟩ v'.v) v'.v L' := rrow_touch hr ts (fun k hk e => by have := hlo k hk; omega)
  refine ⟨⟨h2.box.set 5 v'.v (by simp [bcells]), hrow, hn, .inl h.gS, fun k hk => ?_, fun x hx => ?_, grown_lt h.lt tt.size, hw, h.r1, h.r2, h.h1, h.h2, fun x hx => h.m16 x (hsub x hx)⟩, tt⟩
  · have h3 := hlo k hk
    exact ⟨.inr ⟨h3, (World.ownsRow.lt hrow k hk).2⟩, by omega⟩
  · have hx1 := h.met x (hsub x hx)
    refine ⟨hx1.1, hx1.2.1.touch tt (fun b e => (hx1.2.2 b e).2.1), fun b e => ⟨.inl (hx1.2.2 b e).1, (hx1.2.2 b e).2.1, fun e2 => ?_⟩⟩
    have := hlo b e2
    have := h.lt b (hx1.2.2 b e).1
    omega
end
def RSwPost (now : Int) (g : Nat) (S : Nat → Prop) (m f ip hold : Int) (room : Nat) (L : List Bd) (w : World) (e : Ending) (w' : World) : Prop :=
  e = .returned (.int .i64 ((L.length : Int) - (keepU now L).length)) ∧ (∃ v', RBs g (grownS S w w') m f ip hold room v' (keepU now L) w') ∧ Touch (fun k => k = g) w w'
theorem rsweep_b (now : Int) (g : Nat) (S : Nat → Prop) (m f ip hold : Int) (room : Nat) (v : Sl) (L : List Bd) (w : World) (h : RBs g S m f ip hold room v L w) :
    Calls Try.prog 12 #[.pointer (some ⟨g, 0, none⟩), .int .u64 now] w (RSwPost now g S m f ip hold room L w) := by
  have hn := h.n
  have hl := h.len
  have hr2 := h.r2
  have hrd := h.rd
  have hbx := h.box
  obtain ⟨a, n, c⟩ := v
  simp only at hn hrd
  subst hn
  refine (rsweep_any now g m f ip hold room a c L w hbx hrd (by omega)).mono ?_
  rintro e w' ⟨v, w9, he, hrow, hb, rfl⟩
  obtain ⟨a', c', rfl⟩ := rfrow_slice hrow
  have hrow0 : RfRow 0 w9 (Sl.v ⟨a', (keepU now L).length, c'⟩) (keepU now L) := own_low hrow (Nat.zero_le _)
  obtain ⟨q1, q2⟩ := RBs.put (v' := ⟨a', (keepU now L).length, c'⟩) h hb hrow0 (fun k hk => (World.ownsRow.lt hrow k hk).1) rfl (fun x hx => (List.mem_filter.1 hx).1) (by rw [keepU_fst]; exact holdW_sweep h.hw)
  exact ⟨he, ⟨_, q1⟩, q2⟩
theorem rrebind_b (g : Nat) (S : Nat → Prop) (m f ip0 hold : Int) (room : Nat) (v : Sl) (L : List Bd) (ip : Int) (hip : ¬ ip = 0) (w : World) (h : RBs g S m f ip0 hold room v L w) :
    Calls Try.prog 14 #[.pointer (some ⟨g, 0, none⟩), .int .u32 ip] w fun e w' => e = .returned (.int .i64 0) ∧ (∃ v', RBs g (grownS S w w') m f ip hold room v' [] w') ∧ Touch (fun k => k = g) w w' := by
  refine (rrebind_ok g m f ip0 hold room v ip hip w h.box).mono ?_
  rintro e w' ⟨he, rfl⟩
  have t1 : Touch (fun k => k = g) w (w.setCell ⟨g, 2, none⟩ (.int .u32 ip)) := Touch.set (F := fun k => k = g) (Touch.refl _ w) (fun _ => rfl) _
  have t2 : Touch (fun k => k = g) w ((w.setCell ⟨g, 2, none⟩ (.int .u32 ip)).setCell ⟨g, 5, none⟩ (.slice none 0 0)) := t1.set (a := ⟨g, 5, none⟩) (fun _ => rfl) _
  refine ⟨he, ⟨⟨none, 0, 0⟩, ⟨?_, World.ownsRow_nil _ _ _ _, rfl, .inl h.gS, fun k hk => by simp [Sl.v, Value.ownBlock] at hk, by simp, grown_lt h.lt t2.size, holdW_nil room, h.r1, h.r2, h.h1, h.h2, by simp⟩⟩, t2⟩
  exact (h.box.set 2 (.int .u32 ip) (by simp [bcells])).set 5 (.slice none 0 0) (by simp [bcells])
end Go.Proofs.Ytnemmnndaoaadaa
