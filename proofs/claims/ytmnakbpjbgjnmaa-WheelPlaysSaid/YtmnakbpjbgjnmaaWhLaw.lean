/- A law's state: a wheel, and slices of timers beside it, all in memory made since the law began. -/
import Derived.Test.YtmnakbpjbgjnmaaWhSet
namespace Go.Proofs.Ytmnakbpjbgjnmaa
open Go.Sort Go.RowKit Go.BigFrame
set_option linter.unusedVariables false
set_option linter.unusedSimpArgs false

/-- .. and blocks X that hold what they held -/
def StX (w0 : World) (g : Nat) (L : List Tm) (R : List (Sl × List Tm)) (X : List (Nat × Obj)) (w : World) : Prop :=
  ∃ v : Sl, Ws true g v L w ∧ (∀ b, OwnS g v b → w0.heap.size ≤ b) ∧ Below w0.heap.size w0 w ∧ (∀ r ∈ R, TRow 39 w r.1.v r.2 ∧ ∀ b, r.1.v.ownBlock = some b → ¬ OwnS g v b) ∧ ∀ p ∈ X, w.heap[p.1]? = some p.2 ∧ ¬ OwnS g v p.1
abbrev St (w0 : World) (g : Nat) (L : List Tm) (R : List (Sl × List Tm)) (w : World) : Prop := StX w0 g L R [] w
theorem heap_lt {w : World} {b : Nat} {o : Obj} (h : w.heap[b]? = some o) : b < w.heap.size := by
  rcases Nat.lt_or_ge b w.heap.size with h1 | h1
  · exact h1
  · rw [Array.getElem?_eq_none h1] at h; cases h
section
variable {w0 w w' : World} {g : Nat} {L L' : List Tm} {R : List (Sl × List Tm)} {X : List (Nat × Obj)} {v : Sl}
theorem St.aft (hb : Below w0.heap.size w0 w) (hl : ∀ b, OwnS g v b → w0.heap.size ≤ b) (hR : (∀ r ∈ R, TRow 39 w r.1.v r.2 ∧ ∀ b, r.1.v.ownBlock = some b → ¬ OwnS g v b) ∧ ∀ p ∈ X, w.heap[p.1]? = some p.2 ∧ ¬ OwnS g v p.1) (ha : Aft true g v L' w w') : StX w0 g L' R X w' := by
  obtain ⟨v', h1, h2, h3⟩ := ha
  refine ⟨v', h1, fun b hb2 => ?_, hb.trans (h2.below hb.size (fun k _ hk => hl k hk)), fun r hr => ⟨trow_touch (hR.1 r hr).1 h2 (hR.1 r hr).2, fun b hb2 ho => ?_⟩, fun p hp => ⟨(h2.block _ (heap_lt (hR.2 p hp).1) (hR.2 p hp).2).trans (hR.2 p hp).1, fun ho => ?_⟩⟩
  · rcases h3 b hb2 with h | h
    · exact hl b h
    · have := hb.size; omega
  · rcases h3 b ho with h | h
    · exact (hR.1 r hr).2 b hb2 h
    · have := (World.ownsRow.lt (hR.1 r hr).1 b hb2).2; omega
  · rcases h3 _ ho with h | h
    · exact (hR.2 p hp).2 h
    · have := heap_lt (hR.2 p hp).1; omega
theorem StX.keep (h : StX w0 g L R X w) (hb : Below w.heap.size w w') : StX w0 g L R X w' := by
  obtain ⟨v, h1, h2, h3, h4⟩ := h
  exact St.aft h3 h2 h4 (h1.same hb)
theorem StX.below (h : StX w0 g L R X w) : Below w0.heap.size w0 w := h.choose_spec.2.2.1
theorem StX.row (h : StX w0 g L R X w) {r : Sl × List Tm} (hr : r ∈ R) : TRow 39 w r.1.v r.2 := (h.choose_spec.2.2.2.1 r hr).1
theorem StX.rd (h : StX w0 g L R X w) {r : Sl × List Tm} (hr : r ∈ R) : RdT w r.1.a r.2 := trow_rd (n := r.1.n) (cap := r.1.c) (h.row hr)
theorem StX.block (h : StX w0 g L R X w) {p : Nat × Obj} (hp : p ∈ X) : w.heap[p.1]? = some p.2 := (h.choose_spec.2.2.2.2 p hp).1
theorem StX.forget (h : StX w0 g L R X w) : StX w0 g L [] X w := by
  obtain ⟨v, h1, h2, h3, h4⟩ := h
  exact ⟨v, h1, h2, h3, by simp, h4.2⟩
/-- a block more, new -/
theorem StX.add (h : StX w0 g L R X w) (hb : Below w.heap.size w w') {b : Nat} {o : Obj} (ho : w'.heap[b]? = some o) (hn : w.heap.size ≤ b) : StX w0 g L R ((b, o) :: X) w' := by
  obtain ⟨v, h1, h2, h3, h4, h5⟩ := h
  refine ⟨v, h1.keep hb, h2, h3.trans (hb.mono h3.size), fun r hr => ⟨trow_touch (F := fun _ => False) (h4 r hr).1 (Touch.of_below _ hb) (fun _ _ h => h), (h4 r hr).2⟩, fun p hp => ?_⟩
  rcases List.mem_cons.1 hp with rfl | hp
  · exact ⟨ho, fun ho2 => by have := h1.lt _ ho2; simp at this; omega⟩
  · exact ⟨(hb.block _ (heap_lt (h5 p hp).1)).trans (h5 p hp).1, (h5 p hp).2⟩
theorem new_s (w0 w : World) (hb : Below w0.heap.size w0 w) : Calls Try.prog 9 #[] w (fun e w' => ∃ g, e = .returned (.pointer (some ⟨g, 0, none⟩)) ∧ St w0 g [] [] w') :=
  (new_any w).mono fun e w' ⟨g, he, hg, hW, hb2⟩ => ⟨g, he, ⟨none, 0, 0⟩, hW, fun b hb3 => by
    rcases hb3 with rfl | hb3
    · exact Nat.le_trans hb.size hg
    · simp [Sl.v, Value.ownBlock] at hb3, hb.trans (hb2.mono hb.size), by simp, by simp⟩
theorem set_s (h : StX w0 g L R X w) (k i t : Int) (ht0 : 0 ≤ t) (ht1 : t ≤ 18446744073709551615) :
    Calls Try.prog 16 #[.pointer (some ⟨g, 0, none⟩), .int .i64 k, .int .i64 i, .int .u64 t] w (fun e w' => e = .returned (.int .i64 (setE k i L)) ∧ StX w0 g (setL k i t L) R X w') := by
  obtain ⟨v, h1, h2, h3, h4⟩ := h
  exact (set_any k i t ht0 ht1 g v L w h1).mono fun e w' ⟨he, ha⟩ => ⟨he, St.aft h3 h2 h4 ha⟩
theorem stop_s (h : StX w0 g L R X w) (k i : Int) :
    Calls Try.prog 10 #[.pointer (some ⟨g, 0, none⟩), .int .i64 k, .int .i64 i] w (fun e w' => e = .returned (.bool (hasT k i L)) ∧ StX w0 g (stopL k i L) R X w') := by
  obtain ⟨v, h1, h2, h3, h4⟩ := h
  exact (stop_any k i g v L w h1).mono fun e w' ⟨he, ha⟩ => ⟨he, St.aft h3 h2 h4 ha⟩
theorem at_s (h : StX w0 g L R X w) (k i : Int) :
    Calls Try.prog 14 #[.pointer (some ⟨g, 0, none⟩), .int .i64 k, .int .i64 i] w (fun e w' => e = .returned (.tuple #[.int .u64 (atT k i L), .bool (hasT k i L)]) ∧ StX w0 g L R X w') := by
  obtain ⟨v, h1, h2, h3, h4⟩ := h
  exact (at_any k i g v L w h1).mono fun e w' ⟨he, ha⟩ => ⟨he, St.aft h3 h2 h4 (h1.same ha)⟩
theorem len_s (h : StX w0 g L R X w) :
    Calls Try.prog 20 #[.pointer (some ⟨g, 0, none⟩)] w (fun e w' => e = .returned (.int .i64 (L.length : Nat)) ∧ w' = w) := by
  obtain ⟨v, h1, h2, h3, h4⟩ := h
  exact len_any g v L w h1
/-- a slice of new memory more -/
theorem StX.more (h : StX w0 g L R X w) (hb : Below w.heap.size w w') {u : Sl} {D : List Tm} (hn : NewT 39 D w u w') : StX w0 g L ((u, D) :: R) X w' := by
  obtain ⟨v, h1, h2, h3, h4⟩ := h
  refine ⟨v, h1.keep hb, h2, h3.trans (hb.mono h3.size), fun r hr => ?_, fun p hp => ⟨(hb.block _ (heap_lt (h4.2 p hp).1)).trans (h4.2 p hp).1, (h4.2 p hp).2⟩⟩
  rcases List.mem_cons.1 hr with rfl | hr
  · exact ⟨hn.1, fun b hb2 ho => by have := hn.2.2 b hb2; have := h1.lt b ho; omega⟩
  · exact ⟨trow_touch (F := fun _ => False) (h4.1 r hr).1 (Touch.of_below _ hb) (fun _ _ h => h), (h4.1 r hr).2⟩
theorem all_s (h : StX w0 g L R X w) :
    Calls Try.prog 18 #[.pointer (some ⟨g, 0, none⟩)] w (fun e w' => ∃ u : Sl, e = .returned (.slice u.a (sortT L).length u.c) ∧ StX w0 g L ((u, sortT L) :: R) X w') := by
  have h' := h
  obtain ⟨v, h1, h2, h3, h4⟩ := h
  exact (all_any g v L w h1).mono fun e w' ⟨u, he, hn, hb⟩ => ⟨u, by rw [he, hn.2.1], h'.more hb hn⟩
theorem due_s (h : StX w0 g L R X w) (now : Int) :
    Calls Try.prog 12 #[.pointer (some ⟨g, 0, none⟩), .int .u64 now] w (fun e w' => ∃ u : Sl, e = .returned (.slice u.a (sortT (dueL now L)).length u.c) ∧ StX w0 g (restL now L) ((u, sortT (dueL now L)) :: R) X w') := by
  obtain ⟨v, h1, h2, h3, h4⟩ := h
  refine (due_any now g v L w h1).mono fun e w' ⟨u, v', he, hn, hW, ht, ho, hd⟩ => ⟨u, by rw [he, hn.2.1], ?_⟩
  obtain ⟨v2, k1, k2, k3, k4⟩ := St.aft (R := R) (X := X) h3 h2 h4 ⟨v', hW, ht, ho⟩
  refine ⟨v', hW, fun b hb => ?_, k3, fun r hr => ?_, fun p hp => ⟨(k4.2 p hp).1, fun ho2 => ?_⟩⟩
  · rcases ho b hb with h | h
    · exact h2 b h
    · have := h3.size; omega
  · rcases List.mem_cons.1 hr with rfl | hr
    · exact ⟨hn.1, hd⟩
    · refine ⟨(k4.1 r hr).1, fun b hb ho2 => ?_⟩
      rcases ho b ho2 with h | h
      · exact (h4.1 r hr).2 b hb h
      · have := (World.ownsRow.lt (h4.1 r hr).1 b hb).2; omega
  · rcases ho _ ho2 with h | h
    · exact (h4.2 p hp).2 h
    · have := heap_lt (h4.2 p hp).1; omega
end
end Go.Proofs.Ytmnakbpjbgjnmaa
