/- Both boxes side by side: the program's and the reference's; boxes of a law's own beside them; what Out, In, Sweep, Rebind answer, as one function each. -/
import Derived.Test.YtnemmnndaoaadaaBoxRefOut
import Derived.Test.YtnemmnndaoaadaaBoxDeeds
import Derived.Test.YtnemmnndaoaadaaBoxTwo
namespace Go.Proofs.Ytnemmnndaoaadaa
open Go.Sort Go.RowKit Go.BigFrame
set_option linter.unusedVariables false
set_option linter.unusedSimpArgs false

/-- the reference's box, apart from R -/
def R1 (B : Nat) (R : Nat → Prop) (gx : Nat) (Y : Bx) (S : Nat → Prop) (w : World) : Prop := ∃ v L, RBs gx S Y.m Y.f Y.ip Y.hold Y.room v L w ∧ L.map (·.1) = Y.l ∧ ∀ k, S k → B ≤ k ∧ ¬ R k
structure LN (W : World) (lo : List (Nat × List Value)) (g gx : Nat) (X Y : Bx) (w : World) : Prop where
  below : Below W.heap.size W w
  ex : ∃ S1 S2, B1 W.heap.size (fun k => k ∈ lo.map (·.1) ∨ S2 k) g X S1 w ∧ R1 W.heap.size (fun k => k ∈ lo.map (·.1) ∨ S1 k) gx Y S2 w
  c : ∀ p ∈ lo, Cs p.1 p.2 w ∧ W.heap.size ≤ p.1
section
variable {W w w' : World} {lo lo' : List (Nat × List Value)} {g gx : Nat} {X X' Y Y' : Bx} {S S1 S2 : Nat → Prop} {B : Nat} {R R' : Nat → Prop}
theorem R1.keep (h : R1 B R gx Y S w) (hb : Below w.heap.size w w') : R1 B R gx Y S w' := by
  obtain ⟨v, L, h1, h2, h3⟩ := h
  exact ⟨v, L, h1.keep hb, h2, h3⟩
theorem R1.touch {F : Nat → Prop} (h : R1 B R gx Y S w) (ht : Touch F w w') (hF : ∀ k, S k → ¬ F k) : R1 B R gx Y S w' := by
  obtain ⟨v, L, h1, h2, h3⟩ := h
  exact ⟨v, L, h1.touch ht hF, h2, h3⟩
theorem R1.more (h : R1 B R gx Y S w) (hR : ∀ k, S k → ¬ R' k) : R1 B R' gx Y S w := by
  obtain ⟨v, L, h1, h2, h3⟩ := h
  exact ⟨v, L, h1, h2, fun k hk => ⟨(h3 k hk).1, hR k hk⟩⟩
theorem R1.out (h : R1 B R gx Y S w) : ∀ k, S k → B ≤ k ∧ k < w.heap.size ∧ ¬ R k := by
  obtain ⟨v, L, h1, h2, h3⟩ := h
  exact fun k hk => ⟨(h3 k hk).1, h1.lt k hk, (h3 k hk).2⟩
theorem LN.keep (h : LN W lo g gx X Y w) (hb : Below w.heap.size w w') : LN W lo g gx X Y w' := by
  obtain ⟨S1, S2, h1, h2⟩ := h.ex
  exact ⟨h.below.trans (hb.mono h.below.size), ⟨S1, S2, h1.keep hb, h2.keep hb⟩, fun p hp => ⟨(h.c p hp).1.keep hb, (h.c p hp).2⟩⟩
theorem LN.drew (h : LN W lo g gx X Y w) : LN W lo g gx X Y w.drew := h.keep (Below.refl _ _).drew
theorem LN.sub (h : LN W lo g gx X Y w) (hs : ∀ p ∈ lo', p ∈ lo) : LN W lo' g gx X Y w := by
  obtain ⟨S1, S2, h1, h2⟩ := h.ex
  have hm : ∀ k, k ∈ lo'.map (·.1) → k ∈ lo.map (·.1) := fun k hk => by
    obtain ⟨p, hp, rfl⟩ := List.mem_map.1 hk
    exact List.mem_map.2 ⟨p, hs p hp, rfl⟩
  exact ⟨h.below, ⟨S1, S2, h1.more fun k hk e => (h1.out k hk).2.2 (e.imp (hm k) id), h2.more fun k hk e => (h2.out k hk).2.2 (e.imp (hm k) id)⟩, fun p hp => h.c p (hs p hp)⟩
/-- a box of the law's own, made since -/
theorem LN.add {w0 : World} {z : Nat} {vs : List Value} (h : LN W lo g gx X Y w0) (hb : Below w0.heap.size w0 w) (hz : Cs z vs w ∧ w0.heap.size ≤ z) : LN W ((z, vs) :: lo) g gx X Y w := by
  obtain ⟨S1, S2, h1, h2⟩ := h.ex
  have hk := h.keep hb
  refine ⟨hk.below, ⟨S1, S2, (h1.keep hb).more fun k hk e => ?_, (h2.keep hb).more fun k hk e => ?_⟩, fun p hp => ?_⟩
  · have q := h1.out k hk
    rcases e with e | e
    · rw [List.map_cons] at e
      rcases List.mem_cons.1 e with rfl | e
      · have := q.2.1; have := hz.2; simp only at *; omega
      · exact q.2.2 (.inl e)
    · exact q.2.2 (.inr e)
  · have q := h2.out k hk
    rcases e with e | e
    · rw [List.map_cons] at e
      rcases List.mem_cons.1 e with rfl | e
      · have := q.2.1; have := hz.2; simp only at *; omega
      · exact q.2.2 (.inl e)
    · exact q.2.2 (.inr e)
  · rcases List.mem_cons.1 hp with rfl | hp
    · exact ⟨hz.1, Nat.le_trans h.below.size hz.2⟩
    · exact hk.c p hp
theorem LN.alloc (h : LN W lo g gx X Y w) (vs : List Value) (T : TypeId) : LN W ((w.heap.size, vs) :: lo) g gx X Y (w.alloc (.cells vs.toArray T)) :=
  h.add ((Below.refl _ w).alloc (Nat.le_refl _) _) ⟨Cs.new w vs T, Nat.le_refl _⟩
theorem LN.at (h : LN W lo g gx X Y w) (z : Nat) (vs : List Value) (hm : (z, vs) ∈ lo) : Cs z vs w := (h.c _ hm).1
/-- the first box of the law's own, of two cells, is written -/
theorem LN.laid {z : Nat} {a b p q : Value} (h : LN W ((z, [a, b]) :: lo) g gx X Y w) (hz : ∀ y ∈ lo, y.1 ≠ z) : LN W ((z, [p, q]) :: lo) g gx X Y ((w.setCell ⟨z, 0, none⟩ p).setCell ⟨z, 1, none⟩ q) := by
  obtain ⟨S1, S2, h1, h2⟩ := h.ex
  have t : Touch (fun k => k = z) w ((w.setCell ⟨z, 0, none⟩ p).setCell ⟨z, 1, none⟩ q) := Touch.set (F := fun k => k = z) (Touch.set (F := fun k => k = z) (Touch.refl _ w) (fun _ => rfl) _) (fun _ => rfl) _
  have hzl := h.c _ (List.mem_cons_self ..)
  refine ⟨h.below.trans (t.below h.below.size (fun k _ e => by rw [e]; exact hzl.2)), ⟨S1, S2, h1.touch t (fun k hk e => (h1.out k hk).2.2 (.inl (by rw [e]; simp))), h2.touch t (fun k hk e => (h2.out k hk).2.2 (.inl (by rw [e]; simp)))⟩, fun y hy => ?_⟩
  rcases List.mem_cons.1 hy with rfl | hy
  · exact ⟨(hzl.1.set 0 p (by simp)).set 1 q (by simp), hzl.2⟩
  · exact ⟨(h.c y (List.mem_cons_of_mem _ hy)).1.touch t (fun e => hz y hy e), (h.c y (List.mem_cons_of_mem _ hy)).2⟩
/-- the program's box turned -/
theorem ln_prog (h : LN W lo g gx X Y w) (S1 S2 : Nat → Prop) (h1 : B1 W.heap.size (fun k => k ∈ lo.map (·.1) ∨ S2 k) g X S1 w) (h2 : R1 W.heap.size (fun k => k ∈ lo.map (·.1) ∨ S1 k) gx Y S2 w) (ha : Aft W.heap.size (fun k => k ∈ lo.map (·.1) ∨ S2 k) g X' S1 w w') : LN W lo g gx X' Y w' := by
  obtain ⟨S1', h3, t, hs⟩ := ha
  refine ⟨h.below.trans (t.below h.below.size (fun k _ hk => (h1.out k hk).1)), ⟨S1', S2, h3, (h2.touch t (fun k hk e => (h2.out k hk).2.2 (.inr e))).more fun k hk e => ?_⟩, fun p hp => ⟨(h.c p hp).1.touch t (fun e => (h1.out _ e).2.2 (.inl (List.mem_map.2 ⟨p, hp, rfl⟩))), (h.c p hp).2⟩⟩
  obtain ⟨_, h4, h5⟩ := h2.out k hk
  rcases e with e | e
  · exact h5 (.inl e)
  · rcases hs k e with e | e
    · exact h5 (.inr e)
    · omega
/-- the reference's box turned -/
theorem ln_ref (h : LN W lo g gx X Y w) (S1 S2 : Nat → Prop) (h1 : B1 W.heap.size (fun k => k ∈ lo.map (·.1) ∨ S2 k) g X S1 w) (h2 : R1 W.heap.size (fun k => k ∈ lo.map (·.1) ∨ S1 k) gx Y S2 w) (v' : Sl) (L' : List Bd) (h3 : RBs gx (grownS S2 w w') Y'.m Y'.f Y'.ip Y'.hold Y'.room v' L' w') (hl : L'.map (·.1) = Y'.l) (t : Touch S2 w w') : LN W lo g gx X Y' w' := by
  have hW := h.below.size
  have hlo : ∀ k, k ∈ lo.map (·.1) → k < w.heap.size := fun k hk => by
    obtain ⟨p, hp, rfl⟩ := List.mem_map.1 hk
    exact (h.c p hp).1.lt
  refine ⟨h.below.trans (t.below hW (fun k _ hk => (h2.out k hk).1)), ⟨S1, grownS S2 w w', (h1.touch t (fun k hk e => (h1.out k hk).2.2 (.inr e))).more fun k hk e => ?_, v', L', h3, hl, fun k hk => ?_⟩, fun p hp => ⟨(h.c p hp).1.touch t (fun e => (h2.out _ e).2.2 (.inl (List.mem_map.2 ⟨p, hp, rfl⟩))), (h.c p hp).2⟩⟩
  · obtain ⟨_, h4, h5⟩ := h1.out k hk
    rcases e with e | e
    · exact h5 (.inl e)
    · rcases e with e | ⟨e, _⟩
      · exact h5 (.inr e)
      · omega
  · rcases hk with hk | ⟨h4, h5⟩
    · exact ⟨(h2.out k hk).1, (h2.out k hk).2.2⟩
    · refine ⟨by omega, fun e => ?_⟩
      rcases e with e | e
      · have := hlo k e; omega
      · have := (h1.out k e).2.1; omega
end
/-! what a deed answers -/
def withL (X : Bx) (l : List Pb) : Bx := ⟨X.m, X.f, X.ip, X.hold, X.room, l⟩
def outT (X : Bx) (now si sp di dp : Int) : (Int × Int × Int) × List Pb := if badO si sp di dp now = true then ((0, 0, 1), X.l) else ((X.ip, poAt (outP X.m X.hold X.room now si sp di dp X.l).2 (outP X.m X.hold X.room now si sp di dp X.l).1, 0), (outP X.m X.hold X.room now si sp di dp X.l).2)
def inT (X : Bx) (now port si sp : Int) : (Int × Int × Int) × List Pb := if badI si sp now = true then ((0, 0, 1), X.l) else inQ X.f X.hold now port si sp X.l
def ansV (r : Int × Int × Int) : Value := .tuple #[.agg #[.int .u32 r.1, .int .u16 r.2.1], .int .i64 r.2.2]
def rebT (X : Bx) (ip : Int) : Bx := if ip = 0 then X else ⟨X.m, X.f, ip, X.hold, X.room, []⟩
def rebE (ip : Int) : Int := if ip = 0 then 1 else 0
section
variable {W w : World} {lo : List (Nat × List Value)} {g gx : Nat} {X Y : Bx}
theorem outN (h : LN W lo g gx X Y w) (now si sp di dp : Int) (h0 : 0 ≤ now) :
    Calls Try.prog 15 #[.pointer (some ⟨g, 0, none⟩), .int .u64 now, .agg #[.int .u32 si, .int .u16 sp], .agg #[.int .u32 di, .int .u16 dp]] w (fun e w' => e = .returned (ansV (outT X now si sp di dp).1) ∧ LN W lo g gx (withL X (outT X now si sp di dp).2) Y w') := by
  unfold outT
  by_cases hb : badO si sp di dp now = true
  · rw [if_pos hb]
    exact (out_bad g si sp di dp now w hb).mono fun e w' hh => ⟨hh.1, h.keep hh.2⟩
  · rw [if_neg hb]
    obtain ⟨S1, S2, h1, h2⟩ := h.ex
    have hlo : ∀ k, (k ∈ lo.map (·.1) ∨ S2 k) → k < w.heap.size := fun k hk => by
      rcases hk with hk | hk
      · obtain ⟨p, hp, rfl⟩ := List.mem_map.1 hk
        exact (h.c p hp).1.lt
      · exact (h2.out k hk).2.1
    exact (out1 h.below.size hlo h1 (by simpa using hb) h0 rfl rfl).mono fun e w' hh => ⟨hh.1, ln_prog h S1 S2 h1 h2 hh.2⟩
theorem outX (h : LN W lo g gx X Y w) (now si sp di dp : Int) (h0 : 0 ≤ now) :
    Calls Try.prog 17 #[.pointer (some ⟨gx, 0, none⟩), .int .u64 now, .agg #[.int .u32 si, .int .u16 sp], .agg #[.int .u32 di, .int .u16 dp]] w (fun e w' => e = .returned (ansV (outT Y now si sp di dp).1) ∧ LN W lo g gx X (withL Y (outT Y now si sp di dp).2) w') := by
  unfold outT
  by_cases hb : badO si sp di dp now = true
  · rw [if_pos hb]
    exact (rout_bad gx si sp di dp now w hb).mono fun e w' hh => ⟨hh.1, h.keep hh.2⟩
  · rw [if_neg hb]
    obtain ⟨S1, S2, h1, v, L, h2, h3, h4⟩ := h.ex
    refine (rout_ok gx S2 Y.m Y.f Y.ip Y.hold Y.room v now si sp di dp L w h2 (by simpa using hb) h0).mono fun e w' hh => ?_
    obtain ⟨L', q1, q2, ⟨v', q3⟩, q4⟩ := hh
    rw [h3] at q1 q2
    exact ⟨q2, ln_ref (Y' := withL Y _) h S1 S2 h1 ⟨v, L, h2, h3, h4⟩ v' L' q3 q1 q4⟩
theorem inN (h : LN W lo g gx X Y w) (now port si sp : Int) (h0 : 0 ≤ now) :
    Calls Try.prog 7 #[.pointer (some ⟨g, 0, none⟩), .int .u64 now, .int .u16 port, .agg #[.int .u32 si, .int .u16 sp]] w (fun e w' => e = .returned (ansV (inT X now port si sp).1) ∧ LN W lo g gx (withL X (inT X now port si sp).2) Y w') := by
  unfold inT
  by_cases hb : badI si sp now = true
  · rw [if_pos hb]
    exact (in_bad g port si sp now w hb).mono fun e w' hh => ⟨hh.1, h.keep hh.2⟩
  · rw [if_neg hb]
    obtain ⟨S1, S2, h1, h2⟩ := h.ex
    exact (in1 h1 (by simpa using hb) h0 rfl).mono fun e w' hh => ⟨hh.1, ln_prog h S1 S2 h1 h2 hh.2⟩
theorem inX (h : LN W lo g gx X Y w) (now port si sp : Int) (h0 : 0 ≤ now) :
    Calls Try.prog 9 #[.pointer (some ⟨gx, 0, none⟩), .int .u64 now, .int .u16 port, .agg #[.int .u32 si, .int .u16 sp]] w (fun e w' => e = .returned (ansV (inT Y now port si sp).1) ∧ LN W lo g gx X (withL Y (inT Y now port si sp).2) w') := by
  unfold inT
  by_cases hb : badI si sp now = true
  · rw [if_pos hb]
    exact (rin_bad gx port si sp now w hb).mono fun e w' hh => ⟨hh.1, h.keep hh.2⟩
  · rw [if_neg hb]
    obtain ⟨S1, S2, h1, v, L, h2, h3, h4⟩ := h.ex
    refine (rin_ok gx S2 Y.m Y.f Y.ip Y.hold Y.room v now port si sp L w h2 (by simpa using hb) h0).mono fun e w' hh => ?_
    obtain ⟨L', q1, q2, ⟨v', q3⟩, q4⟩ := hh
    rw [h3] at q1 q2
    exact ⟨q2, ln_ref (Y' := withL Y _) h S1 S2 h1 ⟨v, L, h2, h3, h4⟩ v' L' q3 q1 q4⟩
theorem sweepN (h : LN W lo g gx X Y w) (now : Int) :
    Calls Try.prog 11 #[.pointer (some ⟨g, 0, none⟩), .int .u64 now] w (fun e w' => e = .returned (.int .i64 ((X.l.length : Int) - (sweepP now X.l).length)) ∧ LN W lo g gx (withL X (sweepP now X.l)) Y w') := by
  obtain ⟨S1, S2, h1, h2⟩ := h.ex
  exact (sweep1 h1).mono fun e w' hh => ⟨hh.1, ln_prog h S1 S2 h1 h2 hh.2⟩
theorem sweepX (h : LN W lo g gx X Y w) (now : Int) :
    Calls Try.prog 12 #[.pointer (some ⟨gx, 0, none⟩), .int .u64 now] w (fun e w' => e = .returned (.int .i64 ((Y.l.length : Int) - (sweepP now Y.l).length)) ∧ LN W lo g gx X (withL Y (sweepP now Y.l)) w') := by
  obtain ⟨S1, S2, h1, v, L, h2, h3, h4⟩ := h.ex
  refine (rsweep_b now gx S2 Y.m Y.f Y.ip Y.hold Y.room v L w h2).mono fun e w' hh => ?_
  obtain ⟨q1, ⟨v', q2⟩, q3⟩ := hh
  have e1 : (keepU now L).map (·.1) = sweepP now Y.l := by rw [keepU_fst, h3]
  refine ⟨by rw [q1, ← e1, ← h3, List.length_map, List.length_map], ln_ref (Y' := withL Y _) h S1 S2 h1 ⟨v, L, h2, h3, h4⟩ v' _ q2 e1 (q3.mono (fun k _ e => by rw [e]; exact h2.gS))⟩
theorem rebX (h : LN W lo g gx X Y w) (ip : Int) :
    Calls Try.prog 14 #[.pointer (some ⟨gx, 0, none⟩), .int .u32 ip] w (fun e w' => e = .returned (.int .i64 (rebE ip)) ∧ LN W lo g gx X (rebT Y ip) w') := by
  unfold rebE rebT
  by_cases hip : ip = 0
  · subst hip
    rw [if_pos rfl, if_pos rfl]
    exact (rrebind_bad gx w).mono fun e w' hh => ⟨hh.1, h.keep hh.2⟩
  · rw [if_neg hip, if_neg hip]
    obtain ⟨S1, S2, h1, v, L, h2, h3, h4⟩ := h.ex
    refine (rrebind_b gx S2 Y.m Y.f Y.ip Y.hold Y.room v L ip hip w h2).mono fun e w' hh => ?_
    obtain ⟨q1, ⟨v', q2⟩, q3⟩ := hh
    exact ⟨q1, ln_ref (Y' := ⟨Y.m, Y.f, ip, Y.hold, Y.room, []⟩) h S1 S2 h1 ⟨v, L, h2, h3, h4⟩ v' [] q2 rfl (q3.mono (fun k _ e => by rw [e]; exact h2.gS))⟩
end
end Go.Proofs.Ytnemmnndaoaadaa
