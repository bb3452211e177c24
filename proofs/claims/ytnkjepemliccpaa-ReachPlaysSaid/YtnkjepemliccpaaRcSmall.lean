/- The program's: isNode, New, Round, Heard, See, Reset. -/
import Derived.Test.YtnkjepemliccpaaRcRow
import Derived.Test.YtnkjepemliccpaaAddrSmall
import Derived.BigRegion
import Derived.Deep.Upon
namespace Go.Proofs.Ytnkjepemliccpaa
open Go.Sort Go.RowKit Go.BigFrame
set_option linter.unusedVariables false
set_option linter.unusedSimpArgs false

theorem node_any (i : Int) (w : World) : Calls Try.prog 29 #[.int .i64 i] w fun e w' => e = .returned (.bool (nodeI i)) ∧ w = w' := by
  unfold nodeI
  by_cases h : 1 ≤ i
  · go_enter Try.func29, Try.ntmps29
    go_wp2
    go_ret
    exact ⟨bool_ret (by first | (simp [h]; done) | (simp; intros; omega)), rfl⟩
  · go_enter Try.func29, Try.ntmps29
    go_wp2
    go_ret
    exact ⟨bool_ret (by first | (simp [h]; done) | (simp; intros; omega)), rfl⟩
theorem wpList_build_eq {P : Program} {ops : Array Oper} {rest : List Oper} {o : Oper} {a : Act} {w : World} {Q : Exit → Act → World → Prop} (hg : o.guard = none) (t : TypeId) (parts : Array (Nat × Operand)) (ho : o.op = .build t parts) (cells : Array Value)
    (vals : List (Nat × Value)) (hv : (parts.map fun (i, x) => (i, a.eval x)).toList = vals) (hf : P.built t vals = some cells)
    (h : wpList P ops Q rest (a.put o.dst (.agg cells)) w) : wpList P ops Q (o :: rest) a w :=
  wpList_build hg t parts ho (by rw [hv, hf]; rfl) (by rw [hv, hf]; exact h)
theorem new_built (r : Nat) (h : Int) : (Try.prog.built 73 [(0, .int .i64 r), (1, .int .u64 h)]) = some (cR (newR r h)).toArray := by kernel_rfl
set_option maxHeartbeats 1600000 in
theorem new_bad (r h : Int) (ha : argN r h = true) (w : World) : Calls Try.prog 10 #[.int .i64 r, .int .u64 h] w fun e w' => e = .returned (.tuple #[.pointer none, .int .i64 1]) ∧ w = w' := by
  unfold argN at ha
  by_cases c1 : r < 1
  · go_enter Try.func10, Try.ntmps10
    go_wp2
    refine bodyPost_ret (v := (.tuple #[.pointer none, .int .i64 1])) (by simp [results, Try.results10, go_sem, *]) rfl ?_
    exact ⟨rfl, rfl⟩
  · by_cases c2 : 8 < r
    · have d1 : decide (r < 1) = false := decide_eq_false c1
      have d2 : decide (8 < r) = true := decide_eq_true c2
      go_enter Try.func10, Try.ntmps10
      go_wp2
      refine bodyPost_ret (v := (.tuple #[.pointer none, .int .i64 1])) (by simp [results, Try.results10, go_sem, *]) rfl ?_
      exact ⟨rfl, rfl⟩
    · have d1 : decide (r < 1) = false := decide_eq_false c1
      have d2 : decide (8 < r) = false := decide_eq_false c2
      rw [d1, d2] at ha
      simp only [Bool.false_or] at ha
      by_cases c3 : h = 0
      · have d3 : (h == 0) = true := beq_iff_eq.2 c3
        go_enter Try.func10, Try.ntmps10
        go_wp2
        refine bodyPost_ret (v := (.tuple #[.pointer none, .int .i64 1])) (by simp [results, Try.results10, go_sem, *]) rfl ?_
        exact ⟨rfl, rfl⟩
      · have d3 : (h == 0) = false := beq_eq_false_iff_ne.2 c3
        rw [d3] at ha
        simp only [Bool.false_or] at ha
        go_enter Try.func10, Try.ntmps10
        go_wp2
        refine bodyPost_ret (v := (.tuple #[.pointer none, .int .i64 1])) (by simp [results, Try.results10, go_sem, *]) rfl ?_
        exact ⟨rfl, rfl⟩
def NewRPost (r h : Int) (w : World) (e : Ending) (w' : World) : Prop := ∃ g, e = .returned (.tuple #[.pointer (some ⟨g, 0, none⟩), .int .i64 0]) ∧ w.heap.size ≤ g ∧ Rs g (newR r.toNat h) w' ∧ Below w.heap.size w w'
theorem Rs.new {k : Rc} (h : OkR k) (w : World) : Rs w.heap.size k (w.alloc (.cells (cR k).toArray 73)) := ⟨heap_alloc_new _ _, h⟩
set_option maxHeartbeats 1600000 in
theorem new_any (r h : Int) (ha : argN r h = false) (hh : 0 ≤ h) (w : World) : Calls Try.prog 10 #[.int .i64 r, .int .u64 h] w (NewRPost r h w) := by
  obtain ⟨h1, h2, h3, h4⟩ := argN_no ha
  have F := Lib.hid (Rs.new (new_ok ha hh) w)
  obtain ⟨n, rfl⟩ : ∃ n : Nat, r = n := ⟨r.toNat, by omega⟩
  have hB := new_built n h
  unfold NewRPost
  simp only [Int.toNat_natCast] at F ⊢
  have d1 : decide ((n : Int) < 1) = false := decide_eq_false (by omega)
  have d2 : decide ((8 : Int) < n) = false := decide_eq_false (by omega)
  have d3 : (h == 0) = false := beq_eq_false_iff_ne.2 h3
  have d4 : decide (1000000 < h) = false := decide_eq_false (by omega)
  clear ha
  have FF : Hid (Rs w.heap.size (newR n h) (w.alloc (.cells (cR (newR n h)).toArray 73))) := F
  generalize hX : (cR (newR n h)).toArray = X at hB FF
  clear hX F
  go_enter Try.func10, Try.ntmps10
  go_upto_region 3 with fail
  go_wp2_with (refine wpList_build_eq rfl 73 _ rfl X _ (by kernel_rfl) hB ?_)
  refine bodyPost_ret (v := (.tuple #[.pointer (some ⟨w.heap.size, 0, none⟩), .int .i64 0])) (by simp [results, Try.results10, go_sem, *]) rfl ?_
  exact ⟨w.heap.size, rfl, Nat.le_refl _, FF.out, (Below.refl _ _).alloc (Nat.le_refl _) _⟩
def RoundPost (g : Nat) (k : Rc) (seq now : Int) (w : World) (e : Ending) (w' : World) : Prop := e = .returned (.int .i64 (roundE k now)) ∧ RAft g (roundD k seq now) w w'
set_option maxHeartbeats 1600000 in
theorem round_any (seq now : Int) (g : Nat) (k : Rc) (w : World) (h : Rs g k w) :
    Calls Try.prog 12 #[.pointer (some ⟨g, 0, none⟩), .int .u32 seq, .int .u64 now] w (RoundPost g k seq now w) := by
  unfold RoundPost
  have gl := h.lt
  have SAME := Lib.hid (h.same (Below.refl _ _))
  have c1 := h.tl 1 _ rfl
  by_cases hn : 4611686018427387904 < now
  · have e1 : roundE k now = 1 := by unfold roundE; rw [if_pos hn]
    have e2 : roundD k seq now = k := by unfold roundD; rw [e1, if_neg (by decide)]
    rw [e1, e2]
    go_enter Try.func12, Try.ntmps12
    go_wp2
    refine bodyPost_ret (v := (.int .i64 1)) (by simp [results, Try.results12, go_sem, *]) rfl ?_
    exact ⟨rfl, SAME.out⟩
  · cases ho : k.on with
    | true =>
      have e1 : roundE k now = 4 := by unfold roundE; rw [if_neg hn, if_pos ho]
      have e2 : roundD k seq now = k := by unfold roundD; rw [e1, if_neg (by decide)]
      rw [e1, e2]
      rw [ho] at c1
      go_enter Try.func12, Try.ntmps12
      go_wp2
      refine bodyPost_ret (v := (.int .i64 4)) (by simp [results, Try.results12, go_sem, *]) rfl ?_
      exact ⟨rfl, SAME.out⟩
    | false =>
      have e1 : roundE k now = 0 := by unfold roundE; rw [if_neg hn, if_neg (by simp [ho])]
      have e2 : roundD k seq now = { k with on := true, seq := seq, got := false } := by unfold roundD; rw [e1, if_pos rfl]
      have F1 := h.set 143 (.bool true) (k' := { k with on := true }) (cR_set_on k true) ⟨h.ok.r0, h.ok.r1, h.ok.h0, h.ok.h1, h.ok.len, h.ok.vote⟩
      have F2 := F1.1.set 144 (.int .u32 seq) (k' := { k with on := true, seq := seq }) (cR_set_seq _ seq) ⟨h.ok.r0, h.ok.r1, h.ok.h0, h.ok.h1, h.ok.len, h.ok.vote⟩
      have F3 := F2.1.set 145 (.bool false) (k' := { k with on := true, seq := seq, got := false }) (cR_set_got _ false) ⟨h.ok.r0, h.ok.r1, h.ok.h0, h.ok.h1, h.ok.len, h.ok.vote⟩
      have FF := Lib.hid ((F1.trans F2).trans F3)
      clear F1 F2 F3
      rw [e1, e2]
      rw [ho] at c1
      have c2 := h.tl 2 _ rfl
      have c3 := h.tl 3 _ rfl
      have fr := fun o => h.free o
      clear h SAME e1 e2 ho
      go_enter Try.func12, Try.ntmps12
      go_wp2
      refine bodyPost_ret (v := (.int .i64 0)) (by simp [results, Try.results12, go_sem, *]) rfl ?_
      exact ⟨rfl, FF.out⟩
def HeardPost (g : Nat) (k : Rc) (seq : Int) (w : World) (e : Ending) (w' : World) : Prop := e = .returned (.bool (heardB k seq)) ∧ RAft g (heardD k seq) w w'
set_option maxHeartbeats 1600000 in
theorem heard_any (seq : Int) (g : Nat) (k : Rc) (w : World) (h : Rs g k w) :
    Calls Try.prog 14 #[.pointer (some ⟨g, 0, none⟩), .int .u32 seq] w (HeardPost g k seq w) := by
  unfold HeardPost
  have gl := h.lt
  have SAME := Lib.hid (h.same (Below.refl _ _))
  have c1 := h.tl 1 _ rfl
  have c2 := h.tl 2 _ rfl
  cases ho : k.on with
  | false =>
    have e1 : heardB k seq = false := by unfold heardB; rw [ho]; rfl
    have e2 : heardD k seq = k := by unfold heardD; rw [e1, if_neg (by decide)]
    rw [e1, e2]
    rw [ho] at c1
    go_enter Try.func14, Try.ntmps14
    go_wp2
    refine bodyPost_ret (v := (.bool false)) (by simp [results, Try.results14, go_sem, *]) rfl ?_
    exact ⟨rfl, SAME.out⟩
  | true =>
    by_cases hs : k.seq = seq
    · have e1 : heardB k seq = true := by unfold heardB; rw [ho]; simpa using hs
      have e2 : heardD k seq = { k with got := true } := by unfold heardD; rw [e1, if_pos rfl]
      rw [e1, e2]
      rw [ho] at c1
      have F1 := Lib.hid (h.set 145 (.bool true) (k' := { k with got := true }) (cR_set_got k true) ⟨h.ok.r0, h.ok.r1, h.ok.h0, h.ok.h1, h.ok.len, h.ok.vote⟩)
      have c3 := h.tl 3 _ rfl
      have fr := fun o => h.free o
      have q : (k.seq != seq) = false := by simpa using hs
      clear h SAME e1 e2 ho
      go_enter Try.func14, Try.ntmps14
      go_wp2
      refine bodyPost_ret (v := (.bool true)) (by simp [results, Try.results14, go_sem, *]) rfl ?_
      exact ⟨rfl, F1.out⟩
    · have e1 : heardB k seq = false := by unfold heardB; rw [ho]; simpa using hs
      have e2 : heardD k seq = k := by unfold heardD; rw [e1, if_neg (by decide)]
      rw [e1, e2]
      rw [ho] at c1
      have q : (k.seq != seq) = true := by simpa using hs
      go_enter Try.func14, Try.ntmps14
      go_wp2
      refine bodyPost_ret (v := (.bool false)) (by simp [results, Try.results14, go_sem, *]) rfl ?_
      exact ⟨rfl, SAME.out⟩
end Go.Proofs.Ytnkjepemliccpaa
