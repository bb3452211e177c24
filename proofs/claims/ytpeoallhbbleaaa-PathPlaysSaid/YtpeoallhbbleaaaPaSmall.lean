/- The program's: isNode, isSpan, New, isPath, Lost, Of, Want. -/
import Derived.Test.YtpeoallhbbleaaaPaRow
import Derived.Test.YtpeoallhbbleaaaAddrSmall
import Derived.BigRegion
import Derived.Deep.Upon
namespace Go.Proofs.Ytpeoallhbbleaaa
open Go.Sort Go.RowKit Go.BigFrame
set_option linter.unusedVariables false
set_option linter.unusedSimpArgs false

theorem node_any (i : Int) (w : World) : Calls Try.prog 27 #[.int .i64 i] w fun e w' => e = .returned (.bool (nodeI i)) ∧ w = w' := by
  unfold nodeI
  by_cases h : 1 ≤ i
  · go_enter Try.func27, Try.ntmps27
    go_wp2
    go_ret
    exact ⟨bool_ret (by first | (simp [h]; done) | (simp; intros; omega)), rfl⟩
  · go_enter Try.func27, Try.ntmps27
    go_wp2
    go_ret
    exact ⟨bool_ret (by first | (simp [h]; done) | (simp; intros; omega)), rfl⟩
theorem span_any (s : Int) (w : World) : Calls Try.prog 26 #[.int .u64 s] w fun e w' => e = .returned (.bool (spanI s)) ∧ w = w' := by
  unfold spanI
  by_cases h : 1 ≤ s
  · go_enter Try.func26, Try.ntmps26
    go_wp2
    go_ret
    exact ⟨bool_ret (by first | (simp [h]; done) | (simp; intros; omega)), rfl⟩
  · go_enter Try.func26, Try.ntmps26
    go_wp2
    go_ret
    exact ⟨bool_ret (by first | (simp [h]; done) | (simp; intros; omega)), rfl⟩
theorem wpList_build_eq {P : Program} {ops : Array Oper} {rest : List Oper} {o : Oper} {a : Act} {w : World} {Q : Exit → Act → World → Prop} (hg : o.guard = none) (t : TypeId) (parts : Array (Nat × Operand)) (ho : o.op = .build t parts) (cells : Array Value)
    (vals : List (Nat × Value)) (hv : (parts.map fun (i, x) => (i, a.eval x)).toList = vals) (hf : P.built t vals = some cells)
    (h : wpList P ops Q rest (a.put o.dst (.agg cells)) w) : wpList P ops Q (o :: rest) a w :=
  wpList_build hg t parts ho (by rw [hv, hf]; rfl) (by rw [hv, hf]; exact h)
theorem tab_built (t b k h : Int) : (Try.prog.built 73 [(0, .int .i64 t), (1, .int .u64 b), (2, .int .u64 k), (3, .int .u64 h)]) = some (cK (newK t b k h)).toArray := by kernel_rfl
def newPost (t b k h : Int) (w : World) (e : Ending) (w' : World) : Prop :=
  (mayI t b k h = false → e = .returned (.tuple #[.pointer none, .int .i64 1]) ∧ w = w') ∧
  (mayI t b k h = true → ∃ g, e = .returned (.tuple #[.pointer (some ⟨g, 0, none⟩), .int .i64 0]) ∧ w.heap.size ≤ g ∧ Ts g (newK t b k h) w' ∧ Below w.heap.size w w')
theorem new_bad (t b k h : Int) (ha : mayI t b k h = false) (w : World) : Calls Try.prog 10 #[.int .i64 t, .int .u64 b, .int .u64 k, .int .u64 h] w fun e w' => e = .returned (.tuple #[.pointer none, .int .i64 1]) ∧ w = w' := by
  have K1 := span_any b
  have K2 := span_any k
  have K3 := span_any h
  unfold mayI at ha
  by_cases c1 : t < 1
  · have d1 : decide (t < 1) = true := decide_eq_true c1
    clear ha K1 K2 K3
    go_enter Try.func10, Try.ntmps10
    go_wp2
    refine bodyPost_ret (v := (.tuple #[.pointer none, .int .i64 1])) (by simp [results, Try.results10, go_sem, *]) rfl ?_
    exact ⟨rfl, rfl⟩
  · have d1 : decide (t < 1) = false := decide_eq_false c1
    by_cases c2 : 8 < t
    · have d2 : decide (8 < t) = true := decide_eq_true c2
      clear ha K1 K2 K3
      go_enter Try.func10, Try.ntmps10
      go_wp2
      refine bodyPost_ret (v := (.tuple #[.pointer none, .int .i64 1])) (by simp [results, Try.results10, go_sem, *]) rfl ?_
      exact ⟨rfl, rfl⟩
    · have d2 : decide (8 < t) = false := decide_eq_false c2
      rw [decide_eq_true (show 1 ≤ t by omega), decide_eq_true (show t ≤ 8 by omega)] at ha
      simp only [Bool.true_and, Bool.and_self] at ha
      generalize spanI b = q1 at *
      generalize spanI k = q2 at *
      generalize spanI h = q3 at *
      cases q1 with
      | false =>
        clear ha K2 K3
        go_enter Try.func10, Try.ntmps10
        go_wp2_with fail
        refine (K1 _).mono ?_; rintro e w1 ⟨rfl, rfl⟩
        go_wp2
        refine bodyPost_ret (v := (.tuple #[.pointer none, .int .i64 1])) (by simp [results, Try.results10, go_sem, *]) rfl ?_
        exact ⟨rfl, rfl⟩
      | true =>
        cases q2 with
        | false =>
          clear ha K3
          go_enter Try.func10, Try.ntmps10
          go_wp2_with fail
          refine (K1 _).mono ?_; rintro e w1 ⟨rfl, rfl⟩
          go_wp2_with fail
          refine (K2 _).mono ?_; rintro e w1 ⟨rfl, rfl⟩
          go_wp2
          refine bodyPost_ret (v := (.tuple #[.pointer none, .int .i64 1])) (by simp [results, Try.results10, go_sem, *]) rfl ?_
          exact ⟨rfl, rfl⟩
        | true =>
          obtain rfl : q3 = false := by simpa using ha
          clear ha
          go_enter Try.func10, Try.ntmps10
          go_wp2_with fail
          refine (K1 _).mono ?_; rintro e w1 ⟨rfl, rfl⟩
          go_wp2_with fail
          refine (K2 _).mono ?_; rintro e w1 ⟨rfl, rfl⟩
          go_wp2_with fail
          refine (K3 _).mono ?_; rintro e w1 ⟨rfl, rfl⟩
          go_wp2
          refine bodyPost_ret (v := (.tuple #[.pointer none, .int .i64 1])) (by simp [results, Try.results10, go_sem, *]) rfl ?_
          exact ⟨rfl, rfl⟩
def NewTPost (t b k h : Int) (w : World) (e : Ending) (w' : World) : Prop := ∃ g, e = .returned (.tuple #[.pointer (some ⟨g, 0, none⟩), .int .i64 0]) ∧ w.heap.size ≤ g ∧ Ts g (newK t b k h) w' ∧ Below w.heap.size w w'
set_option maxHeartbeats 1600000 in
theorem new_any (t b k h : Int) (ha : mayI t b k h = true) (w : World) : Calls Try.prog 10 #[.int .i64 t, .int .u64 b, .int .u64 k, .int .u64 h] w (NewTPost t b k h w) := by
  have K1 := span_any b
  have K2 := span_any k
  have K3 := span_any h
  have F : Hid (Ts w.heap.size (newK t b k h) (w.alloc (.cells (cK (newK t b k h)).toArray 73))) := ⟨Bk.new _ _ _, new_ok ha⟩
  have hB := tab_built t b k h
  have hm := mayI_iff.1 ha
  have d1 : decide (t < 1) = false := decide_eq_false (by omega)
  have d2 : decide (8 < t) = false := decide_eq_false (by omega)
  rw [spanI_iff.2 hm.2.2.1] at K1
  rw [spanI_iff.2 hm.2.2.2.1] at K2
  rw [spanI_iff.2 hm.2.2.2.2] at K3
  clear ha hm
  unfold NewTPost
  generalize newK t b k h = kk at *
  generalize (cK kk).toArray = X at *
  go_enter Try.func10, Try.ntmps10
  go_wp2_with fail
  refine (K1 _).mono ?_; rintro e w1 ⟨rfl, rfl⟩
  go_wp2_with fail
  refine (K2 _).mono ?_; rintro e w1 ⟨rfl, rfl⟩
  go_wp2_with fail
  refine (K3 _).mono ?_; rintro e w1 ⟨rfl, rfl⟩
  clear K1 K2 K3
  go_upto_region 3 with fail
  go_wp2_with (refine wpList_build_eq rfl 73 _ rfl X _ (by kernel_rfl) hB ?_)
  refine bodyPost_ret (v := (.tuple #[.pointer (some ⟨w.heap.size, 0, none⟩), .int .i64 0])) (by simp [results, Try.results10, go_sem, *]) rfl ?_
  exact ⟨w.heap.size, rfl, Nat.le_refl _, F.out, (Below.refl _ _).alloc (Nat.le_refl _) _⟩
set_option maxHeartbeats 1600000 in
theorem isP_any (id : Int) (g : Nat) (k : Tk) (w : World) (h : Ts g k w) : Calls Try.prog 28 #[.pointer (some ⟨g, 0, none⟩), .int .i64 id] w fun e w' => e = .returned (.bool (isP k id)) ∧ w = w' := by
  have K := node_any id w
  unfold isP
  cases hv : nodeI id with
  | false =>
    rw [hv] at K
    clear h hv
    go_enter Try.func28, Try.ntmps28
    go_wp2_with fail
    refine K.mono ?_; rintro e w1 ⟨rfl, rfl⟩
    clear K
    go_wp2
    go_ret
    exact ⟨rfl, rfl⟩
  | true =>
    rw [hv] at K
    have hb := nodeI_iff.1 hv
    clear hv
    obtain ⟨n, rfl⟩ : ∃ n : Nat, id = n := ⟨id.toNat, by omega⟩
    have c1 := h.p n (by omega) 1 _ rfl
    simp only [Int.toNat_natCast]
    unfold isS
    generalize (k.p n).st = x at *
    have hn0 : (0 : Int) ≤ n := by omega
    have hn1 : (n : Int) < 33 := by omega
    have hn2 : n < 33 := by omega
    have gl := h.lt
    clear h hb
    generalize hq : (x == 0) = q at *
    cases q with
    | true =>
      obtain rfl : x = 0 := by simpa using hq
      go_enter Try.func28, Try.ntmps28
      go_wp2_with fail
      refine K.mono ?_; rintro e w1 ⟨rfl, rfl⟩
      clear K
      go_wp2
      go_ret
      exact ⟨rfl, rfl⟩
    | false =>
      go_enter Try.func28, Try.ntmps28
      go_wp2_with fail
      refine K.mono ?_; rintro e w1 ⟨rfl, rfl⟩
      clear K
      go_wp2
      go_ret
      exact ⟨bool_ret (by show (x != 0) = _; unfold bne; rw [hq]; rfl), rfl⟩
def LostPost (g : Nat) (k : Tk) (id : Int) (w : World) (e : Ending) (w' : World) : Prop := e = .returned (.bool (isP k id)) ∧ TAft g (lostD k id) w w'
set_option maxHeartbeats 1600000 in
theorem lost_any (id : Int) (g : Nat) (k : Tk) (w : World) (h : Ts g k w) :
    Calls Try.prog 19 #[.pointer (some ⟨g, 0, none⟩), .int .i64 id] w (LostPost g k id w) := by
  have K := isP_any id g k w h
  have RO := lost_ok h.ok id
  unfold LostPost
  unfold lostD at RO ⊢
  cases hc : isP k id with
  | false =>
    have F := Lib.hid (h.same (Below.refl _ _))
    rw [hc] at K
    rw [if_neg (by decide)]
    clear h hc
    go_enter Try.func19, Try.ntmps19
    go_wp2_with fail
    refine K.mono ?_; rintro e w1 ⟨rfl, rfl⟩
    clear K
    go_wp2
    go_ret
    exact ⟨rfl, F.out⟩
  | true =>
    obtain ⟨n, rfl, h1, h2, h3⟩ := isP_node hc
    rw [hc, if_pos rfl] at RO
    rw [if_pos rfl]
    simp only [Int.toNat_natCast] at RO ⊢
    have F := Lib.hid (h.put (i := n) (by omega) zP RO)
    have fr := fun o => h.free o
    have gl := h.lt
    simp only [cp, zP, World.setCells] at F
    have hn0 : (0 : Int) ≤ n := by omega
    have hn1 : (n : Int) < 33 := by omega
    have hn2 : n < 33 := by omega
    rw [hc] at K
    have c0 := h.p n (by omega) 0 _ rfl
    have c1 := h.p n (by omega) 1 _ rfl
    have c2 := h.p n (by omega) 2 _ rfl
    have c3 := h.p n (by omega) 3 _ rfl
    have c4 := h.p n (by omega) 4 _ rfl
    have c5 := h.p n (by omega) 5 _ rfl
    have c6 := h.p n (by omega) 6 _ rfl
    simp only [Nat.add_zero] at c0
    clear h hc RO
    go_enter Try.func19, Try.ntmps19
    go_wp2_with fail
    refine K.mono ?_; rintro e w1 ⟨rfl, rfl⟩
    clear K
    go_wp2
    go_ret
    exact ⟨rfl, F.out⟩
end Go.Proofs.Ytpeoallhbbleaaa
