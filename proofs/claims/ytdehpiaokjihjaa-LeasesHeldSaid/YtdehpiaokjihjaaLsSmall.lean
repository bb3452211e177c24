/- The program's: isNode, mayBe, NewTable, NewLeases, isClient, isAsked, isHeld, isLeft. -/
import Derived.Test.YtdehpiaokjihjaaLsRow
import Derived.Test.YtdehpiaokjihjaaAddrSmall
import Derived.BigRegion
import Derived.Deep.Upon
namespace Go.Proofs.Ytdehpiaokjihjaa
open Go.Sort Go.RowKit Go.BigFrame
set_option linter.unusedVariables false
set_option linter.unusedSimpArgs false

theorem node_any (i : Int) (w : World) : Calls Try.prog 21 #[.int .i64 i] w fun e w' => e = .returned (.bool (nodeI i)) ∧ w = w' := by
  unfold nodeI
  by_cases h : 1 ≤ i
  · go_enter Try.func21, Try.ntmps21
    go_wp2
    go_ret
    exact ⟨bool_ret (by first | (simp [h]; done) | (simp; intros; omega)), rfl⟩
  · go_enter Try.func21, Try.ntmps21
    go_wp2
    go_ret
    exact ⟨bool_ret (by first | (simp [h]; done) | (simp; intros; omega)), rfl⟩
set_option maxHeartbeats 1600000 in
theorem may_any (n s : Int) (w : World) : Calls Try.prog 19 #[.int .i64 n, .int .u64 s] w fun e w' => e = .returned (.bool (mayI n s)) ∧ w = w' := by
  unfold mayI
  generalize h1 : decide (1 ≤ n) = b1
  generalize h2 : decide (n ≤ 8) = b2
  generalize h3 : decide (1 ≤ s) = b3
  generalize h4 : decide (s ≤ 1000000) = b4
  cases b1 with
  | false =>
    go_enter Try.func19, Try.ntmps19
    go_wp2
    go_ret
    exact ⟨rfl, rfl⟩
  | true =>
    cases b2 with
    | false =>
      go_enter Try.func19, Try.ntmps19
      go_wp2
      go_ret
      exact ⟨rfl, rfl⟩
    | true =>
      cases b3 with
      | false =>
        go_enter Try.func19, Try.ntmps19
        go_wp2
        go_ret
        exact ⟨rfl, rfl⟩
      | true =>
        cases b4 with
        | false =>
          go_enter Try.func19, Try.ntmps19
          go_wp2
          go_ret
          exact ⟨rfl, rfl⟩
        | true =>
          go_enter Try.func19, Try.ntmps19
          go_wp2
          go_ret
          exact ⟨rfl, rfl⟩
theorem wpList_build_eq {P : Program} {ops : Array Oper} {rest : List Oper} {o : Oper} {a : Act} {w : World} {Q : Exit → Act → World → Prop} (hg : o.guard = none) (t : TypeId) (parts : Array (Nat × Operand)) (ho : o.op = .build t parts) (cells : Array Value)
    (vals : List (Nat × Value)) (hv : (parts.map fun (i, x) => (i, a.eval x)).toList = vals) (hf : P.built t vals = some cells)
    (h : wpList P ops Q rest (a.put o.dst (.agg cells)) w) : wpList P ops Q (o :: rest) a w :=
  wpList_build hg t parts ho (by rw [hv, hf]; rfl) (by rw [hv, hf]; exact h)
theorem tab_built (r h : Int) : (Try.prog.built 58 [(0, .int .i64 r), (1, .int .u64 h)]) = some (cT (newT r h)).toArray := by kernel_rfl
set_option maxHeartbeats 1600000 in
theorem tab_bad (r h : Int) (ha : mayI r h = false) (w : World) : Calls Try.prog 7 #[.int .i64 r, .int .u64 h] w fun e w' => e = .returned (.tuple #[.pointer none, .int .i64 1]) ∧ w = w' := by
  have K := may_any r h w
  rw [ha] at K
  clear ha
  go_enter Try.func7, Try.ntmps7
  go_wp2_with fail
  refine K.mono ?_; rintro e w1 ⟨rfl, rfl⟩
  clear K
  go_wp2
  refine bodyPost_ret (v := (.tuple #[.pointer none, .int .i64 1])) (by simp [results, Try.results7, go_sem, *]) rfl ?_
  exact ⟨rfl, rfl⟩
def tabPost (r h : Int) (w : World) (e : Ending) (w' : World) : Prop := ∃ g, e = .returned (.tuple #[.pointer (some ⟨g, 0, none⟩), .int .i64 0]) ∧ w.heap.size ≤ g ∧ Ts g (newT r h) w' ∧ Below w.heap.size w w'
set_option maxHeartbeats 1600000 in
theorem tab_any (r h : Int) (ha : mayI r h = true) (w : World) : Calls Try.prog 7 #[.int .i64 r, .int .u64 h] w (tabPost r h w) := by
  have K := may_any r h w
  have F : Hid (Ts w.heap.size (newT r h) (w.alloc (.cells (cT (newT r h)).toArray 58))) := ⟨Bk.new _ _ _, new_ok ha⟩
  have hB := tab_built r h
  rw [ha] at K
  clear ha
  unfold tabPost
  generalize newT r h = k at *
  generalize (cT k).toArray = X at *
  go_enter Try.func7, Try.ntmps7
  go_wp2_with fail
  refine K.mono ?_; rintro e w1 ⟨rfl, rfl⟩
  clear K
  go_upto_region 3 with fail
  go_wp2_with (refine wpList_build_eq rfl 58 _ rfl X _ (by kernel_rfl) hB ?_)
  refine bodyPost_ret (v := (.tuple #[.pointer (some ⟨w.heap.size, 0, none⟩), .int .i64 0])) (by simp [results, Try.results7, go_sem, *]) rfl ?_
  exact ⟨w.heap.size, rfl, Nat.le_refl _, F.out, (Below.refl _ _).alloc (Nat.le_refl _) _⟩
theorem lea_built (r h : Int) : (Try.prog.built 63 [(0, .int .i64 r), (1, .int .u64 h)]) = some (cE (newL r h)).toArray := by kernel_rfl
set_option maxHeartbeats 1600000 in
theorem lea_bad (r h : Int) (ha : mayI r h = false) (w : World) : Calls Try.prog 13 #[.int .i64 r, .int .u64 h] w fun e w' => e = .returned (.tuple #[.pointer none, .int .i64 1]) ∧ w = w' := by
  have K := may_any r h w
  rw [ha] at K
  clear ha
  go_enter Try.func13, Try.ntmps13
  go_wp2_with fail
  refine K.mono ?_; rintro e w1 ⟨rfl, rfl⟩
  clear K
  go_wp2
  refine bodyPost_ret (v := (.tuple #[.pointer none, .int .i64 1])) (by simp [results, Try.results13, go_sem, *]) rfl ?_
  exact ⟨rfl, rfl⟩
def leaPost (r h : Int) (w : World) (e : Ending) (w' : World) : Prop := ∃ g, e = .returned (.tuple #[.pointer (some ⟨g, 0, none⟩), .int .i64 0]) ∧ w.heap.size ≤ g ∧ Es g (newL r h) w' ∧ Below w.heap.size w w'
set_option maxHeartbeats 1600000 in
theorem lea_any (r h : Int) (ha : mayI r h = true) (w : World) : Calls Try.prog 13 #[.int .i64 r, .int .u64 h] w (leaPost r h w) := by
  have K := may_any r h w
  have F : Hid (Es w.heap.size (newL r h) (w.alloc (.cells (cE (newL r h)).toArray 63))) := ⟨Bk.new _ _ _, newL_ok ha⟩
  have hB := lea_built r h
  rw [ha] at K
  clear ha
  unfold leaPost
  generalize newL r h = k at *
  generalize (cE k).toArray = X at *
  go_enter Try.func13, Try.ntmps13
  go_wp2_with fail
  refine K.mono ?_; rintro e w1 ⟨rfl, rfl⟩
  clear K
  go_upto_region 3 with fail
  go_wp2_with (refine wpList_build_eq rfl 63 _ rfl X _ (by kernel_rfl) hB ?_)
  refine bodyPost_ret (v := (.tuple #[.pointer (some ⟨w.heap.size, 0, none⟩), .int .i64 0])) (by simp [results, Try.results13, go_sem, *]) rfl ?_
  exact ⟨w.heap.size, rfl, Nat.le_refl _, F.out, (Below.refl _ _).alloc (Nat.le_refl _) _⟩
set_option maxHeartbeats 1600000 in
theorem isC_any (id : Int) (g : Nat) (k : Tb) (w : World) (h : Ts g k w) : Calls Try.prog 20 #[.pointer (some ⟨g, 0, none⟩), .int .i64 id] w fun e w' => e = .returned (.bool (isC k id)) ∧ w = w' := by
  have K := node_any id w
  unfold isC
  cases hv : nodeI id with
  | false =>
    rw [hv] at K
    clear h hv
    go_enter Try.func20, Try.ntmps20
    go_wp2_with fail
    refine K.mono ?_; rintro e w1 ⟨rfl, rfl⟩
    clear K
    go_wp2
    go_ret
    exact ⟨rfl, rfl⟩
  | true =>
    rw [hv] at K
    have hb := nodeI_iff.1 hv
    clear hv
    have hi : id.toNat < 33 := by omega
    have c0 := h.cl id.toNat hi 0 _ rfl
    obtain ⟨n, rfl⟩ : ∃ n : Nat, id = n := ⟨id.toNat, by omega⟩
    simp only [Int.toNat_natCast] at c0 hi ⊢
    obtain ⟨x, hx⟩ : ∃ x, (k.cl n).who = x := ⟨_, rfl⟩
    simp only [hx, Nat.add_zero] at c0 ⊢
    clear hx
    have hn0 : (0 : Int) ≤ n := by omega
    have hn1 : (n : Int) < 33 := by omega
    have gl := h.lt
    clear h
    by_cases e : x = (n : Int)
    · subst e
      rw [decide_eq_true rfl]
      go_enter Try.func20, Try.ntmps20
      go_wp2_with fail
      refine K.mono ?_; rintro e w1 ⟨rfl, rfl⟩
      clear K
      go_wp2
      go_ret
      exact ⟨rfl, rfl⟩
    · have e2 : (x == (n : Int)) = false := beq_eq_false_iff_ne.2 e
      rw [decide_eq_false e]
      go_enter Try.func20, Try.ntmps20
      go_wp2_with fail
      refine K.mono ?_; rintro e w1 ⟨rfl, rfl⟩
      clear K
      go_wp2
      go_ret
      exact ⟨rfl, rfl⟩
set_option maxHeartbeats 1600000 in
theorem askd_any (id : Int) (g : Nat) (k : Ls) (w : World) (h : Es g k w) : Calls Try.prog 25 #[.pointer (some ⟨g, 0, none⟩), .int .i64 id] w fun e w' => e = .returned (.bool (askB k id)) ∧ w = w' := by
  have K := node_any id w
  unfold askB
  cases hv : nodeI id with
  | false =>
    rw [hv] at K
    clear h hv
    go_enter Try.func25, Try.ntmps25
    go_wp2_with fail
    refine K.mono ?_; rintro e w1 ⟨rfl, rfl⟩
    clear K
    go_wp2
    go_ret
    exact ⟨rfl, rfl⟩
  | true =>
    rw [hv] at K
    have hb := nodeI_iff.1 hv
    clear hv
    have hi : id.toNat < 33 := by omega
    have c0 := h.rl id.toNat hi 0 _ rfl
    obtain ⟨n, rfl⟩ : ∃ n : Nat, id = n := ⟨id.toNat, by omega⟩
    simp only [Int.toNat_natCast] at c0 hi ⊢
    obtain ⟨x, hx⟩ : ∃ x, (k.rl n).ask = x := ⟨_, rfl⟩
    simp only [hx, Nat.add_zero] at c0 ⊢
    clear hx
    have hn0 : (0 : Int) ≤ n := by omega
    have hn1 : (n : Int) < 33 := by omega
    have gl := h.lt
    clear h
    cases x with
    | true =>
      go_enter Try.func25, Try.ntmps25
      go_wp2_with fail
      refine K.mono ?_; rintro e w1 ⟨rfl, rfl⟩
      clear K
      go_wp2
      go_ret
      exact ⟨rfl, rfl⟩
    | false =>
      go_enter Try.func25, Try.ntmps25
      go_wp2_with fail
      refine K.mono ?_; rintro e w1 ⟨rfl, rfl⟩
      clear K
      go_wp2
      go_ret
      exact ⟨rfl, rfl⟩
theorem held_any (r : Re) (now : Int) (w : World) : Calls Try.prog 26 #[.agg #[.bool r.ask, .int .u64 r.at_, .int .u64 r.un], .int .u64 now] w fun e w' => e = .returned (.bool (heldB r now)) ∧ Below w.heap.size w w' := by
  unfold heldB
  generalize r.un = un
  generalize r.ask = ask
  generalize r.at_ = at_
  generalize hd : decide (now < un) = b
  cases b with
  | true =>
    go_enter Try.func26, Try.ntmps26
    go_wp2
    go_ret
    exact ⟨rfl, by (repeat (first | with_reducible exact Below.refl _ _ | with_reducible refine Below.drew ?_ | with_reducible refine below_drewN ?_ _ | with_reducible refine Below.alloc ?_ (by first | omega | (simp; done) | (simp; omega)) _ | with_reducible refine Below.setCell ?_ (by first | omega | (simp; done) | (simp; omega)) _))⟩
  | false =>
    go_enter Try.func26, Try.ntmps26
    go_wp2
    go_ret
    exact ⟨rfl, by (repeat (first | with_reducible exact Below.refl _ _ | with_reducible refine Below.drew ?_ | with_reducible refine below_drewN ?_ _ | with_reducible refine Below.alloc ?_ (by first | omega | (simp; done) | (simp; omega)) _ | with_reducible refine Below.setCell ?_ (by first | omega | (simp; done) | (simp; omega)) _))⟩
theorem left_any (r : Re) (hr : OkE r) (wait now : Int) (h0 : 0 ≤ wait) (h1 : wait ≤ 1000000) (w : World) : Calls Try.prog 27 #[.agg #[.bool r.ask, .int .u64 r.at_, .int .u64 r.un], .int .u64 wait, .int .u64 now] w fun e w' => e = .returned (.bool (leftB r wait now)) ∧ Below w.heap.size w w' := by
  unfold leftB
  have a0 := hr.a0
  have a1 := hr.a1
  clear hr
  generalize r.un = un at *
  generalize r.ask = ask at *
  generalize r.at_ = at_ at *
  have p1 := IntWalk.u64_in (at_ + wait) ⟨by omega, by omega⟩
  generalize hd : decide (now < at_ + wait) = b at *
  cases ask with
  | true =>
    cases b with
    | true =>
      go_enter Try.func27, Try.ntmps27
      go_wp2
      go_ret
      exact ⟨rfl, by (repeat (first | with_reducible exact Below.refl _ _ | with_reducible refine Below.drew ?_ | with_reducible refine below_drewN ?_ _ | with_reducible refine Below.alloc ?_ (by first | omega | (simp; done) | (simp; omega)) _ | with_reducible refine Below.setCell ?_ (by first | omega | (simp; done) | (simp; omega)) _))⟩
    | false =>
      go_enter Try.func27, Try.ntmps27
      go_wp2
      go_ret
      exact ⟨rfl, by (repeat (first | with_reducible exact Below.refl _ _ | with_reducible refine Below.drew ?_ | with_reducible refine below_drewN ?_ _ | with_reducible refine Below.alloc ?_ (by first | omega | (simp; done) | (simp; omega)) _ | with_reducible refine Below.setCell ?_ (by first | omega | (simp; done) | (simp; omega)) _))⟩
  | false =>
    go_enter Try.func27, Try.ntmps27
    go_wp2
    go_ret
    exact ⟨rfl, by (repeat (first | with_reducible exact Below.refl _ _ | with_reducible refine Below.drew ?_ | with_reducible refine below_drewN ?_ _ | with_reducible refine Below.alloc ?_ (by first | omega | (simp; done) | (simp; omega)) _ | with_reducible refine Below.setCell ?_ (by first | omega | (simp; done) | (simp; omega)) _))⟩
end Go.Proofs.Ytdehpiaokjihjaa
