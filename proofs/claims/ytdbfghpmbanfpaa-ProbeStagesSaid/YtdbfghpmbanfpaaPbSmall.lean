/- Probes: plain mathematics, and the contracts of the program's calls. -/
import Derived.Test.YtdbfghpmbanfpaaBoxes
namespace Go.Proofs.Ytdbfghpmbanfpaa
open Go.RowKit
set_option linter.unusedVariables false
set_option linter.unusedSimpArgs false

structure Pr where
  st : Int
  tg : Int
  nk : Int
  sq : Int
  un : Int
  fi : Int
  se : Int
def mayB (x : Int) : Bool := decide (0 < x) && decide (x ≤ 1000000)
def endP (p : Pr) : Pr := ⟨0, 0, 0, 0, 0, p.fi, p.se⟩
def newP (a b : Int) : Pr × Int := if (mayB a && mayB b) = true then (⟨0, 0, 0, 0, 0, a, b⟩, 0) else (⟨0, 0, 0, 0, 0, 0, 0⟩, 1)
def startP (p : Pr) (tg sq now : Int) : Pr × Int :=
  if tg < 1 ∨ 32 < tg ∨ 4611686018427387904 < now then (p, 1) else if p.st = 0 then (⟨1, tg, 0, sq, IntKind.u64.wrap (now + p.fi), p.fi, p.se⟩, 0) else (p, 4)
def ackP (p : Pr) (sq : Int) : Pr × Bool := if p.st = 0 then (p, false) else if p.sq = sq then (endP p, true) else (p, false)
def nkP (n : Int) : Int := if 32 < wrap64 (n + 1) then 32 else wrap64 (n + 1)
def nackP (p : Pr) (sq : Int) : Pr × Bool := if p.st = 2 then if p.sq = sq then ({ p with nk := nkP p.nk }, true) else (p, false) else (p, false)
def tickP (p : Pr) (now : Int) : Pr × Int := if p.st = 0 then (p, 0) else if now < p.un then (p, 0) else if p.st = 1 then ({ p with st := 2, un := IntKind.u64.wrap (p.un + p.se) }, 1) else (endP p, 2)

theorem may_any (x : Int) (w : World) : Calls Try.prog 13 #[.int .u64 x] w fun e w' => e = .returned (.bool (mayB x)) ∧ w = w' := by
  unfold mayB
  by_cases h : 0 < x
  · go_enter Try.func13, Try.ntmps13
    go_wp2
    go_ret
    exact ⟨bool_ret (by first | (simp [h]; done) | (simp; intros; omega)), rfl⟩
  · go_enter Try.func13, Try.ntmps13
    go_wp2
    go_ret
    exact ⟨bool_ret (by first | (simp [h]; done) | (simp; intros; omega)), rfl⟩
theorem ended_any (p : Pr) (w : World) : Calls Try.prog 14 #[.agg #[.int .i64 p.st, .int .i64 p.tg, .int .i64 p.nk, .int .u32 p.sq, .int .u64 p.un, .int .u64 p.fi, .int .u64 p.se]] w fun e w' => e = .returned (.agg #[.int .i64 (endP p).st, .int .i64 (endP p).tg, .int .i64 (endP p).nk, .int .u32 (endP p).sq, .int .u64 (endP p).un, .int .u64 (endP p).fi, .int .u64 (endP p).se]) ∧ Below w.heap.size w w' := by
  unfold endP
  go_enter Try.func14, Try.ntmps14
  go_wp2
  refine bodyPost_ret (v := .agg #[.int .i64 0, .int .i64 0, .int .i64 0, .int .u32 0, .int .u64 0, .int .u64 p.fi, .int .u64 p.se]) (by simp [results, Try.results14, go_sem, *]) rfl ?_
  exact ⟨rfl, by (repeat (first | with_reducible exact Below.refl _ _ | with_reducible refine Below.drew ?_ | with_reducible refine below_drewN ?_ _ | with_reducible refine Below.alloc ?_ (by first | omega | (simp; done) | (simp; omega)) _ | with_reducible refine Below.setCell ?_ (by first | omega | (simp; done) | (simp; omega)) _))⟩
theorem new_any (a b : Int) (w : World) : Calls Try.prog 8 #[.int .u64 a, .int .u64 b] w fun e w' => e = .returned (.tuple #[.agg #[.int .i64 (newP a b).1.st, .int .i64 (newP a b).1.tg, .int .i64 (newP a b).1.nk, .int .u32 (newP a b).1.sq, .int .u64 (newP a b).1.un, .int .u64 (newP a b).1.fi, .int .u64 (newP a b).1.se], .int .i64 (newP a b).2]) ∧ Below w.heap.size w w' := by
  have K1 := may_any a
  have K2 := may_any b
  unfold newP
  generalize mayB a = A at *
  generalize mayB b = B at *
  cases A
  · go_enter Try.func8, Try.ntmps8
    go_wp2_with fail
    refine (K1 _).mono ?_; rintro e w1 ⟨rfl, rfl⟩
    go_wp2
    refine bodyPost_ret (v := .tuple #[.agg #[.int .i64 0, .int .i64 0, .int .i64 0, .int .u32 0, .int .u64 0, .int .u64 0, .int .u64 0], .int .i64 1]) (by simp [results, Try.results8, go_sem, *]) rfl ?_
    exact ⟨rfl, by (repeat (first | with_reducible exact Below.refl _ _ | with_reducible refine Below.drew ?_ | with_reducible refine below_drewN ?_ _ | with_reducible refine Below.alloc ?_ (by first | omega | (simp; done) | (simp; omega)) _ | with_reducible refine Below.setCell ?_ (by first | omega | (simp; done) | (simp; omega)) _))⟩
  · cases B
    · go_enter Try.func8, Try.ntmps8
      go_wp2_with fail
      refine (K1 _).mono ?_; rintro e w1 ⟨rfl, rfl⟩
      go_wp2_with fail
      refine (K2 _).mono ?_; rintro e w1 ⟨rfl, rfl⟩
      go_wp2
      refine bodyPost_ret (v := .tuple #[.agg #[.int .i64 0, .int .i64 0, .int .i64 0, .int .u32 0, .int .u64 0, .int .u64 0, .int .u64 0], .int .i64 1]) (by simp [results, Try.results8, go_sem, *]) rfl ?_
      exact ⟨rfl, by (repeat (first | with_reducible exact Below.refl _ _ | with_reducible refine Below.drew ?_ | with_reducible refine below_drewN ?_ _ | with_reducible refine Below.alloc ?_ (by first | omega | (simp; done) | (simp; omega)) _ | with_reducible refine Below.setCell ?_ (by first | omega | (simp; done) | (simp; omega)) _))⟩
    · go_enter Try.func8, Try.ntmps8
      go_wp2_with fail
      refine (K1 _).mono ?_; rintro e w1 ⟨rfl, rfl⟩
      go_wp2_with fail
      refine (K2 _).mono ?_; rintro e w1 ⟨rfl, rfl⟩
      go_wp2
      refine bodyPost_ret (v := .tuple #[.agg #[.int .i64 0, .int .i64 0, .int .i64 0, .int .u32 0, .int .u64 0, .int .u64 a, .int .u64 b], .int .i64 0]) (by simp [results, Try.results8, go_sem, *]) rfl ?_
      exact ⟨rfl, by (repeat (first | with_reducible exact Below.refl _ _ | with_reducible refine Below.drew ?_ | with_reducible refine below_drewN ?_ _ | with_reducible refine Below.alloc ?_ (by first | omega | (simp; done) | (simp; omega)) _ | with_reducible refine Below.setCell ?_ (by first | omega | (simp; done) | (simp; omega)) _))⟩
set_option maxHeartbeats 1600000 in
set_option maxHeartbeats 1600000 in
theorem ack_any (p : Pr) (sq : Int) (w : World) : Calls Try.prog 10 #[.agg #[.int .i64 p.st, .int .i64 p.tg, .int .i64 p.nk, .int .u32 p.sq, .int .u64 p.un, .int .u64 p.fi, .int .u64 p.se], .int .u32 sq] w fun e w' => e = .returned (.tuple #[.agg #[.int .i64 (ackP p sq).1.st, .int .i64 (ackP p sq).1.tg, .int .i64 (ackP p sq).1.nk, .int .u32 (ackP p sq).1.sq, .int .u64 (ackP p sq).1.un, .int .u64 (ackP p sq).1.fi, .int .u64 (ackP p sq).1.se], .bool (ackP p sq).2]) ∧ Below w.heap.size w w' := by
  have K := ended_any p
  unfold ackP
  by_cases h0 : p.st = 0
  · have h1 : (p.st == 0) = true := beq_iff_eq.2 h0
    rw [if_pos h0]
    clear h0
    go_enter Try.func10, Try.ntmps10
    go_wp2
    refine wp_scope_fwd 0 rfl ?_
    go_wp2_with fail
    go_step3; go_wp2; refine ⟨rfl, ?_⟩; go_wp2; rw [Exit.noGoto_ret]
    refine bodyPost_ret (v := .tuple #[.agg #[.int .i64 p.st, .int .i64 p.tg, .int .i64 p.nk, .int .u32 p.sq, .int .u64 p.un, .int .u64 p.fi, .int .u64 p.se], .bool false]) (by simp [results, Try.results10, go_sem, *]) rfl ?_
    exact ⟨rfl, by (repeat (first | with_reducible exact Below.refl _ _ | with_reducible refine Below.drew ?_ | with_reducible refine below_drewN ?_ _ | with_reducible refine Below.alloc ?_ (by first | omega | (simp; done) | (simp; omega)) _ | with_reducible refine Below.setCell ?_ (by first | omega | (simp; done) | (simp; omega)) _))⟩
  · have h1 : (p.st == 0) = false := beq_eq_false_iff_ne.2 h0
    rw [if_neg h0]
    by_cases h2 : p.sq = sq
    · have h3 : (p.sq == sq) = true := beq_iff_eq.2 h2
      rw [if_pos h2]
      clear h2
      go_enter Try.func10, Try.ntmps10
      go_wp2
      refine wp_scope_fwd 0 rfl ?_
      go_wp2_with fail
      refine (K _).mono ?_; rintro e w1 ⟨rfl, b1⟩
      unfold endP
      obtain ⟨hc1, hf1, hz1⟩ := bcell b1; (try simp at hz1); have kc1_0 := fun o => hc1 (w.heap.size) o (by first | omega | (simp; done) | (simp; omega)); have kf1_0 := fun o => hf1 (w.heap.size) o (by first | omega | (simp; done) | (simp; omega)); have kl1_0 : w.heap.size < w1.heap.size := (by omega); have kc1_1 := fun o => hc1 (w.heap.size + 1) o (by first | omega | (simp; done) | (simp; omega)); have kf1_1 := fun o => hf1 (w.heap.size + 1) o (by first | omega | (simp; done) | (simp; omega)); have kl1_1 : w.heap.size + 1 < w1.heap.size := (by omega); clear hc1 hf1
      go_wp2
      simp only [Exit.jump]
      refine bodyPost_ret (v := .tuple #[.agg #[.int .i64 0, .int .i64 0, .int .i64 0, .int .u32 0, .int .u64 0, .int .u64 p.fi, .int .u64 p.se], .bool true]) (by simp [results, Try.results10, go_sem, *]) rfl ?_
      exact ⟨rfl, by (have zz0 := Below.size b1; (try simp at zz0); repeat (first | with_reducible exact Below.refl _ _ | with_reducible refine Below.drew ?_ | with_reducible refine below_drewN ?_ _ | with_reducible refine Below.alloc ?_ (by first | omega | (simp; done) | (simp; omega)) _ | with_reducible refine Below.setCell ?_ (by first | omega | (simp; done) | (simp; omega)) _ | (with_reducible refine Below.trans ?_ (Below.mono b1 (by first | omega | (simp; done) | (simp; omega))))))⟩
    · have h3 : (p.sq == sq) = false := beq_eq_false_iff_ne.2 h2
      rw [if_neg h2]
      clear h2 h0
      go_enter Try.func10, Try.ntmps10
      go_wp2
      refine wp_scope_fwd 0 rfl ?_
      go_wp2_with fail
      go_step3; go_wp2; refine ⟨rfl, ?_⟩; go_wp2; rw [Exit.noGoto_ret]
      refine bodyPost_ret (v := .tuple #[.agg #[.int .i64 p.st, .int .i64 p.tg, .int .i64 p.nk, .int .u32 p.sq, .int .u64 p.un, .int .u64 p.fi, .int .u64 p.se], .bool false]) (by simp [results, Try.results10, go_sem, *]) rfl ?_
      exact ⟨rfl, by (repeat (first | with_reducible exact Below.refl _ _ | with_reducible refine Below.drew ?_ | with_reducible refine below_drewN ?_ _ | with_reducible refine Below.alloc ?_ (by first | omega | (simp; done) | (simp; omega)) _ | with_reducible refine Below.setCell ?_ (by first | omega | (simp; done) | (simp; omega)) _))⟩
set_option maxHeartbeats 1600000 in
theorem nack_any (p : Pr) (sq : Int) (w : World) : Calls Try.prog 12 #[.agg #[.int .i64 p.st, .int .i64 p.tg, .int .i64 p.nk, .int .u32 p.sq, .int .u64 p.un, .int .u64 p.fi, .int .u64 p.se], .int .u32 sq] w fun e w' => e = .returned (.tuple #[.agg #[.int .i64 (nackP p sq).1.st, .int .i64 (nackP p sq).1.tg, .int .i64 (nackP p sq).1.nk, .int .u32 (nackP p sq).1.sq, .int .u64 (nackP p sq).1.un, .int .u64 (nackP p sq).1.fi, .int .u64 (nackP p sq).1.se], .bool (nackP p sq).2]) ∧ Below w.heap.size w w' := by
  unfold nackP
  by_cases h0 : p.st = 2
  · have h1 : (p.st == 2) = true := beq_iff_eq.2 h0
    have h1n : (p.st != 2) = false := by rw [bne, h1]; rfl
    rw [if_pos h0]
    by_cases h2 : p.sq = sq
    · have h3 : (p.sq == sq) = true := beq_iff_eq.2 h2
      rw [if_pos h2]
      clear h2 h0
      unfold nkP
      by_cases hm : 32 < wrap64 (p.nk + 1)
      · rw [if_pos hm]
        go_enter Try.func12, Try.ntmps12
        go_wp2
        refine wp_scope_fwd 0 rfl ?_
        go_wp2
        simp only [Exit.jump]
        refine bodyPost_ret (v := .tuple #[.agg #[.int .i64 p.st, .int .i64 p.tg, .int .i64 32, .int .u32 p.sq, .int .u64 p.un, .int .u64 p.fi, .int .u64 p.se], .bool true]) (by simp [results, Try.results12, go_sem, *]) rfl ?_
        exact ⟨rfl, by (repeat (first | with_reducible exact Below.refl _ _ | with_reducible refine Below.drew ?_ | with_reducible refine below_drewN ?_ _ | with_reducible refine Below.alloc ?_ (by first | omega | (simp; done) | (simp; omega)) _ | with_reducible refine Below.setCell ?_ (by first | omega | (simp; done) | (simp; omega)) _))⟩
      · rw [if_neg hm]
        go_enter Try.func12, Try.ntmps12
        go_wp2
        refine wp_scope_fwd 0 rfl ?_
        go_wp2
        simp only [Exit.jump]
        refine bodyPost_ret (v := .tuple #[.agg #[.int .i64 p.st, .int .i64 p.tg, .int .i64 (wrap64 (p.nk + 1)), .int .u32 p.sq, .int .u64 p.un, .int .u64 p.fi, .int .u64 p.se], .bool true]) (by simp [results, Try.results12, go_sem, *]) rfl ?_
        exact ⟨rfl, by (repeat (first | with_reducible exact Below.refl _ _ | with_reducible refine Below.drew ?_ | with_reducible refine below_drewN ?_ _ | with_reducible refine Below.alloc ?_ (by first | omega | (simp; done) | (simp; omega)) _ | with_reducible refine Below.setCell ?_ (by first | omega | (simp; done) | (simp; omega)) _))⟩
    · have h3 : (p.sq == sq) = false := beq_eq_false_iff_ne.2 h2
      rw [if_neg h2]
      clear h2 h0
      go_enter Try.func12, Try.ntmps12
      go_wp2
      refine wp_scope_fwd 0 rfl ?_
      go_wp2_with fail
      go_step3; go_wp2; refine ⟨rfl, ?_⟩; go_wp2; rw [Exit.noGoto_ret]
      refine bodyPost_ret (v := .tuple #[.agg #[.int .i64 p.st, .int .i64 p.tg, .int .i64 p.nk, .int .u32 p.sq, .int .u64 p.un, .int .u64 p.fi, .int .u64 p.se], .bool false]) (by simp [results, Try.results12, go_sem, *]) rfl ?_
      exact ⟨rfl, by (repeat (first | with_reducible exact Below.refl _ _ | with_reducible refine Below.drew ?_ | with_reducible refine below_drewN ?_ _ | with_reducible refine Below.alloc ?_ (by first | omega | (simp; done) | (simp; omega)) _ | with_reducible refine Below.setCell ?_ (by first | omega | (simp; done) | (simp; omega)) _))⟩
  · have h1 : (p.st == 2) = false := beq_eq_false_iff_ne.2 h0
    rw [if_neg h0]
    clear h0
    go_enter Try.func12, Try.ntmps12
    go_wp2
    refine wp_scope_fwd 0 rfl ?_
    go_wp2_with fail
    go_step3; go_wp2; refine ⟨rfl, ?_⟩; go_wp2; rw [Exit.noGoto_ret]
    refine bodyPost_ret (v := .tuple #[.agg #[.int .i64 p.st, .int .i64 p.tg, .int .i64 p.nk, .int .u32 p.sq, .int .u64 p.un, .int .u64 p.fi, .int .u64 p.se], .bool false]) (by simp [results, Try.results12, go_sem, *]) rfl ?_
    exact ⟨rfl, by (repeat (first | with_reducible exact Below.refl _ _ | with_reducible refine Below.drew ?_ | with_reducible refine below_drewN ?_ _ | with_reducible refine Below.alloc ?_ (by first | omega | (simp; done) | (simp; omega)) _ | with_reducible refine Below.setCell ?_ (by first | omega | (simp; done) | (simp; omega)) _))⟩
set_option maxHeartbeats 1600000 in
theorem tick_any (p : Pr) (now : Int) (w : World) : Calls Try.prog 11 #[.agg #[.int .i64 p.st, .int .i64 p.tg, .int .i64 p.nk, .int .u32 p.sq, .int .u64 p.un, .int .u64 p.fi, .int .u64 p.se], .int .u64 now] w fun e w' => e = .returned (.tuple #[.agg #[.int .i64 (tickP p now).1.st, .int .i64 (tickP p now).1.tg, .int .i64 (tickP p now).1.nk, .int .u32 (tickP p now).1.sq, .int .u64 (tickP p now).1.un, .int .u64 (tickP p now).1.fi, .int .u64 (tickP p now).1.se], .int .i64 (tickP p now).2]) ∧ Below w.heap.size w w' := by
  have K := ended_any p
  unfold tickP
  by_cases h0 : p.st = 0
  · have h1 : (p.st == 0) = true := beq_iff_eq.2 h0
    rw [if_pos h0]
    clear h0
    go_enter Try.func11, Try.ntmps11
    go_wp2
    refine wp_scope_fwd 0 rfl ?_
    go_wp2_with fail
    go_step3; go_wp2; refine ⟨rfl, ?_⟩; go_wp2; rw [Exit.noGoto_ret]
    refine bodyPost_ret (v := .tuple #[.agg #[.int .i64 p.st, .int .i64 p.tg, .int .i64 p.nk, .int .u32 p.sq, .int .u64 p.un, .int .u64 p.fi, .int .u64 p.se], .int .i64 0]) (by simp [results, Try.results11, go_sem, *]) rfl ?_
    exact ⟨rfl, by (repeat (first | with_reducible exact Below.refl _ _ | with_reducible refine Below.drew ?_ | with_reducible refine below_drewN ?_ _ | with_reducible refine Below.alloc ?_ (by first | omega | (simp; done) | (simp; omega)) _ | with_reducible refine Below.setCell ?_ (by first | omega | (simp; done) | (simp; omega)) _))⟩
  · have h1 : (p.st == 0) = false := beq_eq_false_iff_ne.2 h0
    rw [if_neg h0]
    clear h0
    by_cases h2 : now < p.un
    · have h3 : decide (now < p.un) = true := decide_eq_true h2
      rw [if_pos h2]
      clear h2
      go_enter Try.func11, Try.ntmps11
      go_wp2
      refine wp_scope_fwd 0 rfl ?_
      go_wp2_with fail
      go_step3; go_wp2; refine ⟨rfl, ?_⟩; go_wp2; rw [Exit.noGoto_ret]
      refine bodyPost_ret (v := .tuple #[.agg #[.int .i64 p.st, .int .i64 p.tg, .int .i64 p.nk, .int .u32 p.sq, .int .u64 p.un, .int .u64 p.fi, .int .u64 p.se], .int .i64 0]) (by simp [results, Try.results11, go_sem, *]) rfl ?_
      exact ⟨rfl, by (repeat (first | with_reducible exact Below.refl _ _ | with_reducible refine Below.drew ?_ | with_reducible refine below_drewN ?_ _ | with_reducible refine Below.alloc ?_ (by first | omega | (simp; done) | (simp; omega)) _ | with_reducible refine Below.setCell ?_ (by first | omega | (simp; done) | (simp; omega)) _))⟩
    · have h3 : decide (now < p.un) = false := decide_eq_false h2
      rw [if_neg h2]
      clear h2
      by_cases h4 : p.st = 1
      · have h5 : (p.st == 1) = true := beq_iff_eq.2 h4
        rw [if_pos h4]
        clear h4
        go_enter Try.func11, Try.ntmps11
        go_wp2
        refine wp_scope_fwd 0 rfl ?_
        go_wp2
        simp only [Exit.jump]
        refine bodyPost_ret (v := .tuple #[.agg #[.int .i64 2, .int .i64 p.tg, .int .i64 p.nk, .int .u32 p.sq, .int .u64 (IntKind.u64.wrap (p.un + p.se)), .int .u64 p.fi, .int .u64 p.se], .int .i64 1]) (by simp [results, Try.results11, go_sem, *]) rfl ?_
        exact ⟨rfl, by (repeat (first | with_reducible exact Below.refl _ _ | with_reducible refine Below.drew ?_ | with_reducible refine below_drewN ?_ _ | with_reducible refine Below.alloc ?_ (by first | omega | (simp; done) | (simp; omega)) _ | with_reducible refine Below.setCell ?_ (by first | omega | (simp; done) | (simp; omega)) _))⟩
      · have h5 : (p.st == 1) = false := beq_eq_false_iff_ne.2 h4
        rw [if_neg h4]
        clear h4
        go_enter Try.func11, Try.ntmps11
        go_wp2
        refine wp_scope_fwd 0 rfl ?_
        go_wp2_with fail
        refine (K _).mono ?_; rintro e w1 ⟨rfl, b1⟩
        unfold endP
        obtain ⟨hc1, hf1, hz1⟩ := bcell b1; (try simp at hz1); have kc1_0 := fun o => hc1 (w.heap.size) o (by first | omega | (simp; done) | (simp; omega)); have kf1_0 := fun o => hf1 (w.heap.size) o (by first | omega | (simp; done) | (simp; omega)); have kl1_0 : w.heap.size < w1.heap.size := (by omega); have kc1_1 := fun o => hc1 (w.heap.size + 1) o (by first | omega | (simp; done) | (simp; omega)); have kf1_1 := fun o => hf1 (w.heap.size + 1) o (by first | omega | (simp; done) | (simp; omega)); have kl1_1 : w.heap.size + 1 < w1.heap.size := (by omega); clear hc1 hf1
        go_wp2
        simp only [Exit.jump]
        refine bodyPost_ret (v := .tuple #[.agg #[.int .i64 0, .int .i64 0, .int .i64 0, .int .u32 0, .int .u64 0, .int .u64 p.fi, .int .u64 p.se], .int .i64 2]) (by simp [results, Try.results11, go_sem, *]) rfl ?_
        exact ⟨rfl, by (have zz0 := Below.size b1; (try simp at zz0); repeat (first | with_reducible exact Below.refl _ _ | with_reducible refine Below.drew ?_ | with_reducible refine below_drewN ?_ _ | with_reducible refine Below.alloc ?_ (by first | omega | (simp; done) | (simp; omega)) _ | with_reducible refine Below.setCell ?_ (by first | omega | (simp; done) | (simp; omega)) _ | (with_reducible refine Below.trans ?_ (Below.mono b1 (by first | omega | (simp; done) | (simp; omega))))))⟩
end Go.Proofs.Ytdbfghpmbanfpaa
