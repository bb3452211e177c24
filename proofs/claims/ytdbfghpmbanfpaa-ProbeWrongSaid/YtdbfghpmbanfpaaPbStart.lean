/- Probes: Start. -/
import Derived.Test.YtdbfghpmbanfpaaPbSmall
namespace Go.Proofs.Ytdbfghpmbanfpaa
open Go.RowKit
set_option linter.unusedVariables false
set_option linter.unusedSimpArgs false
set_option maxHeartbeats 1600000 in
theorem start_any (p : Pr) (tg sq now : Int) (w : World) : Calls Try.prog 9 #[.agg #[.int .i64 p.st, .int .i64 p.tg, .int .i64 p.nk, .int .u32 p.sq, .int .u64 p.un, .int .u64 p.fi, .int .u64 p.se], .int .i64 tg, .int .u32 sq, .int .u64 now] w fun e w' => e = .returned (.tuple #[.agg #[.int .i64 (startP p tg sq now).1.st, .int .i64 (startP p tg sq now).1.tg, .int .i64 (startP p tg sq now).1.nk, .int .u32 (startP p tg sq now).1.sq, .int .u64 (startP p tg sq now).1.un, .int .u64 (startP p tg sq now).1.fi, .int .u64 (startP p tg sq now).1.se], .int .i64 (startP p tg sq now).2]) ∧ Below w.heap.size w w' := by
  have K := ended_any p
  unfold startP
  by_cases h0 : tg < 1
  · have d0 : decide (tg < 1) = true := decide_eq_true h0
    rw [if_pos (.inl h0)]
    clear h0
    go_enter Try.func9, Try.ntmps9
    go_wp2
    refine bodyPost_ret (v := .tuple #[.agg #[.int .i64 p.st, .int .i64 p.tg, .int .i64 p.nk, .int .u32 p.sq, .int .u64 p.un, .int .u64 p.fi, .int .u64 p.se], .int .i64 1]) (by simp [results, Try.results9, go_sem, *]) rfl ?_
    exact ⟨rfl, by (repeat (first | with_reducible exact Below.refl _ _ | with_reducible refine Below.drew ?_ | with_reducible refine below_drewN ?_ _ | with_reducible refine Below.alloc ?_ (by first | omega | (simp; done) | (simp; omega)) _ | with_reducible refine Below.setCell ?_ (by first | omega | (simp; done) | (simp; omega)) _))⟩
  · have d0 : decide (tg < 1) = false := decide_eq_false h0
    by_cases h1 : 32 < tg
    · have d1 : decide (32 < tg) = true := decide_eq_true h1
      rw [if_pos (.inr (.inl h1))]
      clear h0 h1
      go_enter Try.func9, Try.ntmps9
      go_wp2
      refine bodyPost_ret (v := .tuple #[.agg #[.int .i64 p.st, .int .i64 p.tg, .int .i64 p.nk, .int .u32 p.sq, .int .u64 p.un, .int .u64 p.fi, .int .u64 p.se], .int .i64 1]) (by simp [results, Try.results9, go_sem, *]) rfl ?_
      exact ⟨rfl, by (repeat (first | with_reducible exact Below.refl _ _ | with_reducible refine Below.drew ?_ | with_reducible refine below_drewN ?_ _ | with_reducible refine Below.alloc ?_ (by first | omega | (simp; done) | (simp; omega)) _ | with_reducible refine Below.setCell ?_ (by first | omega | (simp; done) | (simp; omega)) _))⟩
    · have d1 : decide (32 < tg) = false := decide_eq_false h1
      by_cases h2 : 4611686018427387904 < now
      · have d2 : decide (4611686018427387904 < now) = true := decide_eq_true h2
        rw [if_pos (.inr (.inr h2))]
        clear h0 h1 h2
        go_enter Try.func9, Try.ntmps9
        go_wp2
        refine bodyPost_ret (v := .tuple #[.agg #[.int .i64 p.st, .int .i64 p.tg, .int .i64 p.nk, .int .u32 p.sq, .int .u64 p.un, .int .u64 p.fi, .int .u64 p.se], .int .i64 1]) (by simp [results, Try.results9, go_sem, *]) rfl ?_
        exact ⟨rfl, by (repeat (first | with_reducible exact Below.refl _ _ | with_reducible refine Below.drew ?_ | with_reducible refine below_drewN ?_ _ | with_reducible refine Below.alloc ?_ (by first | omega | (simp; done) | (simp; omega)) _ | with_reducible refine Below.setCell ?_ (by first | omega | (simp; done) | (simp; omega)) _))⟩
      · have d2 : decide (4611686018427387904 < now) = false := decide_eq_false h2
        rw [if_neg (by rintro (h | h | h) <;> contradiction)]
        by_cases h3 : p.st = 0
        · have d3 : (p.st == 0) = true := beq_iff_eq.2 h3
          have d3n : (p.st != 0) = false := by rw [bne, d3]; rfl
          rw [if_pos h3]
          clear h0 h1 h2 h3
          go_enter Try.func9, Try.ntmps9
          go_wp2_with fail
          refine (K _).mono ?_; rintro e w1 ⟨rfl, b1⟩
          unfold endP
          obtain ⟨hc1, hf1, hz1⟩ := bcell b1; (try simp at hz1); have kc1_0 := fun o => hc1 (w.heap.size) o (by first | omega | (simp; done) | (simp; omega)); have kf1_0 := fun o => hf1 (w.heap.size) o (by first | omega | (simp; done) | (simp; omega)); have kl1_0 : w.heap.size < w1.heap.size := (by omega); have kc1_1 := fun o => hc1 (w.heap.size + 1) o (by first | omega | (simp; done) | (simp; omega)); have kf1_1 := fun o => hf1 (w.heap.size + 1) o (by first | omega | (simp; done) | (simp; omega)); have kl1_1 : w.heap.size + 1 < w1.heap.size := (by omega); clear hc1 hf1
          go_wp2_with fail
          go_region
          all_goals go_wp2
          all_goals (refine bodyPost_ret (v := .tuple #[.agg #[.int .i64 1, .int .i64 tg, .int .i64 0, .int .u32 sq, .int .u64 (IntKind.u64.wrap (now + p.fi)), .int .u64 p.fi, .int .u64 p.se], .int .i64 0]) (by simp [results, Try.results9, go_sem, *]) rfl ?_)
          all_goals exact ⟨rfl, by (have zz0 := Below.size b1; (try simp at zz0); repeat (first | with_reducible exact Below.refl _ _ | with_reducible refine Below.drew ?_ | with_reducible refine below_drewN ?_ _ | with_reducible refine Below.alloc ?_ (by first | omega | (simp; done) | (simp; omega)) _ | with_reducible refine Below.setCell ?_ (by first | omega | (simp; done) | (simp; omega)) _ | (with_reducible refine Below.trans ?_ (Below.mono b1 (by first | omega | (simp; done) | (simp; omega))))))⟩
        · have d3 : (p.st == 0) = false := beq_eq_false_iff_ne.2 h3
          have d3n : (p.st != 0) = true := by rw [bne, d3]; rfl
          rw [if_neg h3]
          clear h0 h1 h2 h3
          go_enter Try.func9, Try.ntmps9
          go_wp2
          refine bodyPost_ret (v := .tuple #[.agg #[.int .i64 p.st, .int .i64 p.tg, .int .i64 p.nk, .int .u32 p.sq, .int .u64 p.un, .int .u64 p.fi, .int .u64 p.se], .int .i64 4]) (by simp [results, Try.results9, go_sem, *]) rfl ?_
          exact ⟨rfl, by (repeat (first | with_reducible exact Below.refl _ _ | with_reducible refine Below.drew ?_ | with_reducible refine below_drewN ?_ _ | with_reducible refine Below.alloc ?_ (by first | omega | (simp; done) | (simp; omega)) _ | with_reducible refine Below.setCell ?_ (by first | omega | (simp; done) | (simp; omega)) _))⟩
end Go.Proofs.Ytdbfghpmbanfpaa
