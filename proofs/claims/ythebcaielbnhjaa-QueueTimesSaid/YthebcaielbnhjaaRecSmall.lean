/- Contracts of a record's small calls, both programs: isState, Right, Live. -/
import Derived.Test.YthebcaielbnhjaaAddrSmall
import Derived.Test.YthebcaielbnhjaaBoxes
namespace Go.Proofs.Ythebcaielbnhjaa
open Go.RowKit
set_option linter.unusedVariables false
set_option linter.unusedSimpArgs false


theorem isState_any (st : Int) (w : World) : Calls Try.prog 38 #[.int .i64 st] w fun e w' => e = .returned (.bool (stI st)) ∧ w = w' := by
  unfold stI
  by_cases h : 0 ≤ st
  · go_enter Try.func38, Try.ntmps38
    go_wp2
    go_ret
    exact ⟨bool_ret (by first | (simp [h]; done) | (simp; intros; omega)), rfl⟩
  · go_enter Try.func38, Try.ntmps38
    go_wp2
    go_ret
    exact ⟨bool_ret (by first | (simp [h]; done) | (simp; intros; omega)), rfl⟩
theorem right_any (id st : Int) (n ip port : Nat) (h1 : ip < 4294967296) (h2 : port < 65536) (w : World) :
    Calls Try.prog 24 #[.agg #[.int .i64 id, .int .i64 st, .int .u32 n, .int .u32 ip, .int .u16 port]] w fun e w' => e = .returned (.bool (rightI id st ip port)) ∧ Below w.heap.size w w' := by
  unfold rightI
  by_cases c1 : 1 ≤ id
  · by_cases c2 : id ≤ 32
    · have i1 := isState_any st
      by_cases c3 : stI st = true
      · rw [c3] at i1 ⊢
        have i2 := none_any ip port h1 h2
        generalize noneI ip port = N at *
        go_enter Try.func24, Try.ntmps24
        go_wp2_with fail
        refine (i1 _).mono ?_; rintro e w1 ⟨rfl, rfl⟩
        go_wp2_with fail
        refine (i2 _).mono ?_; rintro e w1 ⟨rfl, b1⟩
        go_wp2
        go_ret
        exact ⟨bool_ret (by first | (simp [c1, c2]; done) | (simp; intros; omega)), by (have zz0 := Below.size b1; (try simp at zz0); repeat (first | with_reducible exact Below.refl _ _ | with_reducible refine Below.drew ?_ | with_reducible refine below_drewN ?_ _ | with_reducible refine Below.alloc ?_ (by first | omega | (simp; done) | (simp; omega)) _ | with_reducible refine Below.setCell ?_ (by first | omega | (simp; done) | (simp; omega)) _ | (with_reducible refine Below.trans ?_ (Below.mono b1 (by first | omega | (simp; done) | (simp; omega))))))⟩
      · have c3 : stI st = false := by simpa using c3
        rw [c3] at i1 ⊢
        go_enter Try.func24, Try.ntmps24
        go_wp2_with fail
        refine (i1 _).mono ?_; rintro e w1 ⟨rfl, rfl⟩
        go_wp2
        go_ret
        exact ⟨bool_ret (by first | (simp [c1, c2]; done) | (simp; intros; omega)), by (repeat (first | with_reducible exact Below.refl _ _ | with_reducible refine Below.drew ?_ | with_reducible refine below_drewN ?_ _ | with_reducible refine Below.alloc ?_ (by first | omega | (simp; done) | (simp; omega)) _ | with_reducible refine Below.setCell ?_ (by first | omega | (simp; done) | (simp; omega)) _))⟩
    · go_enter Try.func24, Try.ntmps24
      go_wp2
      go_ret
      exact ⟨bool_ret (by first | (simp [c1, c2]; done) | (simp; intros; omega)), by (repeat (first | with_reducible exact Below.refl _ _ | with_reducible refine Below.drew ?_ | with_reducible refine below_drewN ?_ _ | with_reducible refine Below.alloc ?_ (by first | omega | (simp; done) | (simp; omega)) _ | with_reducible refine Below.setCell ?_ (by first | omega | (simp; done) | (simp; omega)) _))⟩
  · go_enter Try.func24, Try.ntmps24
    go_wp2
    go_ret
    exact ⟨bool_ret (by first | (simp [c1]; done) | (simp; intros; omega)), by (repeat (first | with_reducible exact Below.refl _ _ | with_reducible refine Below.drew ?_ | with_reducible refine below_drewN ?_ _ | with_reducible refine Below.alloc ?_ (by first | omega | (simp; done) | (simp; omega)) _ | with_reducible refine Below.setCell ?_ (by first | omega | (simp; done) | (simp; omega)) _))⟩
theorem rright_any (id st : Int) (n ip port : Nat) (h1 : ip < 4294967296) (h2 : port < 65536) (w : World) :
    Calls Try.prog 32 #[.agg #[.int .i64 id, .int .i64 st, .int .u32 n, .int .u32 ip, .int .u16 port]] w fun e w' => e = .returned (.bool (rightI id st ip port)) ∧ Below w.heap.size w w' := by
  unfold rightI stI
  have i2 := rnone_any ip port h1 h2
  generalize noneI ip port = N at *
  by_cases c1 : 1 ≤ id
  · by_cases c2 : id ≤ 32
    · by_cases c3 : 0 ≤ st
      · by_cases c4 : st ≤ 3
        · go_enter Try.func32, Try.ntmps32
          go_wp2_with fail
          refine (i2 _).mono ?_; rintro e w1 ⟨rfl, b1⟩; obtain ⟨hc1, hf1, hz1⟩ := bcell b1; (try simp at hz1); have kc1_0 := fun o => hc1 (w.heap.size) o (by first | omega | (simp; done) | (simp; omega)); have kf1_0 := fun o => hf1 (w.heap.size) o (by first | omega | (simp; done) | (simp; omega)); have kl1_0 : w.heap.size < w1.heap.size := (by omega); clear hc1 hf1
          go_wp2
          go_ret
          exact ⟨bool_ret (by first | (simp [c1, c2, c3, c4]; done) | (simp; intros; omega)), by (have zz0 := Below.size b1; (try simp at zz0); repeat (first | with_reducible exact Below.refl _ _ | with_reducible refine Below.drew ?_ | with_reducible refine below_drewN ?_ _ | with_reducible refine Below.alloc ?_ (by first | omega | (simp; done) | (simp; omega)) _ | with_reducible refine Below.setCell ?_ (by first | omega | (simp; done) | (simp; omega)) _ | (with_reducible refine Below.trans ?_ (Below.mono b1 (by first | omega | (simp; done) | (simp; omega))))))⟩
        · go_enter Try.func32, Try.ntmps32
          go_wp2_with fail
          refine (i2 _).mono ?_; rintro e w1 ⟨rfl, b1⟩; obtain ⟨hc1, hf1, hz1⟩ := bcell b1; (try simp at hz1); have kc1_0 := fun o => hc1 (w.heap.size) o (by first | omega | (simp; done) | (simp; omega)); have kf1_0 := fun o => hf1 (w.heap.size) o (by first | omega | (simp; done) | (simp; omega)); have kl1_0 : w.heap.size < w1.heap.size := (by omega); clear hc1 hf1
          go_wp2
          go_ret
          exact ⟨bool_ret (by first | (simp [c1, c2, c3, c4]; done) | (simp; intros; omega)), by (have zz0 := Below.size b1; (try simp at zz0); repeat (first | with_reducible exact Below.refl _ _ | with_reducible refine Below.drew ?_ | with_reducible refine below_drewN ?_ _ | with_reducible refine Below.alloc ?_ (by first | omega | (simp; done) | (simp; omega)) _ | with_reducible refine Below.setCell ?_ (by first | omega | (simp; done) | (simp; omega)) _ | (with_reducible refine Below.trans ?_ (Below.mono b1 (by first | omega | (simp; done) | (simp; omega))))))⟩
      · go_enter Try.func32, Try.ntmps32
        go_wp2_with fail
        refine (i2 _).mono ?_; rintro e w1 ⟨rfl, b1⟩; obtain ⟨hc1, hf1, hz1⟩ := bcell b1; (try simp at hz1); have kc1_0 := fun o => hc1 (w.heap.size) o (by first | omega | (simp; done) | (simp; omega)); have kf1_0 := fun o => hf1 (w.heap.size) o (by first | omega | (simp; done) | (simp; omega)); have kl1_0 : w.heap.size < w1.heap.size := (by omega); clear hc1 hf1
        go_wp2
        go_ret
        exact ⟨bool_ret (by first | (simp [c1, c2, c3]; done) | (simp; intros; omega)), by (have zz0 := Below.size b1; (try simp at zz0); repeat (first | with_reducible exact Below.refl _ _ | with_reducible refine Below.drew ?_ | with_reducible refine below_drewN ?_ _ | with_reducible refine Below.alloc ?_ (by first | omega | (simp; done) | (simp; omega)) _ | with_reducible refine Below.setCell ?_ (by first | omega | (simp; done) | (simp; omega)) _ | (with_reducible refine Below.trans ?_ (Below.mono b1 (by first | omega | (simp; done) | (simp; omega))))))⟩
    · go_enter Try.func32, Try.ntmps32
      go_wp2_with fail
      refine (i2 _).mono ?_; rintro e w1 ⟨rfl, b1⟩; obtain ⟨hc1, hf1, hz1⟩ := bcell b1; (try simp at hz1); have kc1_0 := fun o => hc1 (w.heap.size) o (by first | omega | (simp; done) | (simp; omega)); have kf1_0 := fun o => hf1 (w.heap.size) o (by first | omega | (simp; done) | (simp; omega)); have kl1_0 : w.heap.size < w1.heap.size := (by omega); clear hc1 hf1
      go_wp2
      go_ret
      exact ⟨bool_ret (by first | (simp [c1, c2]; done) | (simp; intros; omega)), by (have zz0 := Below.size b1; (try simp at zz0); repeat (first | with_reducible exact Below.refl _ _ | with_reducible refine Below.drew ?_ | with_reducible refine below_drewN ?_ _ | with_reducible refine Below.alloc ?_ (by first | omega | (simp; done) | (simp; omega)) _ | with_reducible refine Below.setCell ?_ (by first | omega | (simp; done) | (simp; omega)) _ | (with_reducible refine Below.trans ?_ (Below.mono b1 (by first | omega | (simp; done) | (simp; omega))))))⟩
  · go_enter Try.func32, Try.ntmps32
    go_wp2_with fail
    refine (i2 _).mono ?_; rintro e w1 ⟨rfl, b1⟩; obtain ⟨hc1, hf1, hz1⟩ := bcell b1; (try simp at hz1); have kc1_0 := fun o => hc1 (w.heap.size) o (by first | omega | (simp; done) | (simp; omega)); have kf1_0 := fun o => hf1 (w.heap.size) o (by first | omega | (simp; done) | (simp; omega)); have kl1_0 : w.heap.size < w1.heap.size := (by omega); clear hc1 hf1
    go_wp2
    go_ret
    exact ⟨bool_ret (by first | (simp [c1]; done) | (simp; intros; omega)), by (have zz0 := Below.size b1; (try simp at zz0); repeat (first | with_reducible exact Below.refl _ _ | with_reducible refine Below.drew ?_ | with_reducible refine below_drewN ?_ _ | with_reducible refine Below.alloc ?_ (by first | omega | (simp; done) | (simp; omega)) _ | with_reducible refine Below.setCell ?_ (by first | omega | (simp; done) | (simp; omega)) _ | (with_reducible refine Below.trans ?_ (Below.mono b1 (by first | omega | (simp; done) | (simp; omega))))))⟩
end Go.Proofs.Ythebcaielbnhjaa
