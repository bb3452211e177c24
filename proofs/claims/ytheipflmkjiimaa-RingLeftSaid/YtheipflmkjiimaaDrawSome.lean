/- The contracts of Some (both programs), of same, and of examples. -/
import Derived.Test.YtheipflmkjiimaaDrawRmix
namespace Go.Proofs.Ytheipflmkjiimaa
open Go.RowKit
set_option linter.unusedVariables false
set_option linter.unusedSimpArgs false

/-- a list of numbers that a call answered: it can be read, and it is new -/
def Ans (lo : Nat) (w' : World) (A : Option Addr) (m : Nat) (xs : List Int) : Prop := xs.length = m ∧ Rd .i64 w' w'.heap.size A xs ∧ ∀ ad, A = some ad → lo ≤ ad.block

section
variable {lo m : Nat} {w w' : World} {A : Option Addr} {xs : List Int}
theorem Ans.drew (h : Ans lo w A m xs) : Ans lo w.drew A m xs := h
theorem Ans.alloc (h : Ans lo w A m xs) (o : Obj) : Ans lo (w.alloc o) A m xs :=
  ⟨h.1, (h.2.1.below ((Below.refl _ _).alloc (Nat.le_refl _) o)).more (by simp), h.2.2⟩
theorem Ans.setLow (h : Ans lo w A m xs) {p : Addr} (hp : p.block < lo) (u : Value) : Ans lo (w.setCell p u) A m xs :=
  ⟨h.1, fun hx => by
    obtain ⟨b, off, rfl, hb, hc⟩ := h.2.1 hx
    have hlo := h.2.2 _ rfl
    refine ⟨b, off, rfl, by simpa using hb, fun i hi => ?_⟩
    rw [World.cell?_setCell_other w p ⟨b, off + i, none⟩ u (fun e => by subst e; have : lo ≤ b := hlo; have : b < lo := hp; omega)]
    exact hc i hi, h.2.2⟩
theorem Ans.below (h : Ans lo w A m xs) (hb : Below w.heap.size w w') : Ans lo w' A m xs := ⟨h.1, (h.2.1.below hb).more hb.size, h.2.2⟩
theorem Ans.take (h : Ans lo w A m xs) {q : Nat} (hq : q ≤ m) : Ans lo w A q (xs.take q) := ⟨by rw [List.length_take, h.1]; omega, h.2.1.take q, h.2.2⟩
theorem Ans.low (h : Ans lo w A m xs) {l2 : Nat} (hq : l2 ≤ lo) : Ans l2 w A m xs := ⟨h.1, h.2.1, fun ad he => by have := h.2.2 ad he; omega⟩
end

theorem mix_ans (s : Int) (a : Option Addr) (n cap : Nat) (zs : List Int) (hl : n ≤ 100000) (hcap : n ≤ cap) (hn : zs.length = n) (w : World) (hr : Rd .i64 w w.heap.size a zs) :
    Calls Try.prog 22 #[.agg #[.int .u64 s], .slice a n cap] w fun e w' => ∃ g, e = .returned (.tuple #[.slice (some ⟨g, 0, none⟩) n n, .agg #[.int .u64 (mixL s zs).2]]) ∧
      Ans w.heap.size w' (some ⟨g, 0, none⟩) n (mixL s zs).1 ∧ Below w.heap.size w w' := by
  refine (mix_any s a n cap zs hl hcap hn w hr).mono ?_
  rintro e w' ⟨he, hrow, hb⟩
  have hl2 : (mixL s zs).1.length = n := by rw [mixL_length]; exact hn
  exact ⟨_, he, ⟨hl2, Rd.of_row hrow (by omega), fun ad h => by injection h with h; subst h; show w.heap.size ≤ w.heap.size + 1 + 1; omega⟩, hb⟩

theorem rmix_ans (s : Int) (a : Option Addr) (n cap : Nat) (zs : List Int) (hl : n ≤ 100000) (hcap : n ≤ cap) (hA : a = none → n = 0 ∧ cap = 0) (hn : zs.length = n) (w : World) (hr : Rd .i64 w w.heap.size a zs) :
    Calls Try.prog 25 #[.agg #[.int .u64 s], .slice a n cap] w fun e w' => ∃ A c, e = .returned (.tuple #[.slice A n c, .agg #[.int .u64 (mixL s zs).2]]) ∧ n ≤ c ∧
      Ans w.heap.size w' A n (mixL s zs).1 ∧ Below w.heap.size w w' := by
  refine (rmix_any s a n cap zs hl hcap hA hn w hr).mono ?_
  rintro e w' ⟨v, he, hrow, hb⟩
  have hl2 : (mixL s zs).1.length = n := by rw [mixL_length]; exact hn
  rcases hrow.2 with ⟨hv, h0⟩ | ⟨g, c, cur, hv, hg, _, hc, _⟩
  · subst hv
    subst h0
    exact ⟨_, _, he, Nat.le_refl _, ⟨hl2, fun h => absurd h (by omega), fun ad h => by cases h⟩, hb⟩
  · subst hv
    exact ⟨_, _, he, hc, ⟨hl2, Rd.of_own hrow, fun ad h => by injection h with h; subst h; show w.heap.size ≤ g; omega⟩, hb⟩

/-- how many Some answers -/
def much (k : Int) (n : Nat) : Nat := (min (max k 0) (n : Int)).toNat

set_option maxRecDepth 100000 in
set_option maxHeartbeats 800000 in
theorem some_lo (s : Int) (a : Option Addr) (n cap : Nat) (zs : List Int) (k : Int) (hk : k < 0) (hl : n ≤ 100000) (hcap : n ≤ cap) (hn : Hid (zs.length = n)) (w : World) (hr : Rd .i64 w w.heap.size a zs) :
    Calls Try.prog 20 #[.agg #[.int .u64 s], .slice a n cap, .int .i64 k] w fun e w' => ∃ A c, e = .returned (.tuple #[.slice A 0 c, .agg #[.int .u64 (mixL s zs).2]]) ∧
      Ans w.heap.size w' A 0 ((mixL s zs).1.take 0) ∧ Below w.heap.size w w' := by
  go_enter Try.func20, Try.ntmps20
  go_wp2_with (go_at_call 22; refine (mix_ans _ _ _ _ zs hl hcap hn.out _ ?h1).mono ?_; rotate_right; rintro e w2 ⟨g, rfl, hans, hb⟩; have HA := Lib.hid hans; clear hans; obtain ⟨hc, hf, hz⟩ := bcell hb; simp at hz; have hz1 : w.heap.size + 1 < w2.heap.size := (by omega); have hz0 : w.heap.size < w2.heap.size := (by omega))
  case h1 => exact (hr.below (by ((repeat (first | with_reducible exact Below.refl _ _ | with_reducible refine Below.drew ?_ | with_reducible refine below_drewN ?_ _ | with_reducible refine Below.alloc ?_ (by first | omega | (simp; done) | (simp; omega)) _ | with_reducible refine Below.setCell ?_ (by first | omega | (simp; done) | (simp; omega)) _))))).more (by simp; omega)
  go_region
  all_goals go_wp2
  all_goals (refine bodyPost_ret (v := .tuple #[.slice (some ⟨g, 0, none⟩) 0 0, .agg #[.int .u64 (mixL s zs).2]]) (by simp [results, Try.results20, go_sem, hz1, hz0, hc, hf]) rfl ?_)
  all_goals refine ⟨_, _, rfl, by (refine Ans.low (lo := w.heap.size + 1 + 1) ?_ (by omega); repeat (first | exact (HA.out.take (by omega)).low (by simp) | refine Ans.drew ?_ | refine Ans.alloc ?_ _ | refine Ans.setLow ?_ (by simp) _)), by ((have zz0 := Below.size hb; (try simp at zz0); repeat (first | with_reducible exact Below.refl _ _ | with_reducible refine Below.drew ?_ | with_reducible refine below_drewN ?_ _ | with_reducible refine Below.alloc ?_ (by first | omega | (simp; done) | (simp; omega)) _ | with_reducible refine Below.setCell ?_ (by first | omega | (simp; done) | (simp; omega)) _ | (with_reducible refine Below.trans ?_ (Below.mono hb (by first | omega | (simp; done) | (simp; omega)))))))⟩

set_option maxRecDepth 100000 in
set_option maxHeartbeats 800000 in
theorem some_mid (s : Int) (a : Option Addr) (n cap : Nat) (zs : List Int) (m : Nat) (hk : (m : Int) ≤ n) (hl : n ≤ 100000) (hcap : n ≤ cap) (hn : Hid (zs.length = n)) (w : World) (hr : Rd .i64 w w.heap.size a zs) :
    Calls Try.prog 20 #[.agg #[.int .u64 s], .slice a n cap, .int .i64 (m : Int)] w fun e w' => ∃ A c, e = .returned (.tuple #[.slice A m c, .agg #[.int .u64 (mixL s zs).2]]) ∧
      Ans w.heap.size w' A m ((mixL s zs).1.take m) ∧ Below w.heap.size w w' := by
  go_enter Try.func20, Try.ntmps20
  go_wp2_with (go_at_call 22; refine (mix_ans _ _ _ _ zs hl hcap hn.out _ ?h1).mono ?_; rotate_right; rintro e w2 ⟨g, rfl, hans, hb⟩; have HA := Lib.hid hans; clear hans; obtain ⟨hc, hf, hz⟩ := bcell hb; simp at hz; have hz1 : w.heap.size + 1 < w2.heap.size := (by omega); have hz0 : w.heap.size < w2.heap.size := (by omega))
  case h1 => exact (hr.below (by ((repeat (first | with_reducible exact Below.refl _ _ | with_reducible refine Below.drew ?_ | with_reducible refine below_drewN ?_ _ | with_reducible refine Below.alloc ?_ (by first | omega | (simp; done) | (simp; omega)) _ | with_reducible refine Below.setCell ?_ (by first | omega | (simp; done) | (simp; omega)) _))))).more (by simp; omega)
  go_region
  all_goals go_wp2
  all_goals (refine bodyPost_ret (v := .tuple #[.slice (some ⟨g, 0, none⟩) m m, .agg #[.int .u64 (mixL s zs).2]]) (by simp [results, Try.results20, go_sem, hz1, hz0, hc, hf]) rfl ?_)
  all_goals refine ⟨_, _, rfl, by (refine Ans.low (lo := w.heap.size + 1 + 1) ?_ (by omega); repeat (first | exact (HA.out.take (by omega)).low (by simp) | refine Ans.drew ?_ | refine Ans.alloc ?_ _ | refine Ans.setLow ?_ (by simp) _)), by ((have zz0 := Below.size hb; (try simp at zz0); repeat (first | with_reducible exact Below.refl _ _ | with_reducible refine Below.drew ?_ | with_reducible refine below_drewN ?_ _ | with_reducible refine Below.alloc ?_ (by first | omega | (simp; done) | (simp; omega)) _ | with_reducible refine Below.setCell ?_ (by first | omega | (simp; done) | (simp; omega)) _ | (with_reducible refine Below.trans ?_ (Below.mono hb (by first | omega | (simp; done) | (simp; omega)))))))⟩

set_option maxRecDepth 100000 in
set_option maxHeartbeats 800000 in
theorem some_hi (s : Int) (a : Option Addr) (n cap : Nat) (zs : List Int) (k : Int) (hk0 : 0 ≤ k) (hk : n < k) (hl : n ≤ 100000) (hcap : n ≤ cap) (hn : Hid (zs.length = n)) (w : World) (hr : Rd .i64 w w.heap.size a zs) :
    Calls Try.prog 20 #[.agg #[.int .u64 s], .slice a n cap, .int .i64 k] w fun e w' => ∃ A c, e = .returned (.tuple #[.slice A n c, .agg #[.int .u64 (mixL s zs).2]]) ∧
      Ans w.heap.size w' A n ((mixL s zs).1.take n) ∧ Below w.heap.size w w' := by
  go_enter Try.func20, Try.ntmps20
  go_wp2_with (go_at_call 22; refine (mix_ans _ _ _ _ zs hl hcap hn.out _ ?h1).mono ?_; rotate_right; rintro e w2 ⟨g, rfl, hans, hb⟩; have HA := Lib.hid hans; clear hans; obtain ⟨hc, hf, hz⟩ := bcell hb; simp at hz; have hz1 : w.heap.size + 1 < w2.heap.size := (by omega); have hz0 : w.heap.size < w2.heap.size := (by omega))
  case h1 => exact (hr.below (by ((repeat (first | with_reducible exact Below.refl _ _ | with_reducible refine Below.drew ?_ | with_reducible refine below_drewN ?_ _ | with_reducible refine Below.alloc ?_ (by first | omega | (simp; done) | (simp; omega)) _ | with_reducible refine Below.setCell ?_ (by first | omega | (simp; done) | (simp; omega)) _))))).more (by simp; omega)
  go_region
  all_goals go_wp2
  all_goals (refine bodyPost_ret (v := .tuple #[.slice (some ⟨g, 0, none⟩) n n, .agg #[.int .u64 (mixL s zs).2]]) (by simp [results, Try.results20, go_sem, hz1, hz0, hc, hf]) rfl ?_)
  all_goals refine ⟨_, _, rfl, by (refine Ans.low (lo := w.heap.size + 1 + 1) ?_ (by omega); repeat (first | exact (HA.out.take (by omega)).low (by simp) | refine Ans.drew ?_ | refine Ans.alloc ?_ _ | refine Ans.setLow ?_ (by simp) _)), by ((have zz0 := Below.size hb; (try simp at zz0); repeat (first | with_reducible exact Below.refl _ _ | with_reducible refine Below.drew ?_ | with_reducible refine below_drewN ?_ _ | with_reducible refine Below.alloc ?_ (by first | omega | (simp; done) | (simp; omega)) _ | with_reducible refine Below.setCell ?_ (by first | omega | (simp; done) | (simp; omega)) _ | (with_reducible refine Below.trans ?_ (Below.mono hb (by first | omega | (simp; done) | (simp; omega)))))))⟩

set_option maxRecDepth 100000 in
set_option maxHeartbeats 800000 in
theorem rsome_lo (s : Int) (a : Option Addr) (n cap : Nat) (zs : List Int) (k : Int) (hk : k < 0) (hl : n ≤ 100000) (hcap : n ≤ cap) (HAn : Hid (a = none → n = 0 ∧ cap = 0)) (hn : Hid (zs.length = n)) (w : World) (hr : Rd .i64 w w.heap.size a zs) :
    Calls Try.prog 21 #[.agg #[.int .u64 s], .slice a n cap, .int .i64 k] w fun e w' => ∃ A c, e = .returned (.tuple #[.slice A 0 c, .agg #[.int .u64 (mixL s zs).2]]) ∧
      Ans w.heap.size w' A 0 ((mixL s zs).1.take 0) ∧ Below w.heap.size w w' := by
  go_enter Try.func21, Try.ntmps21
  go_wp2_with (go_at_call 25; refine (rmix_ans _ _ _ _ zs hl hcap HAn.out hn.out _ ?h1).mono ?_; rotate_right; rintro e w2 ⟨A, c, rfl, hnc, hans, hb⟩; have HA := Lib.hid hans; clear hans; obtain ⟨hc, hf, hz⟩ := bcell hb; simp at hz; have hz1 : w.heap.size + 1 < w2.heap.size := (by omega); have hz0 : w.heap.size < w2.heap.size := (by omega))
  case h1 => exact (hr.below (by ((repeat (first | with_reducible exact Below.refl _ _ | with_reducible refine Below.drew ?_ | with_reducible refine below_drewN ?_ _ | with_reducible refine Below.alloc ?_ (by first | omega | (simp; done) | (simp; omega)) _ | with_reducible refine Below.setCell ?_ (by first | omega | (simp; done) | (simp; omega)) _))))).more (by simp; omega)
  go_region
  all_goals go_wp2
  all_goals (refine bodyPost_ret (v := .tuple #[.slice A 0 c, .agg #[.int .u64 (mixL s zs).2]]) (by simp [results, Try.results21, go_sem, hz1, hz0, hc, hf]) rfl ?_)
  all_goals refine ⟨_, _, rfl, by (refine Ans.low (lo := w.heap.size + 1 + 1) ?_ (by omega); repeat (first | exact (HA.out.take (by omega)).low (by simp) | refine Ans.drew ?_ | refine Ans.alloc ?_ _ | refine Ans.setLow ?_ (by simp) _)), by ((have zz0 := Below.size hb; (try simp at zz0); repeat (first | with_reducible exact Below.refl _ _ | with_reducible refine Below.drew ?_ | with_reducible refine below_drewN ?_ _ | with_reducible refine Below.alloc ?_ (by first | omega | (simp; done) | (simp; omega)) _ | with_reducible refine Below.setCell ?_ (by first | omega | (simp; done) | (simp; omega)) _ | (with_reducible refine Below.trans ?_ (Below.mono hb (by first | omega | (simp; done) | (simp; omega)))))))⟩

set_option maxRecDepth 100000 in
set_option maxHeartbeats 800000 in
theorem rsome_mid (s : Int) (a : Option Addr) (n cap : Nat) (zs : List Int) (m : Nat) (hk : (m : Int) ≤ n) (hl : n ≤ 100000) (hcap : n ≤ cap) (HAn : Hid (a = none → n = 0 ∧ cap = 0)) (hn : Hid (zs.length = n)) (w : World) (hr : Rd .i64 w w.heap.size a zs) :
    Calls Try.prog 21 #[.agg #[.int .u64 s], .slice a n cap, .int .i64 (m : Int)] w fun e w' => ∃ A c, e = .returned (.tuple #[.slice A m c, .agg #[.int .u64 (mixL s zs).2]]) ∧
      Ans w.heap.size w' A m ((mixL s zs).1.take m) ∧ Below w.heap.size w w' := by
  go_enter Try.func21, Try.ntmps21
  go_wp2_with (go_at_call 25; refine (rmix_ans _ _ _ _ zs hl hcap HAn.out hn.out _ ?h1).mono ?_; rotate_right; rintro e w2 ⟨A, c, rfl, hnc, hans, hb⟩; have HA := Lib.hid hans; clear hans; obtain ⟨hc, hf, hz⟩ := bcell hb; simp at hz; have hz1 : w.heap.size + 1 < w2.heap.size := (by omega); have hz0 : w.heap.size < w2.heap.size := (by omega))
  case h1 => exact (hr.below (by ((repeat (first | with_reducible exact Below.refl _ _ | with_reducible refine Below.drew ?_ | with_reducible refine below_drewN ?_ _ | with_reducible refine Below.alloc ?_ (by first | omega | (simp; done) | (simp; omega)) _ | with_reducible refine Below.setCell ?_ (by first | omega | (simp; done) | (simp; omega)) _))))).more (by simp; omega)
  go_region
  all_goals go_wp2
  all_goals (refine bodyPost_ret (v := .tuple #[.slice A m c, .agg #[.int .u64 (mixL s zs).2]]) (by simp [results, Try.results21, go_sem, hz1, hz0, hc, hf]) rfl ?_)
  all_goals refine ⟨_, _, rfl, by (refine Ans.low (lo := w.heap.size + 1 + 1) ?_ (by omega); repeat (first | exact (HA.out.take (by omega)).low (by simp) | refine Ans.drew ?_ | refine Ans.alloc ?_ _ | refine Ans.setLow ?_ (by simp) _)), by ((have zz0 := Below.size hb; (try simp at zz0); repeat (first | with_reducible exact Below.refl _ _ | with_reducible refine Below.drew ?_ | with_reducible refine below_drewN ?_ _ | with_reducible refine Below.alloc ?_ (by first | omega | (simp; done) | (simp; omega)) _ | with_reducible refine Below.setCell ?_ (by first | omega | (simp; done) | (simp; omega)) _ | (with_reducible refine Below.trans ?_ (Below.mono hb (by first | omega | (simp; done) | (simp; omega)))))))⟩

set_option maxRecDepth 100000 in
set_option maxHeartbeats 800000 in
theorem rsome_hi (s : Int) (a : Option Addr) (n cap : Nat) (zs : List Int) (k : Int) (hk0 : 0 ≤ k) (hk : n < k) (hl : n ≤ 100000) (hcap : n ≤ cap) (HAn : Hid (a = none → n = 0 ∧ cap = 0)) (hn : Hid (zs.length = n)) (w : World) (hr : Rd .i64 w w.heap.size a zs) :
    Calls Try.prog 21 #[.agg #[.int .u64 s], .slice a n cap, .int .i64 k] w fun e w' => ∃ A c, e = .returned (.tuple #[.slice A n c, .agg #[.int .u64 (mixL s zs).2]]) ∧
      Ans w.heap.size w' A n ((mixL s zs).1.take n) ∧ Below w.heap.size w w' := by
  go_enter Try.func21, Try.ntmps21
  go_wp2_with (go_at_call 25; refine (rmix_ans _ _ _ _ zs hl hcap HAn.out hn.out _ ?h1).mono ?_; rotate_right; rintro e w2 ⟨A, c, rfl, hnc, hans, hb⟩; have HA := Lib.hid hans; clear hans; obtain ⟨hc, hf, hz⟩ := bcell hb; simp at hz; have hz1 : w.heap.size + 1 < w2.heap.size := (by omega); have hz0 : w.heap.size < w2.heap.size := (by omega))
  case h1 => exact (hr.below (by ((repeat (first | with_reducible exact Below.refl _ _ | with_reducible refine Below.drew ?_ | with_reducible refine below_drewN ?_ _ | with_reducible refine Below.alloc ?_ (by first | omega | (simp; done) | (simp; omega)) _ | with_reducible refine Below.setCell ?_ (by first | omega | (simp; done) | (simp; omega)) _))))).more (by simp; omega)
  go_region
  all_goals go_wp2
  all_goals (refine bodyPost_ret (v := .tuple #[.slice A n c, .agg #[.int .u64 (mixL s zs).2]]) (by simp [results, Try.results21, go_sem, hz1, hz0, hc, hf]) rfl ?_)
  all_goals refine ⟨_, _, rfl, by (refine Ans.low (lo := w.heap.size + 1 + 1) ?_ (by omega); repeat (first | exact (HA.out.take (by omega)).low (by simp) | refine Ans.drew ?_ | refine Ans.alloc ?_ _ | refine Ans.setLow ?_ (by simp) _)), by ((have zz0 := Below.size hb; (try simp at zz0); repeat (first | with_reducible exact Below.refl _ _ | with_reducible refine Below.drew ?_ | with_reducible refine below_drewN ?_ _ | with_reducible refine Below.alloc ?_ (by first | omega | (simp; done) | (simp; omega)) _ | with_reducible refine Below.setCell ?_ (by first | omega | (simp; done) | (simp; omega)) _ | (with_reducible refine Below.trans ?_ (Below.mono hb (by first | omega | (simp; done) | (simp; omega)))))))⟩


theorem some_all (s : Int) (a : Option Addr) (n cap : Nat) (zs : List Int) (k : Int) (m : Nat) (hm : Hid (much k n = m)) (hl : n ≤ 100000) (hcap : n ≤ cap) (hn : Hid (zs.length = n)) (w : World) (hr : Rd .i64 w w.heap.size a zs) :
    Calls Try.prog 20 #[.agg #[.int .u64 s], .slice a n cap, .int .i64 k] w fun e w' => ∃ A c, e = .returned (.tuple #[.slice A m c, .agg #[.int .u64 (mixL s zs).2]]) ∧
      Ans w.heap.size w' A m ((mixL s zs).1.take m) ∧ Below w.heap.size w w' := by
  have hm' := hm.out
  unfold much at hm'
  by_cases h0 : k < 0
  · obtain rfl : m = 0 := by omega
    exact some_lo s a n cap zs k h0 hl hcap hn w hr
  · by_cases h1 : k ≤ n
    · obtain rfl : k = (m : Int) := by omega
      exact some_mid s a n cap zs m h1 hl hcap hn w hr
    · obtain rfl : m = n := by omega
      exact some_hi s a m cap zs k (by omega) (by omega) hl hcap hn w hr

theorem rsome_all (s : Int) (a : Option Addr) (n cap : Nat) (zs : List Int) (k : Int) (m : Nat) (hm : Hid (much k n = m)) (hl : n ≤ 100000) (hcap : n ≤ cap) (HAn : Hid (a = none → n = 0 ∧ cap = 0)) (hn : Hid (zs.length = n)) (w : World) (hr : Rd .i64 w w.heap.size a zs) :
    Calls Try.prog 21 #[.agg #[.int .u64 s], .slice a n cap, .int .i64 k] w fun e w' => ∃ A c, e = .returned (.tuple #[.slice A m c, .agg #[.int .u64 (mixL s zs).2]]) ∧
      Ans w.heap.size w' A m ((mixL s zs).1.take m) ∧ Below w.heap.size w w' := by
  have hm' := hm.out
  unfold much at hm'
  by_cases h0 : k < 0
  · obtain rfl : m = 0 := by omega
    exact rsome_lo s a n cap zs k h0 hl hcap HAn hn w hr
  · by_cases h1 : k ≤ n
    · obtain rfl : k = (m : Int) := by omega
      exact rsome_mid s a n cap zs m h1 hl hcap HAn hn w hr
    · obtain rfl : m = n := by omega
      exact rsome_hi s a m cap zs k (by omega) (by omega) hl hcap HAn hn w hr
end Go.Proofs.Ytheipflmkjiimaa
