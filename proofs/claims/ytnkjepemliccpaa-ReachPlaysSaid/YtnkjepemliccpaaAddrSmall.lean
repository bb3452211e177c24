/- Contracts of an address's None, Order (both programs). -/
import Derived.Test.YtnkjepemliccpaaWSmall
import Derived.Test.YtnkjepemliccpaaRcMath
namespace Go.Proofs.Ytnkjepemliccpaa
open Go.RowKit
set_option linter.unusedVariables false
set_option linter.unusedSimpArgs false


theorem none_any (ip port : Nat) (h1 : ip < 4294967296) (h2 : port < 65536) (w : World) :
    Calls Try.prog 28 #[.agg #[.int .u32 ip, .int .u16 port]] w fun e w' => e = .returned (.bool (noneI ip port)) ∧ Below w.heap.size w w' := by
  unfold noneI
  by_cases h : ip = 0
  · subst h
    go_enter Try.func28, Try.ntmps28
    go_wp2
    go_ret
    exact ⟨rfl, by (repeat (first | with_reducible exact Below.refl _ _ | with_reducible refine Below.drew ?_ | with_reducible refine below_drewN ?_ _ | with_reducible refine Below.alloc ?_ (by first | omega | (simp; done) | (simp; omega)) _ | with_reducible refine Below.setCell ?_ (by first | omega | (simp; done) | (simp; omega)) _))⟩
  · go_enter Try.func28, Try.ntmps28
    go_wp2
    go_ret
    refine ⟨?_, by (repeat (first | with_reducible exact Below.refl _ _ | with_reducible refine Below.drew ?_ | with_reducible refine below_drewN ?_ _ | with_reducible refine Below.alloc ?_ (by first | omega | (simp; done) | (simp; omega)) _ | with_reducible refine Below.setCell ?_ (by first | omega | (simp; done) | (simp; omega)) _))⟩
    exact bool_ret (by rw [Bool.eq_iff_iff]; simp [h])
theorem rnone_any (ip port : Nat) (h1 : ip < 4294967296) (h2 : port < 65536) (w : World) :
    Calls Try.prog 30 #[.agg #[.int .u32 ip, .int .u16 port]] w fun e w' => e = .returned (.bool (noneI ip port)) ∧ Below w.heap.size w w' := by
  unfold noneI
  by_cases h : ip = 0
  · subst h
    go_enter Try.func30, Try.ntmps30
    go_wp2
    go_ret
    exact ⟨rfl, by (repeat (first | with_reducible exact Below.refl _ _ | with_reducible refine Below.drew ?_ | with_reducible refine below_drewN ?_ _ | with_reducible refine Below.alloc ?_ (by first | omega | (simp; done) | (simp; omega)) _ | with_reducible refine Below.setCell ?_ (by first | omega | (simp; done) | (simp; omega)) _))⟩
  · go_enter Try.func30, Try.ntmps30
    go_wp2
    go_ret
    refine ⟨?_, by (repeat (first | with_reducible exact Below.refl _ _ | with_reducible refine Below.drew ?_ | with_reducible refine below_drewN ?_ _ | with_reducible refine Below.alloc ?_ (by first | omega | (simp; done) | (simp; omega)) _ | with_reducible refine Below.setCell ?_ (by first | omega | (simp; done) | (simp; omega)) _))⟩
    exact bool_ret (by rw [Bool.eq_iff_iff]; simp [h])

theorem order_any (a p b q : Nat) (h1 : a < 4294967296) (h2 : p < 65536) (h3 : b < 4294967296) (h4 : q < 65536) (w : World) :
    Calls Try.prog 33 #[.agg #[.int .u32 a, .int .u16 p], .agg #[.int .u32 b, .int .u16 q]] w fun e w' => e = .returned (.int .i64 (ordI a p b q)) ∧ Below w.heap.size w w' := by
  rcases Nat.lt_trichotomy a b with c | c | c
  · rw [show ordI a p b q = -1 by unfold ordI; rw [if_neg (by omega), if_pos (by omega)]]
    have n1 : (a : Int) < b := by omega
    have n2 : ¬ (a : Int) = b := by omega
    have n3 : ¬ a = b := by omega
    clear c
    go_enter Try.func33, Try.ntmps33
    go_wp2
    go_ret
    exact ⟨rfl, by (repeat (first | with_reducible exact Below.refl _ _ | with_reducible refine Below.drew ?_ | with_reducible refine below_drewN ?_ _ | with_reducible refine Below.alloc ?_ (by first | omega | (simp; done) | (simp; omega)) _ | with_reducible refine Below.setCell ?_ (by first | omega | (simp; done) | (simp; omega)) _))⟩
  · subst c
    rcases Nat.lt_trichotomy p q with c | c | c
    · rw [show ordI a p a q = -1 by unfold ordI; rw [if_neg (by omega), if_pos (by omega)]]
      have n1 : (p : Int) < q := by omega
      have n2 : ¬ (p : Int) = q := by omega
      have n3 : ¬ p = q := by omega
      clear c
      go_enter Try.func33, Try.ntmps33
      go_wp2
      go_ret
      exact ⟨rfl, by (repeat (first | with_reducible exact Below.refl _ _ | with_reducible refine Below.drew ?_ | with_reducible refine below_drewN ?_ _ | with_reducible refine Below.alloc ?_ (by first | omega | (simp; done) | (simp; omega)) _ | with_reducible refine Below.setCell ?_ (by first | omega | (simp; done) | (simp; omega)) _))⟩
    · subst c
      rw [show ordI a p a p = 0 by unfold ordI; rw [if_pos (by omega)]]
      go_enter Try.func33, Try.ntmps33
      go_wp2
      go_ret
      exact ⟨rfl, by (repeat (first | with_reducible exact Below.refl _ _ | with_reducible refine Below.drew ?_ | with_reducible refine below_drewN ?_ _ | with_reducible refine Below.alloc ?_ (by first | omega | (simp; done) | (simp; omega)) _ | with_reducible refine Below.setCell ?_ (by first | omega | (simp; done) | (simp; omega)) _))⟩
    · rw [show ordI a p a q = 1 by unfold ordI; rw [if_neg (by omega), if_neg (by omega)]]
      have n1 : ¬ (p : Int) < q := by omega
      have n2 : ¬ (p : Int) = q := by omega
      have n3 : ¬ p = q := by omega
      clear c
      go_enter Try.func33, Try.ntmps33
      go_wp2
      go_ret
      exact ⟨rfl, by (repeat (first | with_reducible exact Below.refl _ _ | with_reducible refine Below.drew ?_ | with_reducible refine below_drewN ?_ _ | with_reducible refine Below.alloc ?_ (by first | omega | (simp; done) | (simp; omega)) _ | with_reducible refine Below.setCell ?_ (by first | omega | (simp; done) | (simp; omega)) _))⟩
  · rw [show ordI a p b q = 1 by unfold ordI; rw [if_neg (by omega), if_neg (by omega)]]
    have n1 : ¬ (a : Int) < b := by omega
    have n2 : ¬ (a : Int) = b := by omega
    have n3 : ¬ a = b := by omega
    clear c
    go_enter Try.func33, Try.ntmps33
    go_wp2
    go_ret
    exact ⟨rfl, by (repeat (first | with_reducible exact Below.refl _ _ | with_reducible refine Below.drew ?_ | with_reducible refine below_drewN ?_ _ | with_reducible refine Below.alloc ?_ (by first | omega | (simp; done) | (simp; omega)) _ | with_reducible refine Below.setCell ?_ (by first | omega | (simp; done) | (simp; omega)) _))⟩

theorem rorder_any (a p b q : Nat) (h1 : a < 4294967296) (h2 : p < 65536) (h3 : b < 4294967296) (h4 : q < 65536) (w : World) :
    Calls Try.prog 34 #[.agg #[.int .u32 a, .int .u16 p], .agg #[.int .u32 b, .int .u16 q]] w fun e w' => e = .returned (.int .i64 (ordI a p b q)) ∧ Below w.heap.size w w' := by
  rcases Nat.lt_trichotomy a b with c | c | c
  · rw [show ordI a p b q = -1 by unfold ordI; rw [if_neg (by omega), if_pos (by omega)]]
    have n1 : (a : Int) < b := by omega
    have n2 : ¬ (a : Int) = b := by omega
    have n3 : ¬ a = b := by omega
    clear c
    go_enter Try.func34, Try.ntmps34
    go_wp2
    go_ret
    exact ⟨rfl, by (repeat (first | with_reducible exact Below.refl _ _ | with_reducible refine Below.drew ?_ | with_reducible refine below_drewN ?_ _ | with_reducible refine Below.alloc ?_ (by first | omega | (simp; done) | (simp; omega)) _ | with_reducible refine Below.setCell ?_ (by first | omega | (simp; done) | (simp; omega)) _))⟩
  · subst c
    rcases Nat.lt_trichotomy p q with c | c | c
    · rw [show ordI a p a q = -1 by unfold ordI; rw [if_neg (by omega), if_pos (by omega)]]
      have n1 : (p : Int) < q := by omega
      have n2 : ¬ (p : Int) = q := by omega
      have n3 : ¬ p = q := by omega
      clear c
      go_enter Try.func34, Try.ntmps34
      go_wp2
      go_ret
      exact ⟨rfl, by (repeat (first | with_reducible exact Below.refl _ _ | with_reducible refine Below.drew ?_ | with_reducible refine below_drewN ?_ _ | with_reducible refine Below.alloc ?_ (by first | omega | (simp; done) | (simp; omega)) _ | with_reducible refine Below.setCell ?_ (by first | omega | (simp; done) | (simp; omega)) _))⟩
    · subst c
      rw [show ordI a p a p = 0 by unfold ordI; rw [if_pos (by omega)]]
      go_enter Try.func34, Try.ntmps34
      go_wp2
      go_ret
      exact ⟨rfl, by (repeat (first | with_reducible exact Below.refl _ _ | with_reducible refine Below.drew ?_ | with_reducible refine below_drewN ?_ _ | with_reducible refine Below.alloc ?_ (by first | omega | (simp; done) | (simp; omega)) _ | with_reducible refine Below.setCell ?_ (by first | omega | (simp; done) | (simp; omega)) _))⟩
    · rw [show ordI a p a q = 1 by unfold ordI; rw [if_neg (by omega), if_neg (by omega)]]
      have n1 : ¬ (p : Int) < q := by omega
      have n2 : ¬ (p : Int) = q := by omega
      have n3 : ¬ p = q := by omega
      clear c
      go_enter Try.func34, Try.ntmps34
      go_wp2
      go_ret
      exact ⟨rfl, by (repeat (first | with_reducible exact Below.refl _ _ | with_reducible refine Below.drew ?_ | with_reducible refine below_drewN ?_ _ | with_reducible refine Below.alloc ?_ (by first | omega | (simp; done) | (simp; omega)) _ | with_reducible refine Below.setCell ?_ (by first | omega | (simp; done) | (simp; omega)) _))⟩
  · rw [show ordI a p b q = 1 by unfold ordI; rw [if_neg (by omega), if_neg (by omega)]]
    have n1 : ¬ (a : Int) < b := by omega
    have n2 : ¬ (a : Int) = b := by omega
    have n3 : ¬ a = b := by omega
    clear c
    go_enter Try.func34, Try.ntmps34
    go_wp2
    go_ret
    exact ⟨rfl, by (repeat (first | with_reducible exact Below.refl _ _ | with_reducible refine Below.drew ?_ | with_reducible refine below_drewN ?_ _ | with_reducible refine Below.alloc ?_ (by first | omega | (simp; done) | (simp; omega)) _ | with_reducible refine Below.setCell ?_ (by first | omega | (simp; done) | (simp; omega)) _))⟩

end Go.Proofs.Ytnkjepemliccpaa
