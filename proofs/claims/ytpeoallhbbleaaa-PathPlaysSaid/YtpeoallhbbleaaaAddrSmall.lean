/- Contract of an address's None. -/
import Derived.Test.YtpeoallhbbleaaaWSmall
import Derived.Test.YtpeoallhbbleaaaPaMath
namespace Go.Proofs.Ytpeoallhbbleaaa
open Go.RowKit
set_option linter.unusedVariables false
set_option linter.unusedSimpArgs false

theorem none_any (ip port : Nat) (h1 : ip < 4294967296) (h2 : port < 65536) (w : World) :
    Calls Try.prog 32 #[.agg #[.int .u32 ip, .int .u16 port]] w fun e w' => e = .returned (.bool (noneI ip port)) ∧ Below w.heap.size w w' := by
  unfold noneI
  by_cases h : ip = 0
  · subst h
    go_enter Try.func32, Try.ntmps32
    go_wp2
    go_ret
    exact ⟨rfl, by (repeat (first | with_reducible exact Below.refl _ _ | with_reducible refine Below.drew ?_ | with_reducible refine below_drewN ?_ _ | with_reducible refine Below.alloc ?_ (by first | omega | (simp; done) | (simp; omega)) _ | with_reducible refine Below.setCell ?_ (by first | omega | (simp; done) | (simp; omega)) _))⟩
  · go_enter Try.func32, Try.ntmps32
    go_wp2
    go_ret
    refine ⟨?_, by (repeat (first | with_reducible exact Below.refl _ _ | with_reducible refine Below.drew ?_ | with_reducible refine below_drewN ?_ _ | with_reducible refine Below.alloc ?_ (by first | omega | (simp; done) | (simp; omega)) _ | with_reducible refine Below.setCell ?_ (by first | omega | (simp; done) | (simp; omega)) _))⟩
    exact bool_ret (by rw [Bool.eq_iff_iff]; simp [h])
end Go.Proofs.Ytpeoallhbbleaaa
