/- Contracts of a record's Over, Join, both programs. -/
import Derived.Test.YthebcaielbnhjaaRecOrder
import Derived.Test.YthebcaielbnhjaaViMath
namespace Go.Proofs.Ythebcaielbnhjaa
open Go.RowKit
set_option linter.unusedVariables false
set_option linter.unusedSimpArgs false

theorem over_rec (a b : Rec) (ha : a.Ok) (hb : b.Ok) (w : World) :
    Calls Try.prog 23 #[.agg #[.int .i64 a.id, .int .i64 a.st, .int .u32 a.n, .int .u32 a.ip, .int .u16 a.port], .agg #[.int .i64 b.id, .int .i64 b.st, .int .u32 b.n, .int .u32 b.ip, .int .u16 b.port]] w fun e w' => e = .returned (.bool (overR a b)) ∧ Below w.heap.size w w' := by
  have O := Lib.hid (order_rec a b ha hb)
  have H : Hid (overR a b = decide (ordR a b > 0)) := rfl
  clear ha hb
  generalize ordR a b = o at *
  generalize overR a b = v at *
  go_enter Try.func23, Try.ntmps23
  go_wp2_with fail
  refine (O.out _).mono ?_; rintro e w1 ⟨rfl, b1⟩
  go_wp2
  go_ret
  exact ⟨bool_ret (by rw [H.out]), by (have zz0 := Below.size b1; (try simp at zz0); repeat (first | with_reducible exact Below.refl _ _ | with_reducible refine Below.drew ?_ | with_reducible refine below_drewN ?_ _ | with_reducible refine Below.alloc ?_ (by first | omega | (simp; done) | (simp; omega)) _ | with_reducible refine Below.setCell ?_ (by first | omega | (simp; done) | (simp; omega)) _ | (with_reducible refine Below.trans ?_ (Below.mono b1 (by first | omega | (simp; done) | (simp; omega))))))⟩
theorem rover_rec (a b : Rec) (ha : a.Ok) (hb : b.Ok) (w : World) :
    Calls Try.prog 33 #[.agg #[.int .i64 a.id, .int .i64 a.st, .int .u32 a.n, .int .u32 a.ip, .int .u16 a.port], .agg #[.int .i64 b.id, .int .i64 b.st, .int .u32 b.n, .int .u32 b.ip, .int .u16 b.port]] w fun e w' => e = .returned (.bool (overR a b)) ∧ Below w.heap.size w w' := by
  have O := Lib.hid (rorder_rec a b ha hb)
  have H : Hid (overR a b = decide (ordR a b > 0)) := rfl
  clear ha hb
  generalize ordR a b = o at *
  generalize overR a b = v at *
  go_enter Try.func33, Try.ntmps33
  go_wp2_with fail
  refine (O.out _).mono ?_; rintro e w1 ⟨rfl, b1⟩
  go_wp2
  go_ret
  exact ⟨bool_ret (by rw [H.out]), by (have zz0 := Below.size b1; (try simp at zz0); repeat (first | with_reducible exact Below.refl _ _ | with_reducible refine Below.drew ?_ | with_reducible refine below_drewN ?_ _ | with_reducible refine Below.alloc ?_ (by first | omega | (simp; done) | (simp; omega)) _ | with_reducible refine Below.setCell ?_ (by first | omega | (simp; done) | (simp; omega)) _ | (with_reducible refine Below.trans ?_ (Below.mono b1 (by first | omega | (simp; done) | (simp; omega))))))⟩
theorem joinR_over (a b : Rec) : joinR a b = if overR a b = true then a else b := by unfold joinR overR; simp
theorem boxes3 (w : World) (a b c : List Value) (T : TypeId) : Cs w.heap.size a (((w.alloc (.cells a.toArray T)).alloc (.cells b.toArray T)).alloc (.cells c.toArray T)) ∧
    Cs (w.heap.size + 1) b (((w.alloc (.cells a.toArray T)).alloc (.cells b.toArray T)).alloc (.cells c.toArray T)) ∧ Cs (w.heap.size + 2) c (((w.alloc (.cells a.toArray T)).alloc (.cells b.toArray T)).alloc (.cells c.toArray T)) ∧
    Below w.heap.size w (((w.alloc (.cells a.toArray T)).alloc (.cells b.toArray T)).alloc (.cells c.toArray T)) := by
  refine ⟨((Cs.new w a T).alloc _).alloc _, ?_, ?_, ?_⟩
  · have := (Cs.new (w.alloc (.cells a.toArray T)) b T).alloc (.cells c.toArray T)
    simp only [World.size_alloc] at this
    exact this
  · have := Cs.new ((w.alloc (.cells a.toArray T)).alloc (.cells b.toArray T)) c T
    simp only [World.size_alloc] at this
    exact this
  · (repeat (first | with_reducible exact Below.refl _ _ | with_reducible refine Below.drew ?_ | with_reducible refine below_drewN ?_ _ | with_reducible refine Below.alloc ?_ (by first | omega | (simp; done) | (simp; omega)) _ | with_reducible refine Below.setCell ?_ (by first | omega | (simp; done) | (simp; omega)) _))
end Go.Proofs.Ythebcaielbnhjaa
