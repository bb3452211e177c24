/- Contracts of a record's small calls, both programs: isState, Right, Live. -/
import Derived.Test.YtmhlnlippfaclaaDoorAddrSmall
import Derived.Test.YtmhlnlippfaclaaDoorBoxes
namespace Go.Proofs.YtmhlnlippfaclaaDoor
open Go.RowKit
set_option linter.unusedVariables false
set_option linter.unusedSimpArgs false


/-- the five cells of a record -/
def rcs (a : Rec) : List Value := [.int .i64 a.id, .int .i64 a.st, .int .u32 a.n, .int .u32 a.ip, .int .u16 a.port]
structure Rb (g : Nat) (a : Rec) (w : World) : Prop where
  c0 : w.cell? ⟨g, 0, none⟩ = some (.int .i64 a.id)
  c1 : w.cell? ⟨g, 1, none⟩ = some (.int .i64 a.st)
  c2 : w.cell? ⟨g, 2, none⟩ = some (.int .u32 a.n)
  c3 : w.cell? ⟨g, 3, none⟩ = some (.int .u32 a.ip)
  c4 : w.cell? ⟨g, 4, none⟩ = some (.int .u16 a.port)
theorem Rb.of {g : Nat} {a : Rec} {w : World} (h : Cs g (rcs a) w) : Rb g a w := ⟨h.cell 0 _ rfl, h.cell 1 _ rfl, h.cell 2 _ rfl, h.cell 3 _ rfl, h.cell 4 _ rfl⟩
theorem isState_any (st : Int) (w : World) : Calls Tryd.prog 49 #[.int .i64 st] w fun e w' => e = .returned (.bool (stI st)) ∧ w = w' := by
  unfold stI
  by_cases h : 0 ≤ st
  · go_enter Tryd.func49, Tryd.ntmps49
    go_wp2
    go_ret
    exact ⟨bool_ret (by first | (simp [h]; done) | (simp; intros; omega)), rfl⟩
  · go_enter Tryd.func49, Tryd.ntmps49
    go_wp2
    go_ret
    exact ⟨bool_ret (by first | (simp [h]; done) | (simp; intros; omega)), rfl⟩
theorem right_any (id st : Int) (n ip port : Nat) (h1 : ip < 4294967296) (h2 : port < 65536) (w : World) :
    Calls Tryd.prog 42 #[.agg #[.int .i64 id, .int .i64 st, .int .u32 n, .int .u32 ip, .int .u16 port]] w fun e w' => e = .returned (.bool (rightI id st ip port)) ∧ Below w.heap.size w w' := by
  unfold rightI
  by_cases c1 : 1 ≤ id
  · by_cases c2 : id ≤ 32
    · have i1 := isState_any st
      by_cases c3 : stI st = true
      · rw [c3] at i1 ⊢
        have i2 := none_any ip port h1 h2
        generalize noneI ip port = N at *
        go_enter Tryd.func42, Tryd.ntmps42
        go_wp2_with fail
        refine (i1 _).mono ?_; rintro e w1 ⟨rfl, rfl⟩
        go_wp2_with fail
        refine (i2 _).mono ?_; rintro e w1 ⟨rfl, b1⟩
        go_wp2
        go_ret
        exact ⟨bool_ret (by first | (simp [c1, c2]; done) | (simp; intros; omega)), by (have zz0 := Below.size b1; (try simp at zz0); repeat (first | with_reducible exact Below.refl _ _ | with_reducible refine Below.drew ?_ | with_reducible refine below_drewN ?_ _ | with_reducible refine Below.alloc ?_ (by first | omega | (simp; done) | (simp; omega)) _ | with_reducible refine Below.setCell ?_ (by first | omega | (simp; done) | (simp; omega)) _ | (with_reducible refine Below.trans ?_ (Below.mono b1 (by first | omega | (simp; done) | (simp; omega))))))⟩
      · have c3 : stI st = false := by simpa using c3
        rw [c3] at i1 ⊢
        go_enter Tryd.func42, Tryd.ntmps42
        go_wp2_with fail
        refine (i1 _).mono ?_; rintro e w1 ⟨rfl, rfl⟩
        go_wp2
        go_ret
        exact ⟨bool_ret (by first | (simp [c1, c2]; done) | (simp; intros; omega)), by (repeat (first | with_reducible exact Below.refl _ _ | with_reducible refine Below.drew ?_ | with_reducible refine below_drewN ?_ _ | with_reducible refine Below.alloc ?_ (by first | omega | (simp; done) | (simp; omega)) _ | with_reducible refine Below.setCell ?_ (by first | omega | (simp; done) | (simp; omega)) _))⟩
    · go_enter Tryd.func42, Tryd.ntmps42
      go_wp2
      go_ret
      exact ⟨bool_ret (by first | (simp [c1, c2]; done) | (simp; intros; omega)), by (repeat (first | with_reducible exact Below.refl _ _ | with_reducible refine Below.drew ?_ | with_reducible refine below_drewN ?_ _ | with_reducible refine Below.alloc ?_ (by first | omega | (simp; done) | (simp; omega)) _ | with_reducible refine Below.setCell ?_ (by first | omega | (simp; done) | (simp; omega)) _))⟩
  · go_enter Tryd.func42, Tryd.ntmps42
    go_wp2
    go_ret
    exact ⟨bool_ret (by first | (simp [c1]; done) | (simp; intros; omega)), by (repeat (first | with_reducible exact Below.refl _ _ | with_reducible refine Below.drew ?_ | with_reducible refine below_drewN ?_ _ | with_reducible refine Below.alloc ?_ (by first | omega | (simp; done) | (simp; omega)) _ | with_reducible refine Below.setCell ?_ (by first | omega | (simp; done) | (simp; omega)) _))⟩
end Go.Proofs.YtmhlnlippfaclaaDoor
