/- The table of the states' words; contracts of Word, both programs. -/
import Derived.Test.YtnmnokmbnjdfoaaDoorRecRGet
namespace Go.Proofs.YtnmnokmbnjdfoaaDoor
open Go.RowKit
set_option linter.unusedVariables false
set_option linter.unusedSimpArgs false

def wAlive : ByteArray := ⟨#[97, 108, 105, 118, 101]⟩
def wSuspect : ByteArray := ⟨#[115, 117, 115, 112, 101, 99, 116]⟩
def wDead : ByteArray := ⟨#[100, 101, 97, 100]⟩
def wLeft : ByteArray := ⟨#[108, 101, 102, 116]⟩
def wordB (st : Int) : ByteArray := if st = 0 then wAlive else if st = 1 then wSuspect else if st = 2 then wDead else if st = 3 then wLeft else ⟨#[]⟩
/-- the table holds the four words -/
structure Tab (w : World) : Prop where
  c0 : w.cell? ⟨0, 0, none⟩ = some (.string wAlive)
  c1 : w.cell? ⟨0, 1, none⟩ = some (.string wSuspect)
  c2 : w.cell? ⟨0, 2, none⟩ = some (.string wDead)
  c3 : w.cell? ⟨0, 3, none⟩ = some (.string wLeft)
theorem Tab.lt {w : World} (h : Tab w) : 0 < w.heap.size := World.block_lt_of_cell? _ _ h.c0
theorem Tab.below {w w' : World} (h : Tab w) (hb : Below w.heap.size w w') : Tab w' :=
  ⟨(hb.cell (p := ⟨0, 0, none⟩) h.lt).trans h.c0, (hb.cell (p := ⟨0, 1, none⟩) h.lt).trans h.c1, (hb.cell (p := ⟨0, 2, none⟩) h.lt).trans h.c2, (hb.cell (p := ⟨0, 3, none⟩) h.lt).trans h.c3⟩

theorem word_any (st : Int) (w : World) (ht : Tab w) : Calls Tryd.prog 24 #[.int .i64 st] w fun e w' => e = .returned (.string (wordB st)) ∧ w = w' := by
  have I := Lib.hid (isState_any st)
  by_cases h : 0 ≤ st ∧ st ≤ 3
  · have hs : stI st = true := by simp [stI, h]
    rw [hs] at I
    obtain ⟨t0, t1, t2, t3⟩ := ht
    have h4 : st = 0 ∨ st = 1 ∨ st = 2 ∨ st = 3 := by omega
    clear h hs
    rcases h4 with rfl | rfl | rfl | rfl
    · show Calls _ _ _ _ fun e w' => e = .returned (.string wAlive) ∧ w = w'
      generalize wAlive = B at *
      go_enter Tryd.func24, Tryd.ntmps24
      go_wp2_with fail
      refine (I.out _).mono ?_; rintro e w1 ⟨rfl, rfl⟩
      go_wp2
      go_ret
      exact ⟨rfl, rfl⟩
    · show Calls _ _ _ _ fun e w' => e = .returned (.string wSuspect) ∧ w = w'
      generalize wSuspect = B at *
      go_enter Tryd.func24, Tryd.ntmps24
      go_wp2_with fail
      refine (I.out _).mono ?_; rintro e w1 ⟨rfl, rfl⟩
      go_wp2
      go_ret
      exact ⟨rfl, rfl⟩
    · show Calls _ _ _ _ fun e w' => e = .returned (.string wDead) ∧ w = w'
      generalize wDead = B at *
      go_enter Tryd.func24, Tryd.ntmps24
      go_wp2_with fail
      refine (I.out _).mono ?_; rintro e w1 ⟨rfl, rfl⟩
      go_wp2
      go_ret
      exact ⟨rfl, rfl⟩
    · show Calls _ _ _ _ fun e w' => e = .returned (.string wLeft) ∧ w = w'
      generalize wLeft = B at *
      go_enter Tryd.func24, Tryd.ntmps24
      go_wp2_with fail
      refine (I.out _).mono ?_; rintro e w1 ⟨rfl, rfl⟩
      go_wp2
      go_ret
      exact ⟨rfl, rfl⟩
  · have hs : stI st = false := by simp [stI]; omega
    rw [hs] at I
    have hw : wordB st = ⟨#[]⟩ := by unfold wordB; rw [if_neg (by omega), if_neg (by omega), if_neg (by omega), if_neg (by omega)]
    rw [hw]
    clear hw hs h
    go_enter Tryd.func24, Tryd.ntmps24
    go_wp2_with fail
    refine (I.out _).mono ?_; rintro e w1 ⟨rfl, rfl⟩
    go_wp2
    go_ret
    exact ⟨rfl, rfl⟩
theorem rword_any (st : Int) (w : World) : Calls Tryd.prog 25 #[.int .i64 st] w fun e w' => e = .returned (.string (wordB st)) ∧ Below w.heap.size w w' := by
  by_cases h : 0 ≤ st ∧ st ≤ 3
  · have h4 : st = 0 ∨ st = 1 ∨ st = 2 ∨ st = 3 := by omega
    clear h
    rcases h4 with rfl | rfl | rfl | rfl
    · show Calls _ _ _ _ fun e w' => e = .returned (.string wAlive) ∧ Below w.heap.size w w'
      go_enter Tryd.func25, Tryd.ntmps25
      go_wp2
      go_ret
      exact ⟨rfl, by (repeat (first | with_reducible exact Below.refl _ _ | with_reducible refine Below.drew ?_ | with_reducible refine below_drewN ?_ _ | with_reducible refine Below.alloc ?_ (by first | omega | (simp; done) | (simp; omega)) _ | with_reducible refine Below.setCell ?_ (by first | omega | (simp; done) | (simp; omega)) _))⟩
    · show Calls _ _ _ _ fun e w' => e = .returned (.string wSuspect) ∧ Below w.heap.size w w'
      go_enter Tryd.func25, Tryd.ntmps25
      go_wp2
      go_ret
      exact ⟨rfl, by (repeat (first | with_reducible exact Below.refl _ _ | with_reducible refine Below.drew ?_ | with_reducible refine below_drewN ?_ _ | with_reducible refine Below.alloc ?_ (by first | omega | (simp; done) | (simp; omega)) _ | with_reducible refine Below.setCell ?_ (by first | omega | (simp; done) | (simp; omega)) _))⟩
    · show Calls _ _ _ _ fun e w' => e = .returned (.string wDead) ∧ Below w.heap.size w w'
      go_enter Tryd.func25, Tryd.ntmps25
      go_wp2
      go_ret
      exact ⟨rfl, by (repeat (first | with_reducible exact Below.refl _ _ | with_reducible refine Below.drew ?_ | with_reducible refine below_drewN ?_ _ | with_reducible refine Below.alloc ?_ (by first | omega | (simp; done) | (simp; omega)) _ | with_reducible refine Below.setCell ?_ (by first | omega | (simp; done) | (simp; omega)) _))⟩
    · show Calls _ _ _ _ fun e w' => e = .returned (.string wLeft) ∧ Below w.heap.size w w'
      go_enter Tryd.func25, Tryd.ntmps25
      go_wp2
      go_ret
      exact ⟨rfl, by (repeat (first | with_reducible exact Below.refl _ _ | with_reducible refine Below.drew ?_ | with_reducible refine below_drewN ?_ _ | with_reducible refine Below.alloc ?_ (by first | omega | (simp; done) | (simp; omega)) _ | with_reducible refine Below.setCell ?_ (by first | omega | (simp; done) | (simp; omega)) _))⟩
  · have hw : wordB st = ⟨#[]⟩ := by unfold wordB; rw [if_neg (by omega), if_neg (by omega), if_neg (by omega), if_neg (by omega)]
    rw [hw]
    clear hw
    by_cases h1 : st < 0
    · go_enter Tryd.func25, Tryd.ntmps25
      go_wp2
      go_ret
      exact ⟨rfl, by (repeat (first | with_reducible exact Below.refl _ _ | with_reducible refine Below.drew ?_ | with_reducible refine below_drewN ?_ _ | with_reducible refine Below.alloc ?_ (by first | omega | (simp; done) | (simp; omega)) _ | with_reducible refine Below.setCell ?_ (by first | omega | (simp; done) | (simp; omega)) _))⟩
    · have h2 : 3 < st := by omega
      have h3 : 0 ≤ st := by omega
      clear h
      go_enter Tryd.func25, Tryd.ntmps25
      go_wp2
      go_ret
      exact ⟨rfl, by (repeat (first | with_reducible exact Below.refl _ _ | with_reducible refine Below.drew ?_ | with_reducible refine below_drewN ?_ _ | with_reducible refine Below.alloc ?_ (by first | omega | (simp; done) | (simp; omega)) _ | with_reducible refine Below.setCell ?_ (by first | omega | (simp; done) | (simp; omega)) _))⟩
end Go.Proofs.YtnmnokmbnjdfoaaDoor
