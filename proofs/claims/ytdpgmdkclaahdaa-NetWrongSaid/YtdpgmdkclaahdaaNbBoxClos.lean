/- Contracts of the closures that a box hands on, and of the small calls. -/
import Derived.Test.YtdpgmdkclaahdaaNbBoxDel
namespace Go.Proofs.Ytdpgmdkclaahdaa.Nb
open Go.Sort Go.RowKit Go.BigFrame
set_option linter.unusedVariables false
set_option linter.unusedSimpArgs false

def goneP (now : Int) (b : Pb) : Bool := !decide (now < b.un)
def portP (port : Int) (b : Pb) : Bool := decide (b.po = port)
def isP (si sp ki kp : Int) (b : Pb) : Bool := (decide (b.ii = si) && decide (b.ip = sp)) && (decide (b.ki = ki) && decide (b.kp = kp))
theorem enters_in : Enters 66 := fun args w => by kernel_rfl
theorem enters_rebind : Enters 52 := fun args w => by kernel_rfl
theorem enters_out : Enters 59 := fun args w => by kernel_rfl
theorem enters_near : Enters 83 := fun args w => by kernel_rfl
theorem live_any (x : Bd) (now : Int) (w : World) :
    Calls Try.prog 72 #[.agg #[.int .u32 x.1.ii, .int .u16 x.1.ip, .int .u32 x.1.ki, .int .u16 x.1.kp, .int .u16 x.1.po, .slice x.2.a x.2.n x.2.c, .int .u64 x.1.un], .int .u64 now] w fun e w' => e = .returned (.bool (decide (now < x.1.un))) ∧ Below w.heap.size w w' := by
  obtain ⟨⟨r1, r2, r3, r4, r5, r6, r7⟩, ⟨s1, s2, s3⟩⟩ := x
  go_enter Try.func72, Try.ntmps72
  go_wp2
  go_ret
  exact ⟨rfl, by (repeat (first | with_reducible exact Below.refl _ _ | with_reducible refine Below.drew ?_ | with_reducible refine below_drewN ?_ _ | with_reducible refine Below.alloc ?_ (by first | omega | (simp; done) | (simp; omega)) _ | with_reducible refine Below.setCell ?_ (by first | omega | (simp; done) | (simp; omega)) _))⟩
theorem sweepC_any (x : Bd) (now : Int) (g : Nat) (w : World) (h0 : Cs g [.int .u64 now] w) :
    Calls Try.prog 71 #[.agg #[.int .u32 x.1.ii, .int .u16 x.1.ip, .int .u32 x.1.ki, .int .u16 x.1.kp, .int .u16 x.1.po, .slice x.2.a x.2.n x.2.c, .int .u64 x.1.un], .pointer (some ⟨g, 0, none⟩)] w fun e w' => e = .returned (.bool (goneP now x.1)) ∧ Below w.heap.size w w' := by
  have K := live_any x now
  unfold goneP
  obtain ⟨⟨r1, r2, r3, r4, r5, r6, r7⟩, ⟨s1, s2, s3⟩⟩ := x
  simp only at K
  simp only
  have x0 := h0.cell 0 _ rfl
  have gl := h0.lt
  clear h0
  generalize decide (now < r6) = q at *
  go_enter Try.func71, Try.ntmps71
  go_wp2_with fail
  refine (K _).mono ?_; rintro e w1 ⟨rfl, b1⟩
  go_wp2
  go_ret
  exact ⟨rfl, by (have zz0 := Below.size b1; (try simp at zz0); repeat (first | with_reducible exact Below.refl _ _ | with_reducible refine Below.drew ?_ | with_reducible refine below_drewN ?_ _ | with_reducible refine Below.alloc ?_ (by first | omega | (simp; done) | (simp; omega)) _ | with_reducible refine Below.setCell ?_ (by first | omega | (simp; done) | (simp; omega)) _ | (with_reducible refine Below.trans ?_ (Below.mono b1 (by first | omega | (simp; done) | (simp; omega))))))⟩
theorem inC_any (x : Bd) (port : Int) (g : Nat) (w : World) (h0 : Cs g [.int .u16 port] w) :
    Calls Try.prog 66 #[.agg #[.int .u32 x.1.ii, .int .u16 x.1.ip, .int .u32 x.1.ki, .int .u16 x.1.kp, .int .u16 x.1.po, .slice x.2.a x.2.n x.2.c, .int .u64 x.1.un], .pointer (some ⟨g, 0, none⟩)] w fun e w' => e = .returned (.bool (portP port x.1)) ∧ Below w.heap.size w w' := by
  unfold portP
  obtain ⟨⟨r1, r2, r3, r4, r5, r6, r7⟩, ⟨s1, s2, s3⟩⟩ := x
  simp only
  have x0 := h0.cell 0 _ rfl
  have gl := h0.lt
  clear h0
  go_enter Try.func66, Try.ntmps66
  go_wp2
  go_ret
  exact ⟨bool_ret (by rw [Bool.eq_iff_iff]; simp), by (repeat (first | with_reducible exact Below.refl _ _ | with_reducible refine Below.drew ?_ | with_reducible refine below_drewN ?_ _ | with_reducible refine Below.alloc ?_ (by first | omega | (simp; done) | (simp; omega)) _ | with_reducible refine Below.setCell ?_ (by first | omega | (simp; done) | (simp; omega)) _))⟩
theorem nearC_any (x : Bd) (vs : List Value) (port : Int) (g : Nat) (w : World) (h0 : Cs g vs w) (h1 : vs[4]? = some (.int .u16 port)) :
    Calls Try.prog 83 #[.agg #[.int .u32 x.1.ii, .int .u16 x.1.ip, .int .u32 x.1.ki, .int .u16 x.1.kp, .int .u16 x.1.po, .slice x.2.a x.2.n x.2.c, .int .u64 x.1.un], .pointer (some ⟨g, 0, none⟩)] w fun e w' => e = .returned (.bool (portP port x.1)) ∧ Below w.heap.size w w' := by
  unfold portP
  obtain ⟨⟨r1, r2, r3, r4, r5, r6, r7⟩, ⟨s1, s2, s3⟩⟩ := x
  simp only
  have x0 := h0.cell 4 _ h1
  have gl := h0.lt
  clear h0 h1
  go_enter Try.func83, Try.ntmps83
  go_wp2
  go_ret
  exact ⟨bool_ret (by rw [Bool.eq_iff_iff]; simp), by (repeat (first | with_reducible exact Below.refl _ _ | with_reducible refine Below.drew ?_ | with_reducible refine below_drewN ?_ _ | with_reducible refine Below.alloc ?_ (by first | omega | (simp; done) | (simp; omega)) _ | with_reducible refine Below.setCell ?_ (by first | omega | (simp; done) | (simp; omega)) _))⟩
theorem rebindC_any (x : Bd) (w : World) :
    Calls Try.prog 52 #[.agg #[.int .u32 x.1.ii, .int .u16 x.1.ip, .int .u32 x.1.ki, .int .u16 x.1.kp, .int .u16 x.1.po, .slice x.2.a x.2.n x.2.c, .int .u64 x.1.un]] w fun e w' => e = .returned (.bool true) ∧ Below w.heap.size w w' := by
  obtain ⟨⟨r1, r2, r3, r4, r5, r6, r7⟩, ⟨s1, s2, s3⟩⟩ := x
  go_enter Try.func52, Try.ntmps52
  go_wp2
  go_ret
  exact ⟨rfl, by (repeat (first | with_reducible exact Below.refl _ _ | with_reducible refine Below.drew ?_ | with_reducible refine below_drewN ?_ _ | with_reducible refine Below.alloc ?_ (by first | omega | (simp; done) | (simp; omega)) _ | with_reducible refine Below.setCell ?_ (by first | omega | (simp; done) | (simp; omega)) _))⟩
set_option maxHeartbeats 1000000 in
theorem outC_any (x : Bd) (si sp ki kp : Int) (g h : Nat) (w : World) (h0 : Cs g [.int .u32 si, .int .u16 sp] w) (h1 : Cs h [.int .u32 ki, .int .u16 kp] w) :
    Calls Try.prog 59 #[.agg #[.int .u32 x.1.ii, .int .u16 x.1.ip, .int .u32 x.1.ki, .int .u16 x.1.kp, .int .u16 x.1.po, .slice x.2.a x.2.n x.2.c, .int .u64 x.1.un], .pointer (some ⟨g, 0, none⟩), .pointer (some ⟨h, 0, none⟩)] w fun e w' => e = .returned (.bool (isP si sp ki kp x.1)) ∧ Below w.heap.size w w' := by
  unfold isP
  obtain ⟨⟨r1, r2, r3, r4, r5, r6, r7⟩, ⟨s1, s2, s3⟩⟩ := x
  simp only
  have x0 := h0.cell 0 _ rfl
  have x1 := h0.cell 1 _ rfl
  have y0 := h1.cell 0 _ rfl
  have y1 := h1.cell 1 _ rfl
  have gl := h0.lt
  have hl := h1.lt
  clear h0 h1
  by_cases q1 : r1 = si
  · by_cases q2 : r2 = sp
    · subst q1 q2
      go_enter Try.func59, Try.ntmps59
      go_wp2
      all_goals
        go_ret
        exact ⟨bool_ret (by simp [*]), by (repeat (first | with_reducible exact Below.refl _ _ | with_reducible refine Below.drew ?_ | with_reducible refine below_drewN ?_ _ | with_reducible refine Below.alloc ?_ (by first | omega | (simp; done) | (simp; omega)) _ | with_reducible refine Below.setCell ?_ (by first | omega | (simp; done) | (simp; omega)) _))⟩
    · subst q1
      go_enter Try.func59, Try.ntmps59
      go_wp2
      go_ret
      exact ⟨bool_ret (by simp [q2]), by (repeat (first | with_reducible exact Below.refl _ _ | with_reducible refine Below.drew ?_ | with_reducible refine below_drewN ?_ _ | with_reducible refine Below.alloc ?_ (by first | omega | (simp; done) | (simp; omega)) _ | with_reducible refine Below.setCell ?_ (by first | omega | (simp; done) | (simp; omega)) _))⟩
  · go_enter Try.func59, Try.ntmps59
    go_wp2
    go_ret
    exact ⟨bool_ret (by simp [q1]), by (repeat (first | with_reducible exact Below.refl _ _ | with_reducible refine Below.drew ?_ | with_reducible refine below_drewN ?_ _ | with_reducible refine Below.alloc ?_ (by first | omega | (simp; done) | (simp; omega)) _ | with_reducible refine Below.setCell ?_ (by first | omega | (simp; done) | (simp; omega)) _))⟩
def noneI (ip port : Int) : Bool := decide (ip = 0) || decide (port = 0)
theorem none_any (ip port : Int) (w : World) : Calls Try.prog 27 #[.agg #[.int .u32 ip, .int .u16 port]] w fun e w' => e = .returned (.bool (noneI ip port)) ∧ Below w.heap.size w w' := by
  unfold noneI
  by_cases h : ip = 0
  · subst h
    go_enter Try.func27, Try.ntmps27
    go_wp2
    go_ret
    exact ⟨rfl, by (repeat (first | with_reducible exact Below.refl _ _ | with_reducible refine Below.drew ?_ | with_reducible refine below_drewN ?_ _ | with_reducible refine Below.alloc ?_ (by first | omega | (simp; done) | (simp; omega)) _ | with_reducible refine Below.setCell ?_ (by first | omega | (simp; done) | (simp; omega)) _))⟩
  · go_enter Try.func27, Try.ntmps27
    go_wp2
    go_ret
    exact ⟨bool_ret (by rw [Bool.eq_iff_iff]; simp [h]), by (repeat (first | with_reducible exact Below.refl _ _ | with_reducible refine Below.drew ?_ | with_reducible refine below_drewN ?_ _ | with_reducible refine Below.alloc ?_ (by first | omega | (simp; done) | (simp; omega)) _ | with_reducible refine Below.setCell ?_ (by first | omega | (simp; done) | (simp; omega)) _))⟩
def cmpI (a b : Int) : Int := if a < b then -1 else if a > b then 1 else 0
set_option maxHeartbeats 1000000 in
theorem nearM_any (x y : Bd) (w : World) :
    Calls Try.prog 81 #[.agg #[.int .u32 x.1.ii, .int .u16 x.1.ip, .int .u32 x.1.ki, .int .u16 x.1.kp, .int .u16 x.1.po, .slice x.2.a x.2.n x.2.c, .int .u64 x.1.un], .agg #[.int .u32 y.1.ii, .int .u16 y.1.ip, .int .u32 y.1.ki, .int .u16 y.1.kp, .int .u16 y.1.po, .slice y.2.a y.2.n y.2.c, .int .u64 y.1.un]] w fun e w' => e = .returned (.int .i64 (cmpI x.1.un y.1.un)) ∧ Below w.heap.size w w' := by
  obtain ⟨⟨r1, r2, r3, r4, r5, r6, r7⟩, ⟨s1, s2, s3⟩⟩ := x
  obtain ⟨⟨t1, t2, t3, t4, t5, t6, t7⟩, ⟨z1, z2, z3⟩⟩ := y
  simp only
  unfold cmpI
  by_cases h1 : r6 < t6
  · rw [if_pos h1]
    go_enter Try.func81, Try.ntmps81
    go_wp2
    go_ret
    exact ⟨rfl, by (repeat (first | with_reducible exact Below.refl _ _ | with_reducible refine Below.drew ?_ | with_reducible refine below_drewN ?_ _ | with_reducible refine Below.alloc ?_ (by first | omega | (simp; done) | (simp; omega)) _ | with_reducible refine Below.setCell ?_ (by first | omega | (simp; done) | (simp; omega)) _))⟩
  · rw [if_neg h1]
    by_cases h2 : r6 > t6
    · rw [if_pos h2]
      go_enter Try.func81, Try.ntmps81
      go_wp2
      go_ret
      exact ⟨rfl, by (repeat (first | with_reducible exact Below.refl _ _ | with_reducible refine Below.drew ?_ | with_reducible refine below_drewN ?_ _ | with_reducible refine Below.alloc ?_ (by first | omega | (simp; done) | (simp; omega)) _ | with_reducible refine Below.setCell ?_ (by first | omega | (simp; done) | (simp; omega)) _))⟩
    · rw [if_neg h2]
      go_enter Try.func81, Try.ntmps81
      go_wp2
      go_ret
      exact ⟨rfl, by (repeat (first | with_reducible exact Below.refl _ _ | with_reducible refine Below.drew ?_ | with_reducible refine below_drewN ?_ _ | with_reducible refine Below.alloc ?_ (by first | omega | (simp; done) | (simp; omega)) _ | with_reducible refine Below.setCell ?_ (by first | omega | (simp; done) | (simp; omega)) _))⟩
end Go.Proofs.Ytdpgmdkclaahdaa.Nb