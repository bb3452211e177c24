/- The contract of a field's bytes. -/
import Derived.Test.YtmhlnlippfaclaaDoorWireRight
import Derived.Lib.QuietBelow
import Derived.BigQuiet
namespace Go.Proofs.YtmhlnlippfaclaaDoor
open Go.Sort Go.RowKit Go.BigFrame
set_option linter.unusedVariables false
set_option linter.unusedSimpArgs false

theorem putF_0 (m : Ms) (hr : m.rightF 0 = true) (w : World) : Calls Tryd.prog 13 #[.agg #[.int .i64 (m.k : Nat), .int .i64 m.f, .int .u32 (m.q : Nat), .int .i64 m.n, .int .u32 (m.ip : Nat), .int .u16 (m.port : Nat), .complex .f64 m.re m.im, .bool m.fl, .string m.b, .slice m.a m.rs.length m.cap], .int .i64 0] w fun e w' => e = .returned (.string (m.putF 0)) ∧ Below w.heap.size w w' := by
  have hn : 1 ≤ m.n ∧ m.n ≤ 32 := by
    have h : nodeB m.n = true := hr
    unfold nodeB at h; simp at h; exact h
  have c := IntWalk.u64_in m.n ⟨by omega, by omega⟩
  have N := fun w => num_at m.n (1 : Int) m.n.toNat 1 (by omega) rfl (by omega) (by omega) (by omega) w
  show Calls _ _ _ _ fun e w' => e = .returned (.string (numB m.n.toNat 1)) ∧ _
  generalize numB m.n.toNat 1 = B at *
  clear hr
  go_enter Tryd.func13, Tryd.ntmps13
  go_wp2_with fail
  refine (N _).mono ?_; rintro e w1 ⟨rfl, b1⟩
  go_wp2
  go_ret
  exact ⟨rfl, by (have zz0 := Below.size b1; (try simp at zz0); repeat (first | with_reducible exact Below.refl _ _ | with_reducible refine Below.drew ?_ | with_reducible refine below_drewN ?_ _ | with_reducible refine Below.alloc ?_ (by first | omega | (simp; done) | (simp; omega)) _ | with_reducible refine Below.setCell ?_ (by first | omega | (simp; done) | (simp; omega)) _ | (with_reducible refine Below.trans ?_ (Below.mono b1 (by first | omega | (simp; done) | (simp; omega))))))⟩
theorem putF_1 (m : Ms) (hm : m.Ok) (w : World) : Calls Tryd.prog 13 #[.agg #[.int .i64 (m.k : Nat), .int .i64 m.f, .int .u32 (m.q : Nat), .int .i64 m.n, .int .u32 (m.ip : Nat), .int .u16 (m.port : Nat), .complex .f64 m.re m.im, .bool m.fl, .string m.b, .slice m.a m.rs.length m.cap], .int .i64 1] w fun e w' => e = .returned (.string (m.putF 1)) ∧ Below w.heap.size w w' := by
  have N := fun w => put_any m.ip m.port hm.ip hm.port w
  show Calls _ _ _ _ fun e w' => e = .returned (.string (putB m.ip m.port)) ∧ _
  generalize putB m.ip m.port = B at *
  clear hm
  go_enter Tryd.func13, Tryd.ntmps13
  go_wp2_with fail
  refine (N _).mono ?_; rintro e w1 ⟨rfl, b1⟩
  go_wp2
  go_ret
  exact ⟨rfl, by (have zz0 := Below.size b1; (try simp at zz0); repeat (first | with_reducible exact Below.refl _ _ | with_reducible refine Below.drew ?_ | with_reducible refine below_drewN ?_ _ | with_reducible refine Below.alloc ?_ (by first | omega | (simp; done) | (simp; omega)) _ | with_reducible refine Below.setCell ?_ (by first | omega | (simp; done) | (simp; omega)) _ | (with_reducible refine Below.trans ?_ (Below.mono b1 (by first | omega | (simp; done) | (simp; omega))))))⟩
theorem putF_2 (m : Ms) (hm : m.Ok) (hr : m.rightF 2 = true) (w : World) : Calls Tryd.prog 13 #[.agg #[.int .i64 (m.k : Nat), .int .i64 m.f, .int .u32 (m.q : Nat), .int .i64 m.n, .int .u32 (m.ip : Nat), .int .u16 (m.port : Nat), .complex .f64 m.re m.im, .bool m.fl, .string m.b, .slice m.a m.rs.length m.cap], .int .i64 2] w fun e w' => e = .returned (.string (m.putF 2)) ∧ Below w.heap.size w w' := by
  have hp : m.pr = true := by
    have h : (m.pr && !m.pm) = true := hr
    simp at h; exact h.1
  have N := hm.pl.put hp
  show Calls _ _ _ _ fun e w' => e = .returned (.string m.pb) ∧ _
  generalize m.pb = B at *
  clear hm hr hp
  go_enter Tryd.func13, Tryd.ntmps13
  go_wp2_with fail
  refine (N _).mono ?_; rintro e w1 ⟨rfl, b1⟩
  go_wp2
  go_ret
  exact ⟨rfl, by (have zz0 := Below.size b1; (try simp at zz0); repeat (first | with_reducible exact Below.refl _ _ | with_reducible refine Below.drew ?_ | with_reducible refine below_drewN ?_ _ | with_reducible refine Below.alloc ?_ (by first | omega | (simp; done) | (simp; omega)) _ | with_reducible refine Below.setCell ?_ (by first | omega | (simp; done) | (simp; omega)) _ | (with_reducible refine Below.trans ?_ (Below.mono b1 (by first | omega | (simp; done) | (simp; omega))))))⟩
theorem putF_3 (m : Ms) (w : World) : Calls Tryd.prog 13 #[.agg #[.int .i64 (m.k : Nat), .int .i64 m.f, .int .u32 (m.q : Nat), .int .i64 m.n, .int .u32 (m.ip : Nat), .int .u16 (m.port : Nat), .complex .f64 m.re m.im, .bool m.fl, .string m.b, .slice m.a m.rs.length m.cap], .int .i64 3] w fun e w' => e = .returned (.string (m.putF 3)) ∧ Below w.heap.size w w' := by
  have N0 := fun w => num_at 0 (1 : Int) 0 1 rfl rfl (by omega) (by omega) (by omega) w
  have N1 := fun w => num_at 1 (1 : Int) 1 1 rfl rfl (by omega) (by omega) (by omega) w
  show Calls _ _ _ _ fun e w' => e = .returned (.string (numB (if m.fl then 1 else 0) 1)) ∧ _
  cases hf : m.fl
  · rw [show (if false = true then 1 else 0) = 0 from rfl]
    generalize numB 0 1 = B at *
    clear N1
    go_enter Tryd.func13, Tryd.ntmps13
    go_wp2_with fail
    refine (N0 _).mono ?_; rintro e w1 ⟨rfl, b1⟩
    go_wp2
    go_ret
    exact ⟨rfl, by (have zz0 := Below.size b1; (try simp at zz0); repeat (first | with_reducible exact Below.refl _ _ | with_reducible refine Below.drew ?_ | with_reducible refine below_drewN ?_ _ | with_reducible refine Below.alloc ?_ (by first | omega | (simp; done) | (simp; omega)) _ | with_reducible refine Below.setCell ?_ (by first | omega | (simp; done) | (simp; omega)) _ | (with_reducible refine Below.trans ?_ (Below.mono b1 (by first | omega | (simp; done) | (simp; omega))))))⟩
  · rw [show (if true = true then 1 else 0) = 1 from rfl]
    generalize numB 1 1 = B at *
    clear N0
    go_enter Tryd.func13, Tryd.ntmps13
    go_wp2_with fail
    refine (N1 _).mono ?_; rintro e w1 ⟨rfl, b1⟩
    go_wp2
    go_ret
    exact ⟨rfl, by (have zz0 := Below.size b1; (try simp at zz0); repeat (first | with_reducible exact Below.refl _ _ | with_reducible refine Below.drew ?_ | with_reducible refine below_drewN ?_ _ | with_reducible refine Below.alloc ?_ (by first | omega | (simp; done) | (simp; omega)) _ | with_reducible refine Below.setCell ?_ (by first | omega | (simp; done) | (simp; omega)) _ | (with_reducible refine Below.trans ?_ (Below.mono b1 (by first | omega | (simp; done) | (simp; omega))))))⟩
theorem putF_5 (m : Ms) (hm : m.Ok) (hr : m.rightF 5 = true) (w : World) (ha : m.At w) : Calls Tryd.prog 13 #[.agg #[.int .i64 (m.k : Nat), .int .i64 m.f, .int .u32 (m.q : Nat), .int .i64 m.n, .int .u32 (m.ip : Nat), .int .u16 (m.port : Nat), .complex .f64 m.re m.im, .bool m.fl, .string m.b, .slice m.a m.rs.length m.cap], .int .i64 5] w fun e w' => e = .returned (.string (m.putF 5)) ∧ Below w.heap.size w w' := by
  have h : (decide (m.rs.length ≤ mostN m.k) && m.rs.all Rec.right) = true := hr
  rw [Bool.and_eq_true] at h
  have hl : m.rs.length ≤ 200 := by
    have h1 := of_decide_eq_true h.1
    unfold mostN at h1; split at h1 <;> omega
  have N := fun w h2 => putNews_any m.a m.cap m.rs hm.rs h.2 hl w h2
  show Calls _ _ _ _ fun e w' => e = .returned (.string (numB m.rs.length 1 ++ newsP m.rs)) ∧ _
  generalize numB m.rs.length 1 ++ newsP m.rs = B at *
  clear hm hr h hl
  go_enter Tryd.func13, Tryd.ntmps13
  have HA : Hid (m.At (w.alloc (.cells #[.int .i64 (m.k : Nat), .int .i64 m.f, .int .u32 (m.q : Nat), .int .i64 m.n, .int .u32 (m.ip : Nat), .int .u16 (m.port : Nat), .complex .f64 m.re m.im, .bool m.fl, .string m.b, .slice m.a m.rs.length m.cap] 35))) := ha.keep (by (repeat (first | with_reducible exact Below.refl _ _ | with_reducible refine Below.drew ?_ | with_reducible refine below_drewN ?_ _ | with_reducible refine Below.alloc ?_ (by first | omega | (simp; done) | (simp; omega)) _ | with_reducible refine Below.setCell ?_ (by first | omega | (simp; done) | (simp; omega)) _)))
  clear ha
  go_wp2_with fail
  refine (N _ HA.out.rd).mono ?_; rintro e w1 ⟨rfl, b1⟩
  go_wp2
  go_ret
  exact ⟨rfl, by (have zz0 := Below.size b1; (try simp at zz0); repeat (first | with_reducible exact Below.refl _ _ | with_reducible refine Below.drew ?_ | with_reducible refine below_drewN ?_ _ | with_reducible refine Below.alloc ?_ (by first | omega | (simp; done) | (simp; omega)) _ | with_reducible refine Below.setCell ?_ (by first | omega | (simp; done) | (simp; omega)) _ | (with_reducible refine Below.trans ?_ (Below.mono b1 (by first | omega | (simp; done) | (simp; omega))))))⟩
set_option maxHeartbeats 800000 in
theorem putF_4 (m : Ms) (hr : m.rightF 4 = true) (w : World) : Calls Tryd.prog 13 #[.agg #[.int .i64 (m.k : Nat), .int .i64 m.f, .int .u32 (m.q : Nat), .int .i64 m.n, .int .u32 (m.ip : Nat), .int .u16 (m.port : Nat), .complex .f64 m.re m.im, .bool m.fl, .string m.b, .slice m.a m.rs.length m.cap], .int .i64 4] w fun e w' => e = .returned (.string (m.putF 4)) ∧ Below w.heap.size w w' := by
  have hb : m.b.size ≤ 900 := by
    have h : (decide (1 ≤ m.b.size) && decide (m.b.size ≤ 900)) = true := hr
    rw [Bool.and_eq_true] at h
    exact of_decide_eq_true h.2
  have c := IntWalk.u64_in (m.b.size : Int) ⟨by omega, by omega⟩
  have N := Lib.hid (fun w => num_at (m.b.size : Int) (2 : Int) m.b.size 2 rfl rfl (by omega) (by omega) (by omega) w)
  have z := numB_size m.b.size 2
  show Calls _ _ _ _ fun e w' => e = .returned (.string (numB m.b.size 2 ++ m.b)) ∧ _
  have HP : Hid (numB m.b.size 2 ++ m.b = numB m.b.size 2 ++ m.b) := rfl
  generalize hS : numB m.b.size 2 ++ m.b = S at *
  generalize numB m.b.size 2 = B at *
  clear hr
  go_enter Tryd.func13, Tryd.ntmps13
  have X : Hid (Cs w.heap.size m.list (w.alloc (.cells #[.int .i64 (m.k : Nat), .int .i64 m.f, .int .u32 (m.q : Nat), .int .i64 m.n, .int .u32 (m.ip : Nat), .int .u16 (m.port : Nat), .complex .f64 m.re m.im, .bool m.fl, .string m.b, .slice m.a m.rs.length m.cap] 35))) := Cs.new w m.list 35
  have hB : Hid (Below w.heap.size w (w.alloc (.cells #[.int .i64 (m.k : Nat), .int .i64 m.f, .int .u32 (m.q : Nat), .int .i64 m.n, .int .u32 (m.ip : Nat), .int .u16 (m.port : Nat), .complex .f64 m.re m.im, .bool m.fl, .string m.b, .slice m.a m.rs.length m.cap] 35))) := by show Below _ _ _; (repeat (first | with_reducible exact Below.refl _ _ | with_reducible refine Below.drew ?_ | with_reducible refine below_drewN ?_ _ | with_reducible refine Below.alloc ?_ (by first | omega | (simp; done) | (simp; omega)) _ | with_reducible refine Below.setCell ?_ (by first | omega | (simp; done) | (simp; omega)) _))
  go_upto_region 14 with fail
  generalize (w.alloc (.cells #[.int .i64 (m.k : Nat), .int .i64 m.f, .int .u32 (m.q : Nat), .int .i64 m.n, .int .u32 (m.ip : Nat), .int .u16 (m.port : Nat), .complex .f64 m.re m.im, .bool m.fl, .string m.b, .slice m.a m.rs.length m.cap] 35)) = w0 at *
  have x8 := cell_regrown (X.out.cell 8 (.string m.b) rfl)
  have C := fun d os => Calls.regrown_of (N.out (grow (redrawn w0 d) os))
  clear X
  (refine wp_region_quiet_below (by kernel_rfl) (by kernel_rfl) ?_; (repeat (go_big_quiet_step (first | with_reducible exact C _ _))); refine wpQuiet_nil ?_; intro _ hw'; obtain ⟨⟨dq, osq⟩, hw''⟩ := hw'; subst hw'')
  go_wp2
  go_ret
  exact ⟨by rw [← hS]; rfl, hB.out.trans ((below_regrown w0 dq osq).mono hB.out.size)⟩
theorem putF_any (m : Ms) (hm : m.Ok) (j : Nat) (hj : j < 6) (hr : m.rightF j = true) (w : World) (ha : m.At w) : Calls Tryd.prog 13 #[.agg #[.int .i64 (m.k : Nat), .int .i64 m.f, .int .u32 (m.q : Nat), .int .i64 m.n, .int .u32 (m.ip : Nat), .int .u16 (m.port : Nat), .complex .f64 m.re m.im, .bool m.fl, .string m.b, .slice m.a m.rs.length m.cap], .int .i64 j] w fun e w' => e = .returned (.string (m.putF j)) ∧ Below w.heap.size w w' := by
  have h6 : j = 0 ∨ j = 1 ∨ j = 2 ∨ j = 3 ∨ j = 4 ∨ j = 5 := by omega
  rcases h6 with rfl | rfl | rfl | rfl | rfl | rfl
  · exact putF_0 m hr w
  · exact putF_1 m hm w
  · exact putF_2 m hm hr w
  · exact putF_3 m w
  · exact putF_4 m hr w
  · exact putF_5 m hm hr w ha
end Go.Proofs.YtmhlnlippfaclaaDoor
