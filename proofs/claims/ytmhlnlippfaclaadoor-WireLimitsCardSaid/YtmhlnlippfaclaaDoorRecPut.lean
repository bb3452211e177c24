/- Contracts of a record's Put, both programs. -/
import Derived.Test.YtmhlnlippfaclaaDoorRecSmall
import Derived.Lib.QuietBelow
import Derived.BigQuiet
namespace Go.Proofs.YtmhlnlippfaclaaDoor
open Go.Sort Go.RowKit Go.BigFrame
set_option linter.unusedVariables false
set_option linter.unusedSimpArgs false

/-- a record's bytes -/
def putR (a : Rec) : ByteArray := ((numB a.id.toNat 1 ++ numB a.st.toNat 1) ++ numB a.n 4) ++ putB a.ip a.port
theorem putR_size (a : Rec) : (putR a).size = 12 := by simp [putR, numB_size, putB_size]
theorem right_facts {a : Rec} (h : a.right = true) : 1 ≤ a.id ∧ a.id ≤ 32 ∧ 0 ≤ a.st ∧ a.st ≤ 3 ∧ a.ip ≠ 0 ∧ a.port ≠ 0 := by
  unfold Rec.right rightI stI noneI at h
  simp at h
  omega
theorem put_no (a : Rec) (ha : a.Ok) (hr : a.right = false) (w : World) :
    Calls Tryd.prog 32 #[.agg #[.int .i64 a.id, .int .i64 a.st, .int .u32 a.n, .int .u32 a.ip, .int .u16 a.port]] w fun e w' => e = .returned (.tuple #[.string ⟨#[]⟩, .bool false]) ∧ Below w.heap.size w w' := by
  have R := right_any a.id a.st a.n a.ip a.port ha.ip ha.port
  have hr : rightI a.id a.st a.ip a.port = false := hr
  rw [hr] at R
  have HR := Lib.hid R
  clear R ha hr
  go_enter Tryd.func32, Tryd.ntmps32
  go_wp2
  refine wp_scope_fwd 0 rfl ?_
  go_wp2_with fail
  refine (HR.out _).mono ?_; rintro e w1 ⟨rfl, b1⟩
  go_wp2_with fail
  go_step3
  go_wp2
  refine ⟨rfl, ?_⟩
  go_wp2
  rw [Exit.noGoto_ret]
  refine bodyPost_ret (v := .tuple #[.string ⟨#[]⟩, .bool false]) (by simp [results, Tryd.results32, go_sem]) rfl ⟨rfl, ?_⟩
  (have zz0 := Below.size b1; (try simp at zz0); repeat (first | with_reducible exact Below.refl _ _ | with_reducible refine Below.drew ?_ | with_reducible refine below_drewN ?_ _ | with_reducible refine Below.alloc ?_ (by first | omega | (simp; done) | (simp; omega)) _ | with_reducible refine Below.setCell ?_ (by first | omega | (simp; done) | (simp; omega)) _ | (with_reducible refine Below.trans ?_ (Below.mono b1 (by first | omega | (simp; done) | (simp; omega))))))
set_option maxHeartbeats 800000 in
theorem put_yes (a : Rec) (ha : a.Ok) (hr : a.right = true) (w : World) :
    Calls Tryd.prog 32 #[.agg #[.int .i64 a.id, .int .i64 a.st, .int .u32 a.n, .int .u32 a.ip, .int .u16 a.port]] w fun e w' => e = .returned (.tuple #[.string (putR a), .bool true]) ∧ Below w.heap.size w w' := by
  have hf := right_facts hr
  have R := right_any a.id a.st a.n a.ip a.port ha.ip ha.port
  have hr : rightI a.id a.st a.ip a.port = true := hr
  rw [hr] at R
  have HR := Lib.hid R
  clear R hr
  have hn := ha.n
  have N1 := Lib.hid (fun w => num_at (a.id : Int) (1 : Int) a.id.toNat 1 (by omega) rfl (by omega) (by omega) (by omega) w)
  have N2 := Lib.hid (fun w => num_at (a.st : Int) (1 : Int) a.st.toNat 1 (by omega) rfl (by omega) (by omega) (by omega) w)
  have N3 := Lib.hid (fun w => num_at (a.n : Int) (4 : Int) a.n 4 rfl rfl (by omega) (by omega) (by omega) w)
  have N4 := Lib.hid (fun w => put_any a.ip a.port ha.ip ha.port w)
  have w1' := IntWalk.u64_in a.id ⟨by omega, by omega⟩
  have w2' := IntWalk.u64_in a.st ⟨by omega, by omega⟩
  have w3' := IntWalk.u64_in (a.n : Int) ⟨by omega, by omega⟩
  have HP : Hid (putR a = ((numB a.id.toNat 1 ++ numB a.st.toNat 1) ++ numB a.n 4) ++ putB a.ip a.port) := rfl
  have z1 := numB_size a.id.toNat 1
  have z2 := numB_size a.st.toNat 1
  have z3 := numB_size a.n 4
  have z4 := putB_size a.ip a.port
  generalize putR a = S at *
  generalize numB a.id.toNat 1 = p1 at *
  generalize numB a.st.toNat 1 = p2 at *
  generalize numB a.n 4 = p3 at *
  generalize putB a.ip a.port = p4 at *
  clear hf hn ha
  go_enter Tryd.func32, Tryd.ntmps32
  have X0 : Cs w.heap.size (rcs a) (w.alloc (.cells #[.int .i64 a.id, .int .i64 a.st, .int .u32 a.n, .int .u32 a.ip, .int .u16 a.port] 27)) := Cs.new w (rcs a) 27
  have hB : Hid (Below w.heap.size w (w.alloc (.cells #[.int .i64 a.id, .int .i64 a.st, .int .u32 a.n, .int .u32 a.ip, .int .u16 a.port] 27))) := by show Below _ _ _; (repeat (first | with_reducible exact Below.refl _ _ | with_reducible refine Below.drew ?_ | with_reducible refine below_drewN ?_ _ | with_reducible refine Below.alloc ?_ (by first | omega | (simp; done) | (simp; omega)) _ | with_reducible refine Below.setCell ?_ (by first | omega | (simp; done) | (simp; omega)) _))
  have HX := Lib.hid X0
  clear X0
  go_wp2
  refine wp_scope_fwd 0 rfl ?_
  go_wp2_with fail
  refine (HR.out _).mono ?_; rintro e w1 ⟨rfl, b1⟩
  have Y := HX.out.keep b1
  have hB1 : Hid (Below w.heap.size w w1) := hB.out.trans (b1.mono hB.out.size)
  clear HX hB HR b1
  obtain ⟨x0, x1, x2, x3, x4⟩ := Rb.of Y
  clear Y
  go_upto_region 2 with fail
  have x0 := cell_regrown x0
  have x1 := cell_regrown x1
  have x2 := cell_regrown x2
  have x3 := cell_regrown x3
  have x4 := cell_regrown x4
  have C1 := fun d os => Calls.regrown_of (N1.out (grow (redrawn w1 d) os))
  have C2 := fun d os => Calls.regrown_of (N2.out (grow (redrawn w1 d) os))
  have C3 := fun d os => Calls.regrown_of (N3.out (grow (redrawn w1 d) os))
  have C4 := fun d os => Calls.regrown_of (N4.out (grow (redrawn w1 d) os))
  (refine wp_region_quiet_below (by kernel_rfl) (by kernel_rfl) ?_; (repeat (go_big_quiet_step (first | with_reducible exact C1 _ _ | with_reducible exact C2 _ _ | with_reducible exact C3 _ _ | with_reducible exact C4 _ _))); refine wpQuiet_nil ?_; intro _ hw'; obtain ⟨⟨dq, osq⟩, hw''⟩ := hw'; subst hw'')
  go_wp2
  simp only [Exit.jump]
  refine bodyPost_ret (v := .tuple #[.string S, .bool true]) (by rw [HP.out]; simp [results, Tryd.results32, go_sem]) rfl ⟨rfl, ?_⟩
  exact hB1.out.trans ((below_regrown w1 dq osq).mono hB1.out.size)
end Go.Proofs.YtmhlnlippfaclaaDoor
