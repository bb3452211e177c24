/- The law's helpers alike and events: two lists that hold the same. -/
import Derived.Test.YtchhbhoikkdmeaaViThings
namespace Go.Proofs.Ytchhbhoikkdmeaa
open Go.Sort Go.RowKit Go.BigFrame
set_option linter.unusedVariables false
set_option linter.unusedSimpArgs false

def AkJ (n : Nat) (w : World) (iv : Value) (wr : World) : Prop := ∃ i : Nat, iv = .int .i64 (i : Nat) ∧ i ≤ n ∧ Below w.heap.size w wr
set_option maxHeartbeats 1600000 in
theorem alike_any (a : Option Addr) (ca : Nat) (b : Option Addr) (cb : Nat) (L : List Rec) (w : World) (ha : RdE rcs 5 w a L) (hb : RdE rcs 5 w b L) (la : L.length ≤ 1000000) :
    Calls Try.prog 19 #[.slice a L.length ca, .slice b L.length cb] w fun e w' => e = .returned (.bool true) ∧ Below w.heap.size w w' := by
  have HA := Lib.hid ha
  have HB := Lib.hid hb
  have la2 : (L.length : Int) ≤ 1000000 := by omega
  clear ha hb
  go_enter Try.func19, Try.ntmps19
  go_wp2_with fail
  go_loopw [5] (fun iv wr => AkJ L.length w iv wr) (fun iv _ => L.length - (intOf iv).toNat)
  case atStart => exact ⟨0, rfl, Nat.zero_le _, Below.refl _ _⟩
  case round =>
    obtain ⟨i, rfl, hi, hw⟩ := hrel
    have hi0 : (0 : Int) ≤ i := by omega
    have HW := Lib.hid hw
    by_cases hlt : i < L.length
    · have hlt' : (i : Int) < L.length := by omega
      have hx : L[i]? = some L[i] := List.getElem?_eq_getElem hlt
      obtain ⟨ba, oa, rfl, hba, hca⟩ := (HA.out.keep hw) (by omega)
      obtain ⟨bb, ob, rfl, hbb, hcb⟩ := (HB.out.keep hw) (by omega)
      generalize L[i] = r at *
      have c0 := hca i _ hx 0 _ rfl
      have c1 := hca i _ hx 1 _ rfl
      have c2 := hca i _ hx 2 _ rfl
      have c3 := hca i _ hx 3 _ rfl
      have c4 := hca i _ hx 4 _ rfl
      have d0 := hcb i _ hx 0 _ rfl
      have d1 := hcb i _ hx 1 _ rfl
      have d2 := hcb i _ hx 2 _ rfl
      have d3 := hcb i _ hx 3 _ rfl
      have d4 := hcb i _ hx 4 _ rfl
      simp only [Nat.add_zero] at c0 d0
      have HI : Hid (i + 1 ≤ L.length) := hlt
      have C := fun d os => Calls.regrown_of (refrec_any r (grow (redrawn wr d) os))
      clear hca hcb hx hw
      go_upto_region 6 with fail
      have k0 := cell_regrown c0
      have k1 := cell_regrown c1
      have k2 := cell_regrown c2
      have k3 := cell_regrown c3
      have k4 := cell_regrown c4
      have l0 := cell_regrown d0
      have l1 := cell_regrown d1
      have l2 := cell_regrown d2
      have l3 := cell_regrown d3
      have l4 := cell_regrown d4
      clear c0 c1 c2 c3 c4 d0 d1 d2 d3 d4
      (refine wp_region_quiet_below (by kernel_rfl) (by kernel_rfl) ?_; (repeat (go_big_quiet_step (first | with_reducible exact C _ _))); refine wpQuiet_nil ?_; intro _ hw'; obtain ⟨⟨dq, osq⟩, hw''⟩ := hw'; subst hw'')
      have HW2 := Lib.hid (HW.out.trans ((below_regrown wr dq osq).mono HW.out.size))
      clear k0 k1 k2 k3 k4 l0 l1 l2 l3 l4 C HW
      go_wp2
      go_roundw
      case rel => exact ⟨i + 1, by go_num, HI.out, HW2.out⟩
      case measure => have := HI.out; simp [intOf]; omega
    · go_wp2_with fail
      go_ret
      exact ⟨rfl, HW.out⟩
set_option maxHeartbeats 1600000 in
theorem sameE_any (a : Option Addr) (ca : Nat) (b : Option Addr) (cb : Nat) (L : List Ev) (w : World) (ha : RdE ce 4 w a L) (hb : RdE ce 4 w b L) (la : L.length ≤ 1000000) :
    Calls Try.prog 24 #[.slice a L.length ca, .slice b L.length cb] w fun e w' => e = .returned (.bool true) ∧ Below w.heap.size w w' := by
  have HA := Lib.hid ha
  have HB := Lib.hid hb
  have la2 : (L.length : Int) ≤ 1000000 := by omega
  clear ha hb
  go_enter Try.func24, Try.ntmps24
  go_wp2_with fail
  go_loopw [5] (fun iv wr => AkJ L.length w iv wr) (fun iv _ => L.length - (intOf iv).toNat)
  case atStart => exact ⟨0, rfl, Nat.zero_le _, Below.refl _ _⟩
  case round =>
    obtain ⟨i, rfl, hi, hw⟩ := hrel
    have hi0 : (0 : Int) ≤ i := by omega
    have HW := Lib.hid hw
    by_cases hlt : i < L.length
    · have hlt' : (i : Int) < L.length := by omega
      have hx : L[i]? = some L[i] := List.getElem?_eq_getElem hlt
      obtain ⟨ba, oa, rfl, hba, hca⟩ := (HA.out.keep hw) (by omega)
      obtain ⟨bb, ob, rfl, hbb, hcb⟩ := (HB.out.keep hw) (by omega)
      generalize L[i] = r at *
      have c0 := hca i _ hx 0 _ rfl
      have c1 := hca i _ hx 1 _ rfl
      have c2 := hca i _ hx 2 _ rfl
      have c3 := hca i _ hx 3 _ rfl
      have d0 := hcb i _ hx 0 _ rfl
      have d1 := hcb i _ hx 1 _ rfl
      have d2 := hcb i _ hx 2 _ rfl
      have d3 := hcb i _ hx 3 _ rfl
      simp only [Nat.add_zero] at c0 d0
      have HI : Hid (i + 1 ≤ L.length) := hlt
      clear hca hcb hx hw
      go_upto_region 6 with fail
      go_quiet (fail)
      have HW2 := Lib.hid (HW.out.trans ((below_drewN (Below.refl wr.heap.size wr) nq).mono HW.out.size))
      clear c0 c1 c2 c3 d0 d1 d2 d3 HW
      go_wp2
      go_roundw
      case rel => exact ⟨i + 1, by go_num, HI.out, HW2.out⟩
      case measure => have := HI.out; simp [intOf]; omega
    · go_wp2_with fail
      go_ret
      exact ⟨rfl, HW.out⟩
end Go.Proofs.Ytchhbhoikkdmeaa
