/- WheelFull: there is room for just 256 timers; one that is there may be set anew still: whatever number more is set. -/
import Derived.Test.YtmnakbpjbgjnmaaWhEx
import Derived.ChangeOld
import Derived.ChangeMaps5
import Derived.ShutString
import Derived.OpenShut
import Derived.SizedLaws
namespace Go.Proofs.Ytmnakbpjbgjnmaa
open Go.Sort Go.RowKit Go.BigFrame Go.ChangeShapes Go.WideShapes Go.ChangeAt
open Go.ChangeMaps (open_string shut_string)
set_option linter.unusedVariables false
set_option linter.unusedSimpArgs false

def fT (n : Int) (j : Nat) : Tm := ⟨(j : Int) % 16, j, n - j⟩
def fL (n : Int) (m : Nat) : List Tm := (List.range m).map (fT n)
theorem fL_len (n : Int) (m : Nat) : (fL n m).length = m := by simp [fL]
theorem fL_succ (n : Int) (m : Nat) : fL n (m + 1) = fL n m ++ [fT n m] := by simp [fL, List.range_succ]
theorem fL_mem {n : Int} {m : Nat} {x : Tm} (h : x ∈ fL n m) : ∃ j < m, x = fT n j := by
  obtain ⟨j, hj, rfl⟩ := List.mem_map.1 h
  exact ⟨j, List.mem_range.1 hj, rfl⟩
theorem fL_has {n q : Int} {i m : Nat} (h : m ≤ i) : hasT q i (fL n m) = false := by
  cases hh : hasT q i (fL n m) with
  | false => rfl
  | true =>
    obtain ⟨x, hx, he⟩ := List.mem_map.1 (hasT_iff.1 hh)
    obtain ⟨j, hj, rfl⟩ := fL_mem hx
    have := congrArg Prod.snd he
    simp [keyT, fT] at this
    omega
theorem fL_bad {i : Nat} {q : Int} (hq : q = (i : Int) % 16) (h : i < 300) : badT q i = false := by
  have h0 : ¬ q < 0 := by omega
  have h1 : ¬ 15 < q := by omega
  have h2 : ¬ (i : Int) < 0 := by omega
  have h3 : ¬ 1023 < (i : Int) := by omega
  simp [badT, h0, h1, h2, h3]
theorem full_less {n q : Int} {i : Nat} (hq : q = (i : Int) % 16) (h : i < 256) : setE q i (fL n i) = 0 ∧ setL q i (n - i) (fL n i) = fL n (i + 1) := by
  obtain ⟨h1, h2⟩ := set_good (t := n - i) (L := fL n i) (fL_bad hq (by omega)) (fun h3 => by rw [fL_len] at h3; omega)
  refine ⟨h1, ?_⟩
  rw [h2, stopL_none (fL_has (Nat.le_refl _)), fL_succ, fT, hq]
theorem full_more {n q : Int} {i : Nat} (hq : q = (i : Int) % 16) (h : 256 ≤ i) (h2 : i < 300) : setE q i (fL n 256) = 4 ∧ setL q i (n - i) (fL n 256) = fL n 256 :=
  set_full (fL_bad hq h2) (fL_has h) (fL_len n 256)
theorem full_again (n : Int) : setE 3 3 (fL n 256) = 0 ∧ setL 3 3 0 (fL n 256) = stopL 3 3 (fL n 256) ++ [⟨3, 3, 0⟩] ∧ (setL 3 3 0 (fL n 256)).length = 256 := by
  have hh : hasT 3 3 (fL n 256) = true := hasT_iff.2 (List.mem_map.2 ⟨fT n 3, List.mem_map.2 ⟨3, by simp, rfl⟩, rfl⟩)
  obtain ⟨h1, h2⟩ := set_good (t := 0) (L := fL n 256) (show badT 3 3 = false from rfl) (fun h3 => by rw [hh] at h3; simp at h3)
  refine ⟨h1, h2, ?_⟩
  rw [h2, List.length_append, stopL_len hh, fL_len]; rfl
theorem full_head {n : Int} (hn : 256 ≤ n) : (sortT (setL 3 3 0 (fL n 256)))[0]? = some ⟨3, 3, 0⟩ ∧ (sortT (setL 3 3 0 (fL n 256))).length = 256 := by
  obtain ⟨-, h2, h3⟩ := full_again n
  refine ⟨?_, by rw [sortT_len, h3]⟩
  have hm : (⟨3, 3, 0⟩ : Tm) ∈ sortT (setL 3 3 0 (fL n 256)) := sortT_mem.2 (by rw [h2]; simp)
  have hall : ∀ x ∈ sortT (setL 3 3 0 (fL n 256)), x.t ≤ 0 → x = ⟨3, 3, 0⟩ := fun x hx h0 => by
    have hx := sortT_mem.1 hx
    rw [h2] at hx
    rcases List.mem_append.1 hx with hx | hx
    · obtain ⟨j, hj, rfl⟩ := fL_mem ((stopL_sub 3 3 _).subset hx)
      simp [fT] at h0; omega
    · simpa using hx
  have hs := sortT_srt (setL 3 3 0 (fL n 256))
  generalize sortT (setL 3 3 0 (fL n 256)) = D at *
  obtain ⟨y, r, rfl⟩ := cons_of (List.length_pos_of_mem hm)
  have hy : y.t ≤ 0 := srt_ge_head hs _ hm
  rw [hall y (by simp) hy]; rfl
def FullPost (w : World) (e : Ending) (w' : World) : Prop := e = .returned (.bool true) ∧ Below w.heap.size w w'
def FullJ (n : Int) (w0 : World) (g : Nat) (iv : Value) (wr : World) : Prop := ∃ i : Nat, iv = .int .i64 (i : Nat) ∧ (i : Int) ≤ n ∧ St w0 g (fL n (min i 256)) [] wr
set_option maxHeartbeats 6400000 in
theorem full_walk (m : Int) (w : World) (hm : (Lit.int .u8 m).wf = true) :
    Calls Try.prog 5 #[.int .u8 m] w (FullPost w) := by
  have K0 := ex_any w
  obtain ⟨m0, m1⟩ := bounds_u8 hm
  clear hm
  obtain ⟨r, hr⟩ : ∃ r, m % 10 = r := ⟨_, rfl⟩
  have hr2 : m.tmod 10 = r := by rw [tmod_pos _ _ m0]; exact hr
  have hr0 : 0 ≤ r := by omega
  have hr1 : r < 10 := by omega
  obtain ⟨n, hn⟩ : ∃ n, 256 + r = n := ⟨_, rfl⟩
  have hn0 : 256 ≤ n := by omega
  have hn1 : n < 266 := by omega
  go_enter Try.func5, Try.ntmps5
  go_wp2_with fail
  refine K0.mono ?_; rintro e w1 ⟨rfl, b9⟩
  have K := new_s w w1 b9
  clear K0 b9
  go_wp2_with fail
  refine K.mono ?_; rintro e w2 ⟨g, rfl, h⟩
  clear K
  have S0 : Hid (FullJ n w g (.int .i64 0) w2) := ⟨0, rfl, by omega, h⟩
  clear h
  go_wp2_with fail
  go_loopw [6] (fun iv wr => FullJ n w g iv wr) (fun iv _ => 300 - (intOf iv).toNat)
  case atStart => exact S0.out
  case round =>
    obtain ⟨i, rfl, hin, h⟩ := hrel
    clear S0
    have hi0 : (0 : Int) ≤ i := by omega
    by_cases hlt : (i : Int) < n
    · obtain ⟨q, hq⟩ : ∃ q, (i : Int) % 16 = q := ⟨_, rfl⟩
      have hq2 : (i : Int).tmod 16 = q := by rw [tmod_pos _ _ hi0]; exact hq
      have K := set_s h q i (n - i) (by omega) (by omega)
      have hi300 : i < 300 := by omega
      have hd0 : 0 ≤ n - (i : Int) := by omega
      have hd1 : n - (i : Int) ≤ 300 := by omega
      have hq0 : 0 ≤ q := by omega
      have hq1 : q < 16 := by omega
      have HI : Hid (i < 300) := hi300
      have HL : Hid (((i + 1 : Nat) : Int) ≤ n) := by show ((i + 1 : Nat) : Int) ≤ n; omega
      by_cases hf : i < 256
      · have e1 : min i 256 = i := by omega
        have e2 : fL n (min (i + 1) 256) = fL n (i + 1) := by congr 1; omega
        rw [e1, (full_less (n := n) hq.symm hf).1, (full_less (n := n) hq.symm hf).2] at K
        have E2 := Lib.hid e2
        have hfi : (i : Int) < 256 := by omega
        clear h e1 e2
        go_wp2_with fail
        refine K.mono ?_; rintro e w3 ⟨rfl, h⟩
        have H := Lib.hid h
        clear K h
        go_wp2_with fail
        go_roundw
        case rel => exact ⟨i + 1, by go_num, HL.out, by rw [E2.out]; exact H.out⟩
        case measure => have := HI.out; simp [intOf]; omega
      · have e1 : min i 256 = 256 := by omega
        have e2 : fL n (min (i + 1) 256) = fL n 256 := by congr 1; omega
        rw [e1, (full_more (n := n) hq.symm (by omega) hi300).1, (full_more (n := n) hq.symm (by omega) hi300).2] at K
        have E2 := Lib.hid e2
        have hfi : decide ((i : Int) < 256) = false := decide_eq_false (by omega)
        have hfi2 : decide (i < 256) = false := decide_eq_false hf
        clear h e1 e2
        go_wp2_with fail
        refine K.mono ?_; rintro e w3 ⟨rfl, h⟩
        have H := Lib.hid h
        clear K h
        go_wp2_with fail
        go_roundw
        case rel => exact ⟨i + 1, by go_num, HL.out, by rw [E2.out]; exact H.out⟩
        case measure => have := HI.out; simp [intOf]; omega
    · have e1 : min i 256 = 256 := by omega
      rw [e1] at h
      have K := set_s h 3 3 0 (by omega) (by omega)
      rw [(full_again n).1] at K
      obtain ⟨f1, f2⟩ := full_head hn0
      have F3 := (full_again n).2.2
      have F1 := Lib.hid f1
      have hge : decide ((i : Int) < n) = false := decide_eq_false hlt
      clear h e1 f1
      generalize setL 3 3 0 (fL n 256) = L at *
      go_wp2_with fail
      refine K.mono ?_; rintro e w3 ⟨rfl, h⟩
      clear K
      have K := all_s h
      rw [f2] at K
      clear h
      go_wp2_with fail
      refine K.mono ?_; rintro e w4 ⟨u, rfl, h⟩
      clear K
      have K := len_s h
      rw [F3] at K
      obtain ⟨bl, off, hbo, hbl, hcc⟩ := h.rd (r := (u, sortT L)) (by simp) (by show 0 < (sortT L).length; omega)
      have l1 := hcc 0 _ F1.out 1 _ rfl
      have l2 := hcc 0 _ F1.out 2 _ rfl
      simp only [Nat.zero_mul, Nat.add_zero] at l1 l2 hbo
      obtain ⟨ua, un, uc⟩ := u
      simp only at hbo
      subst hbo
      have HB := Lib.hid h.below
      clear h hcc f2 F3
      go_wp2_with fail
      refine K.mono ?_; rintro e w5 ⟨rfl, rfl⟩
      clear K
      go_wp2_with fail
      go_ret
      exact ⟨rfl, HB.out⟩
theorem wheelFull_own : ownKnob Try.prog.godebug = none := by kernel_rfl
theorem wheelFull_laid : laidOutB Try.prog = true := by kernel_rfl
set_option maxRecDepth 100000 in
theorem wheelFull_lifted (os : Os) (started : os.Started) (H : Type) (enc : TypeId × Value → H) :
    ReturnsInHanded {} Try.checked os 5 .any (Rows.wheelFullSpec.pre6 enc Try.prog Try.f5 Rows.wheelFullRow.domain false) (Rows.wheelFullSpec.post enc Try.prog Try.f5 false true false false) := by
  refine returnsInHanded_of_change (C := Try.checked) wheelFull_own started (by kernel_rfl) Try.func5
    (ChangeSpec.witness6 (enc := enc) (C := Try.checked) false ⟨#[], #[.int .u8 0], []⟩ 8 (by kernel_rfl) (by kernel_rfl) (by kernel_rfl) (by kernel_rfl)) ?_
  intro W base args ds gs before hval0 hW hcnd _
  have hval : ∀ (j : Nat) t v, Try.f5.params[j]? = some t → args[j]? = some v → Value.okWide Try.prog W .any base t v := hval0
  have hW' := hW
  obtain ⟨p, q, hA0, hV, rfl, hfz, hnd⟩ := hW
  have hA : DataW.TrodAll enc Try.prog W 0 (fun _ => true) true Try.f5.params.toList args.toList ds p := hA0
  rw [Try.params5] at hA hval
  obtain ⟨v0, vs0, d0, ds0, p0, q0, hargs, rfl, rfl, h0, r0⟩ := trodAll_cons hA
  obtain ⟨rfl, rfl, rfl⟩ := trodAll_nil r0
  obtain rfl : args = #[v0] := by cases args; simp_all
  obtain ⟨rfl, rfl⟩ := trodVars_none hV
  obtain ⟨a0, rfl, rfl, rfl, w0⟩ := open_int Try.underlying5 (hval 0 5 v0 rfl rfl) h0
  clear hA0 hval0
  refine (full_walk a0 W w0).mono fun e W' ⟨he, bel⟩ => ?_
  subst he
  exact ⟨_, rfl, _, _, _, [], _, [], hW', trodAll_mk1 (shut_bool Try.underlying4 _), (trodAll_cons_mk (shut_int Try.underlying5 w0) trodAll_mk0), rfl, bel.frame _, fun h => by cases h⟩
theorem wheelFull_over : Rows.wheelFullRow.holds Try.pinned (OpenSpec.ofChange Rows.wheelFullSpec) :=
  OpenClaim.holds_of_wide 5 Try.f5 rfl rfl rfl rfl rfl rfl rfl ⟨rfl, rfl, rfl, rfl, rfl⟩ rfl rfl rfl rfl rfl (by kernel_rfl) Try.func5 (by kernel_rfl)
    (of_decide_eq_true (by kernel_rfl)) (by unfold Func.isWrapper; first | (rw [if_pos (by decide +kernel)]; kernel_rfl) | (rw [if_neg (by decide +kernel)]; exact ⟨rfl, rfl⟩))
    (fun os started H enc _ => wheelFull_lifted os started H enc)
theorem wheelFull_holds : Rows.WheelFullSaid := wheelFull_over
#print axioms wheelFull_holds
end Go.Proofs.Ytmnakbpjbgjnmaa
