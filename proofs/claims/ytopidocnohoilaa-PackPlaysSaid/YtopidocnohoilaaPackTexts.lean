/- The statement PackTexts: for every length, number and size: a text of at most 255 bytes is put behind its length and read so; a longer one is none; numbers of a size are the lowest bytes. No conditions. -/
import Derived.Test.YtopidocnohoilaaPackEx
import Derived.ChangeOld
import Derived.ShutString
import Derived.OpenShut
namespace Go.Proofs.Ytopidocnohoilaa
open Go.RowKit Go.ChangeShapes Go.WideShapes Go.ChangeAt
set_option linter.unusedVariables false
set_option linter.unusedSimpArgs false

/-- m zero bytes -/
def zer (m : Nat) : ByteArray := ⟨(List.replicate m 0).toArray⟩
theorem zer_size (m : Nat) : (zer m).size = m := by simp [zer, ByteArray.size]
theorem zer_conv (w : World) (m : Nat) : (convert 40 9 (.slice (some ⟨w.heap.size, 0, none⟩) m m)).run Try.prog (w.alloc (.cells (madeCells #[.int .u8 0] m) 5)) = .ok (.string (zer m)) (w.alloc (.cells (madeCells #[.int .u8 0] m) 5)) := by
  have hr := World.rowIs_made w (.int .u8 0) m 5
  have h := run_convert_bytes_back (P := Try.prog) (w.alloc (.cells (madeCells #[.int .u8 0] m) 5)) 40 9 5 ⟨w.heap.size, 0, none⟩ m (List.replicate m 0) Try.underlying40 Try.underlying5 Try.underlying9 (fun j hj => by
    simp at hj
    have e : ((⟨w.heap.size, 0, none⟩ : Addr).add j) = ⟨w.heap.size, j, none⟩ := by
      by_cases h0 : j = 0
      · subst h0; simp [Addr.add]
      · simp [Addr.add, h0]
    rw [e, hr.cell hj]
    simp)
  rw [List.length_replicate] at h
  exact h
theorem low_bytes (n k : Nat) (hk : k ≤ 8) : (numB n 8).extract (8 - k) 8 = numB n k := by
  apply ba_ext
  rw [Lib.extract_data, numB_data, numB_data, List.take_of_length_le (by rw [List.length_drop, dg_length]; omega)]
  have h := dg_drop n (8 - k) k
  rwa [show 8 - k + k = 8 from by omega] at h

set_option maxRecDepth 100000 in
set_option maxHeartbeats 1600000 in
theorem packTexts_no (z n : Nat) (c : Int) (m q : Nat) (hn : n < 18446744073709551616) (hm : (z : Int) % 600 = (m : Int)) (hq : c % 8 = (q : Int)) (hq7 : q < 8) (h255 : 255 < m) (hz : z ≤ 65535) (hc : 0 ≤ c ∧ c ≤ 255) (w : World) :
    Calls Try.prog 5 #[.int .u16 z, .int .u64 n, .int .u8 c] w fun e w' => e = .returned (.bool true) ∧ Below w.heap.size w w' := by
  obtain ⟨c0, c1⟩ := hc
  have hm6 : m < 600 := by omega
  have hmk := run_make_row' (P := Try.prog) 40 5 (.int .u8 0) 1 Try.underlying40 info_u8 rfl .i64 .i64 m (by omega) (by omega)
  have hzs := zer_size m
  have hcv := fun w => zer_conv w m
  have hs8 := numB_size n 8
  have hsk := numB_size n (1 + q)
  have hlow := low_bytes n (1 + q) (by omega)
  go_enter Try.func5, Try.ntmps5
  go_wp2_with fail
  refine (examples_yes _).mono ?_; rintro e w1 ⟨rfl, b1⟩
  go_wp2_with fail
  refine (txt_no _ (by omega) (by omega) _).mono ?_; rintro e w2 ⟨rfl, b2⟩
  go_wp2_with fail
  refine (num_at _ _ n (1 + q) (by simp) (by simp) (by omega) (by omega) (by omega) _).mono ?_; rintro e w3 ⟨rfl, b3⟩
  go_wp2_with fail
  refine (num_at _ _ n 8 (by simp) (by simp) (by omega) (by omega) (by omega) _).mono ?_; rintro e w4 ⟨rfl, b4⟩
  go_wp2_with fail
  go_ret
  refine ⟨rfl, ?_⟩
  (have zz0 := Below.size b4; (try simp at zz0); have zz1 := Below.size b3; (try simp at zz1); have zz2 := Below.size b2; (try simp at zz2); have zz3 := Below.size b1; (try simp at zz3); repeat (first | exact Below.refl _ _ | refine Below.drew ?_ | refine below_drewN ?_ _ | refine Below.alloc ?_ (by first | omega | (simp; done) | (simp; omega)) _ | refine Below.setCell ?_ (by first | omega | (simp; done) | (simp; omega)) _ | (with_reducible refine Below.trans ?_ (Below.mono b4 (by first | omega | (simp; done) | (simp; omega)))) | (with_reducible refine Below.trans ?_ (Below.mono b3 (by first | omega | (simp; done) | (simp; omega)))) | (with_reducible refine Below.trans ?_ (Below.mono b2 (by first | omega | (simp; done) | (simp; omega)))) | (with_reducible refine Below.trans ?_ (Below.mono b1 (by first | omega | (simp; done) | (simp; omega))))))

set_option maxRecDepth 100000 in
set_option maxHeartbeats 1600000 in
theorem packTexts_yes (z n : Nat) (c : Int) (m q : Nat) (hn : n < 18446744073709551616) (hm : (z : Int) % 600 = (m : Int)) (hq : c % 8 = (q : Int)) (hq7 : q < 8) (h255 : m ≤ 255) (hz : z ≤ 65535) (hc : 0 ≤ c ∧ c ≤ 255) (w : World) :
    Calls Try.prog 5 #[.int .u16 z, .int .u64 n, .int .u8 c] w fun e w' => e = .returned (.bool true) ∧ Below w.heap.size w w' := by
  obtain ⟨c0, c1⟩ := hc
  have hm6 : m < 600 := by omega
  have hmk := run_make_row' (P := Try.prog) 40 5 (.int .u8 0) 1 Try.underlying40 info_u8 rfl .i64 .i64 m (by omega) (by omega)
  have hzs := zer_size m
  have hcv := fun w => zer_conv w m
  have htz := txB_size (zer m)
  have hrt : Hid (rtx (txB (zer m)) false = (zer m, ⟨#[]⟩, false)) := by
    have h := rtx_put (zer m) emp (by rw [zer_size]; omega)
    rw [ba_nil] at h
    exact h
  have hs8 := numB_size n 8
  have hsk := numB_size n (1 + q)
  have hlow := low_bytes n (1 + q) (by omega)
  go_enter Try.func5, Try.ntmps5
  go_wp2_with fail
  refine (examples_yes _).mono ?_; rintro e w1 ⟨rfl, b1⟩
  go_wp2_with fail
  refine (txt_yes _ (by omega) _).mono ?_; rintro e w2 ⟨rfl, b2⟩
  go_wp2_with fail
  refine (num_at _ _ n (1 + q) (by simp) (by simp) (by omega) (by omega) (by omega) _).mono ?_; rintro e w3 ⟨rfl, b3⟩
  go_wp2_with fail
  refine (num_at _ _ n 8 (by simp) (by simp) (by omega) (by omega) (by omega) _).mono ?_; rintro e w4 ⟨rfl, b4⟩
  go_wp2_with fail
  refine (read_any _ _).mono ?_; rintro e w5 ⟨rfl, b5⟩
  go_wp2_with fail
  refine (txr_is hrt (by omega) _).mono ?_; rintro e w6 ⟨rfl, b6⟩
  go_wp2_with fail
  refine (done_emp _ (by rw [ByteArray.toList_eq]) _).mono ?_; rintro e w7 ⟨rfl, b7⟩
  go_wp2_with fail
  go_ret
  refine ⟨rfl, ?_⟩
  (have zz0 := Below.size b7; (try simp at zz0); have zz1 := Below.size b6; (try simp at zz1); have zz2 := Below.size b5; (try simp at zz2); have zz3 := Below.size b4; (try simp at zz3); have zz4 := Below.size b3; (try simp at zz4); have zz5 := Below.size b2; (try simp at zz5); have zz6 := Below.size b1; (try simp at zz6); repeat (first | exact Below.refl _ _ | refine Below.drew ?_ | refine below_drewN ?_ _ | refine Below.alloc ?_ (by first | omega | (simp; done) | (simp; omega)) _ | refine Below.setCell ?_ (by first | omega | (simp; done) | (simp; omega)) _ | (with_reducible refine Below.trans ?_ (Below.mono b7 (by first | omega | (simp; done) | (simp; omega)))) | (with_reducible refine Below.trans ?_ (Below.mono b6 (by first | omega | (simp; done) | (simp; omega)))) | (with_reducible refine Below.trans ?_ (Below.mono b5 (by first | omega | (simp; done) | (simp; omega)))) | (with_reducible refine Below.trans ?_ (Below.mono b4 (by first | omega | (simp; done) | (simp; omega)))) | (with_reducible refine Below.trans ?_ (Below.mono b3 (by first | omega | (simp; done) | (simp; omega)))) | (with_reducible refine Below.trans ?_ (Below.mono b2 (by first | omega | (simp; done) | (simp; omega)))) | (with_reducible refine Below.trans ?_ (Below.mono b1 (by first | omega | (simp; done) | (simp; omega))))))

theorem packTexts_run (z n c : Int) (w : World) (wz : (Lit.int .u16 z).wf = true) (wn : (Lit.int .u64 n).wf = true) (wc : (Lit.int .u8 c).wf = true) :
    Calls Try.prog 5 #[.int .u16 z, .int .u64 n, .int .u8 c] w fun e w' => e = .returned (.bool true) ∧ Below w.heap.size w w' := by
  have hz := bounds_u16 wz
  have hn := bounds_u64 wn
  have hc := bounds_u8 wc
  obtain ⟨Z, rfl⟩ := Int.eq_ofNat_of_zero_le hz.1
  obtain ⟨N, rfl⟩ := Int.eq_ofNat_of_zero_le hn.1
  have hm : (Z : Int) % 600 = ((Z % 600 : Nat) : Int) := by omega
  have hq : c % 8 = (((c % 8).toNat : Nat) : Int) := by omega
  by_cases h : 255 < Z % 600
  · exact packTexts_no Z N c _ _ (by omega) hm hq (by omega) h (by omega) hc w
  · exact packTexts_yes Z N c _ _ (by omega) hm hq (by omega) (by omega) (by omega) hc w

theorem packTexts_own : ownKnob Try.prog.godebug = none := by kernel_rfl
theorem packTexts_laid : laidOutB Try.prog = true := by kernel_rfl
set_option maxRecDepth 100000 in
theorem packTexts_lifted (os : Os) (started : os.Started) (H : Type) (enc : TypeId × Value → H) :
    ReturnsInHanded {} Try.checked os 5 .any (Rows.packTextsSpec.pre6 enc Try.prog Try.f5 Rows.packTextsRow.domain false) (Rows.packTextsSpec.post enc Try.prog Try.f5 false true false false) := by
  refine returnsInHanded_of_change (C := Try.checked) packTexts_own started (by kernel_rfl) Try.func5
    (ChangeSpec.witness6 (enc := enc) (C := Try.checked) false ⟨#[], #[.int .u16 0, .int .u64 0, .int .u8 0], []⟩ 8 (by kernel_rfl) (by kernel_rfl) (by kernel_rfl) (by kernel_rfl)) ?_
  intro W base args ds gs before hval0 hW hcnd _
  have hval : ∀ (j : Nat) t v, Try.f5.params[j]? = some t → args[j]? = some v → Value.okWide Try.prog W .any base t v := hval0
  have hW' := hW
  obtain ⟨p, q, hA0, hV, rfl, hfz, hnd⟩ := hW
  have hA : DataW.TrodAll enc Try.prog W 0 (fun _ => true) true Try.f5.params.toList args.toList ds p := hA0
  rw [Try.params5] at hA hval
  obtain ⟨v0, vs0, d0, ds0, p0, q0, hargs, rfl, rfl, h0, r0⟩ := trodAll_cons hA
  obtain ⟨v1, vs1, d1, ds1, p1, q1, rfl, rfl, rfl, h1, r1⟩ := trodAll_cons r0
  obtain ⟨v2, vs2, d2, ds2, p2, q2, rfl, rfl, rfl, h2, r2⟩ := trodAll_cons r1
  obtain ⟨rfl, rfl, rfl⟩ := trodAll_nil r2
  obtain rfl : args = #[v0, v1, v2] := by cases args; simp_all
  obtain ⟨rfl, rfl⟩ := trodVars_none hV
  obtain ⟨a0, rfl, rfl, rfl, w0⟩ := open_int Try.underlying26 (hval 0 26 v0 rfl rfl) h0
  obtain ⟨a1, rfl, rfl, rfl, w1⟩ := open_int Try.underlying25 (hval 1 25 v1 rfl rfl) h1
  obtain ⟨a2, rfl, rfl, rfl, w2⟩ := open_int Try.underlying5 (hval 2 5 v2 rfl rfl) h2
  clear hA0 hval0
  refine (packTexts_run a0 a1 a2 W w0 w1 w2).mono fun e W' ⟨he, bel⟩ => ?_
  subst he
  exact ⟨_, rfl, _, _, _, [], _, [], hW', trodAll_mk1 (shut_bool Try.underlying4 _), (trodAll_cons_mk (shut_int Try.underlying26 w0) (trodAll_cons_mk (shut_int Try.underlying25 w1) (trodAll_cons_mk (shut_int Try.underlying5 w2) trodAll_mk0))), rfl, bel.frame _, fun h => by cases h⟩
theorem packTexts_over : Rows.packTextsRow.holds Try.pinned (OpenSpec.ofChange Rows.packTextsSpec) :=
  OpenClaim.holds_of_wide 5 Try.f5 rfl rfl rfl rfl rfl rfl rfl ⟨rfl, rfl, rfl, rfl, rfl⟩ rfl rfl rfl rfl rfl (by kernel_rfl) Try.func5 (by kernel_rfl)
    (of_decide_eq_true (by kernel_rfl)) (by unfold Func.isWrapper; first | (rw [if_pos (by decide +kernel)]; kernel_rfl) | (rw [if_neg (by decide +kernel)]; exact ⟨rfl, rfl⟩))
    (fun os started H enc _ => packTexts_lifted os started H enc)
theorem packTexts_holds : Rows.PackTextsSaid := packTexts_over
#print axioms packTexts_holds
end Go.Proofs.Ytopidocnohoilaa
