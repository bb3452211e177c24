/- The statement BagLater: for any time, by how much, and pick: what is delayed comes by so much later, at most 2^62; a pick below 0 delays nothing. No conditions. -/
import Derived.Test.YtnaghagcaiolmaaBagEx
import Derived.ChangeOld
import Derived.ChangeMaps5
import Derived.ShutString
import Derived.OpenShut
import Derived.SizedLaws
namespace Go.Proofs.Ytnaghagcaiolmaa
open Go.Sort Go.RowKit Go.BigFrame Go.ChangeShapes Go.WideShapes Go.ChangeAt
open Go.ChangeMaps (open_string shut_string)
set_option linter.unusedVariables false
set_option linter.unusedSimpArgs false

theorem delay_one {pick b : Int} {x : Pi} (hx : OkI x) (h : 0 ≤ pick) : (pickE 18446744073709551615 pick [x]).2 = 0 ∧ delayL pick b [x] = [lateI b x] := by
  have e : pickE 18446744073709551615 pick [x] = (0, 0) := by
    rw [pick_ever (fun y hy => by obtain rfl := List.mem_singleton.1 hy; exact hx), if_neg (by omega), if_neg (by simp)]
    simp [Nat.mod_one]
  exact ⟨by rw [e], by unfold delayL; rw [e]; rfl⟩
theorem delay_neg {pick b : Int} {L : List Pi} (h : pick < 0) : (pickE 18446744073709551615 pick L).2 = 1 ∧ delayL pick b L = L := by
  have e : pickE 18446744073709551615 pick L = (0, 1) := if_pos h
  exact ⟨by rw [e], by unfold delayL; rw [e]; rfl⟩
def ltX (q : Int) : Pi := ⟨1, 1, 2, 2, ⟨#[109]⟩, q⟩
set_option maxHeartbeats 6400000 in
set_option maxRecDepth 100000 in
theorem bagLater_walk (a b p q r : Int) (hq : a.tmod 2305843009213693952 = q) (hr : b.tmod 2305843009213693952 = r) (hq0 : 0 ≤ q) (hq1 : q < 2305843009213693952) (hr0 : 0 ≤ r) (hr1 : r < 2305843009213693952) (hp1 : p ≤ 9223372036854775807) (w : World) :
    Calls Try.prog 8 #[.int .u64 a, .int .u64 b, .int .i64 p] w fun e w' => e = .returned (.bool true) ∧ Below w.heap.size w w' := by
  go_enter Try.func8, Try.ntmps8
  go_wp2_with fail
  refine (examples_yes _).mono ?_; rintro e w1 ⟨rfl, b1⟩
  have hB := Lib.hid b1
  have T := newL (B := w.heap.size) (l := []) (room := 2) (w := w1) b1.size (Cl.nil w1) (by omega) (by omega)
  clear b1
  go_wp2_with fail
  refine T.mono ?_; rintro e w2 ⟨g, rfl, h2, b2⟩
  replace hB := Lib.hid ((hB.out.trans (b2.mono hB.out.size)).alloc (hB.out.trans (b2.mono hB.out.size)).size (.cells #[.int .u32 1, .int .u16 1, .int .u32 2, .int .u16 2, .string ⟨#[109]⟩, .int .u64 q] 37))
  have h3 := h2.alloc [.int .u32 1, .int .u16 1, .int .u32 2, .int .u16 2, .string ⟨#[109]⟩, .int .u64 q] 37
  have T := h3.put 1 1 2 2 ⟨#[109]⟩ q hq0 (by omega) (by decide) (e := 0) (L' := [ltX q]) rfl rfl
  clear b2 h2 h3
  go_wp2_with fail
  refine T.mono ?_; rintro e w3 ⟨rfl, h3, b3⟩
  replace hB := Lib.hid (hB.out.trans b3)
  have hok := h3.ok (ltX q) (by simp)
  by_cases hp : 0 ≤ p
  · obtain ⟨e1, e2⟩ := delay_one (b := r) hok hp
    have hok2 := hok.late (b := r) ⟨hr0, by omega⟩
    have e3 : lateI r (ltX q) = ltX (q + r) := by show (⟨1, 1, 2, 2, ⟨#[109]⟩, laterP q r⟩ : Pi) = _; unfold laterP ltX; rw [if_neg (by omega)]
    rw [e3] at e2 hok2
    obtain ⟨f1, f2⟩ := delay_one (pick := 0) (b := 9223372036854775808) hok2 (by omega)
    have f3 : lateI 9223372036854775808 (ltX (q + r)) = ltX 4611686018427387904 := by show (⟨1, 1, 2, 2, ⟨#[109]⟩, laterP (q + r) 9223372036854775808⟩ : Pi) = _; unfold laterP ltX; rw [if_pos (by omega)]
    rw [f3] at f2
    have hpd : decide (0 ≤ p) = true := decide_eq_true hp
    have T := h3.delay p r hp1 ⟨hr0, by omega⟩ e1 e2
    have F1 := Lib.hid f1
    have F2 := Lib.hid f2
    clear b3 h3 hok hok2 e1 e2 e3 f1 f2 f3
    go_wp2_with fail
    refine T.mono ?_; rintro e w4 ⟨rfl, h4, b4⟩
    replace hB := Lib.hid (hB.out.trans b4)
    have x5 := h4.hd.cell 5 _ rfl
    have xl := h4.hd.lt
    have T := h4.items
    have H4 := Lib.hid h4
    clear b4 h4
    go_wp2_with fail
    refine T.mono ?_; rintro e w5 ⟨v, rfl, hn, hrd, b5, hc⟩
    obtain ⟨va, vn, vc⟩ := v
    obtain rfl : vn = 1 := hn
    obtain ⟨bv, e0, hlo, hcs⟩ := hc (by simp)
    obtain rfl : va = _ := e0
    replace hB := Lib.hid (hB.out.trans (b5.mono hB.out.size))
    have h5 := H4.out.add b5 hlo hcs
    have T := h5.delay 0 9223372036854775808 (by omega) (by omega) F1.out F2.out
    clear b5 h5 hcs hc hrd hlo x5 xl H4 F1 F2
    go_wp2_with fail
    refine T.mono ?_; rintro e w6 ⟨rfl, h6, b6⟩
    replace hB := Lib.hid (hB.out.trans b6)
    have T := h6.items
    have H6 := Lib.hid h6
    clear b6 h6
    go_wp2_with fail
    refine T.mono ?_; rintro e w7 ⟨v, rfl, hn, hrd, b7, hc⟩
    obtain ⟨va, vn, vc⟩ := v
    obtain rfl : vn = 1 := hn
    obtain ⟨bw, e0, hlo, hcs⟩ := hc (by simp)
    obtain rfl : va = _ := e0
    replace hB := Lib.hid (hB.out.trans (b7.mono hB.out.size))
    have h7 := H6.out.keep b7
    have x4 := h7.hd.cell 4 _ rfl
    have x5 := h7.hd.cell 5 _ rfl
    have xl := h7.hd.lt
    have y5 := hcs.cell 5 _ rfl
    have yl := hcs.lt
    simp only [ltX] at x4 x5 y5
    clear b7 hcs hc hrd hlo H6 h7
    go_wp2_with fail
    go_ret
    exact ⟨rfl, hB.out⟩
  · obtain ⟨e1, e2⟩ := delay_neg (b := r) (L := [ltX q]) (show p < 0 by omega)
    obtain ⟨f1, f2⟩ := delay_one (pick := 0) (b := 9223372036854775808) hok (by omega)
    have f3 : lateI 9223372036854775808 (ltX q) = ltX 4611686018427387904 := by show (⟨1, 1, 2, 2, ⟨#[109]⟩, laterP q 9223372036854775808⟩ : Pi) = _; unfold laterP ltX; rw [if_pos (by omega)]
    rw [f3] at f2
    have hpd : decide (0 ≤ p) = false := decide_eq_false hp
    have T := h3.delay p r hp1 ⟨hr0, by omega⟩ e1 e2
    have F1 := Lib.hid f1
    have F2 := Lib.hid f2
    clear b3 h3 hok e1 e2 f1 f2 f3
    go_wp2_with fail
    refine T.mono ?_; rintro e w4 ⟨rfl, h4, b4⟩
    replace hB := Lib.hid (hB.out.trans b4)
    have x5 := h4.hd.cell 5 _ rfl
    have xl := h4.hd.lt
    have T := h4.items
    have H4 := Lib.hid h4
    clear b4 h4
    go_wp2_with fail
    refine T.mono ?_; rintro e w5 ⟨v, rfl, hn, hrd, b5, hc⟩
    obtain ⟨va, vn, vc⟩ := v
    obtain rfl : vn = 1 := hn
    obtain ⟨bv, e0, hlo, hcs⟩ := hc (by simp)
    obtain rfl : va = _ := e0
    replace hB := Lib.hid (hB.out.trans (b5.mono hB.out.size))
    have h5 := H4.out.add b5 hlo hcs
    have T := h5.delay 0 9223372036854775808 (by omega) (by omega) F1.out F2.out
    clear b5 h5 hcs hc hrd hlo x5 xl H4 F1 F2
    go_wp2_with fail
    refine T.mono ?_; rintro e w6 ⟨rfl, h6, b6⟩
    replace hB := Lib.hid (hB.out.trans b6)
    have T := h6.items
    have H6 := Lib.hid h6
    clear b6 h6
    go_wp2_with fail
    refine T.mono ?_; rintro e w7 ⟨v, rfl, hn, hrd, b7, hc⟩
    obtain ⟨va, vn, vc⟩ := v
    obtain rfl : vn = 1 := hn
    obtain ⟨bw, e0, hlo, hcs⟩ := hc (by simp)
    obtain rfl : va = _ := e0
    replace hB := Lib.hid (hB.out.trans (b7.mono hB.out.size))
    have h7 := H6.out.keep b7
    have x4 := h7.hd.cell 4 _ rfl
    have x5 := h7.hd.cell 5 _ rfl
    have xl := h7.hd.lt
    have y5 := hcs.cell 5 _ rfl
    have yl := hcs.lt
    simp only [ltX] at x4 x5 y5
    clear b7 hcs hc hrd hlo H6 h7
    go_wp2_with fail
    go_ret
    exact ⟨rfl, hB.out⟩
theorem bagLater_run (a b p : Int) (w : World) (wa : (Lit.int .u64 a).wf = true) (wb : (Lit.int .u64 b).wf = true) (wp : (Lit.int .i64 p).wf = true) :
    Calls Try.prog 8 #[.int .u64 a, .int .u64 b, .int .i64 p] w fun e w' => e = .returned (.bool true) ∧ Below w.heap.size w w' := by
  obtain ⟨ha0, ha1⟩ := bounds_u64 wa
  obtain ⟨hb0, hb1⟩ := bounds_u64 wb
  obtain ⟨hp0, hp1⟩ := bounds_i64 wp
  have e1 : a.tmod 2305843009213693952 = a % 2305843009213693952 := tmod_pos _ _ ha0
  have e2 : b.tmod 2305843009213693952 = b % 2305843009213693952 := tmod_pos _ _ hb0
  exact bagLater_walk a b p _ _ e1 e2 (by omega) (by omega) (by omega) (by omega) hp1 w
theorem bagLater_own : ownKnob Try.prog.godebug = none := by kernel_rfl
theorem bagLater_laid : laidOutB Try.prog = true := by kernel_rfl
set_option maxRecDepth 100000 in
theorem bagLater_lifted (os : Os) (started : os.Started) (H : Type) (enc : TypeId × Value → H) :
    ReturnsInHanded {} Try.checked os 8 .any (Rows.bagLaterSpec.pre6 enc Try.prog Try.f8 Rows.bagLaterRow.domain false) (Rows.bagLaterSpec.post enc Try.prog Try.f8 false true false false) := by
  refine returnsInHanded_of_change (C := Try.checked) bagLater_own started (by kernel_rfl) Try.func8
    (ChangeSpec.witness6 (enc := enc) (C := Try.checked) false ⟨#[], #[.int .u64 0, .int .u64 0, .int .i64 0], []⟩ 8 (by kernel_rfl) (by kernel_rfl) (by kernel_rfl) (by kernel_rfl)) ?_
  intro W base args ds gs before hval0 hW hcnd _
  have hval : ∀ (j : Nat) t v, Try.f8.params[j]? = some t → args[j]? = some v → Value.okWide Try.prog W .any base t v := hval0
  have hW' := hW
  obtain ⟨p, q, hA0, hV, rfl, hfz, hnd⟩ := hW
  have hA : DataW.TrodAll enc Try.prog W 0 (fun _ => true) true Try.f8.params.toList args.toList ds p := hA0
  rw [Try.params8] at hA hval
  obtain ⟨v0, vs0, d0, ds0, p0, q0, hargs, rfl, rfl, h0, r0⟩ := trodAll_cons hA
  obtain ⟨v1, vs1, d1, ds1, p1, q1, rfl, rfl, rfl, h1, r1⟩ := trodAll_cons r0
  obtain ⟨v2, vs2, d2, ds2, p2, q2, rfl, rfl, rfl, h2, r2⟩ := trodAll_cons r1
  obtain ⟨rfl, rfl, rfl⟩ := trodAll_nil r2
  obtain rfl : args = #[v0, v1, v2] := by cases args; simp_all
  obtain ⟨rfl, rfl⟩ := trodVars_none hV
  obtain ⟨a0, rfl, rfl, rfl, w0⟩ := open_int Try.underlying35 (hval 0 35 v0 rfl rfl) h0
  obtain ⟨a1, rfl, rfl, rfl, w1⟩ := open_int Try.underlying35 (hval 1 35 v1 rfl rfl) h1
  obtain ⟨a2, rfl, rfl, rfl, w2⟩ := open_int Try.underlying3 (hval 2 3 v2 rfl rfl) h2
  clear hA0 hval0
  refine (bagLater_run a0 a1 a2 W w0 w1 w2).mono fun e W' ⟨he, bel⟩ => ?_
  subst he
  exact ⟨_, rfl, _, _, _, [], _, [], hW', trodAll_mk1 (shut_bool Try.underlying4 _), (trodAll_cons_mk (shut_int Try.underlying35 w0) (trodAll_cons_mk (shut_int Try.underlying35 w1) (trodAll_cons_mk (shut_int Try.underlying3 w2) trodAll_mk0))), rfl, bel.frame _, fun h => by cases h⟩
theorem bagLater_over : Rows.bagLaterRow.holds Try.pinned (OpenSpec.ofChange Rows.bagLaterSpec) :=
  OpenClaim.holds_of_wide 8 Try.f8 rfl rfl rfl rfl rfl rfl rfl ⟨rfl, rfl, rfl, rfl, rfl⟩ rfl rfl rfl rfl rfl (by kernel_rfl) Try.func8 (by kernel_rfl)
    (of_decide_eq_true (by kernel_rfl)) (by unfold Func.isWrapper; first | (rw [if_pos (by decide +kernel)]; kernel_rfl) | (rw [if_neg (by decide +kernel)]; exact ⟨rfl, rfl⟩))
    (fun os started H enc _ => bagLater_lifted os started H enc)
theorem bagLater_holds : Rows.BagLaterSaid := bagLater_over
#print axioms bagLater_holds
end Go.Proofs.Ytnaghagcaiolmaa
