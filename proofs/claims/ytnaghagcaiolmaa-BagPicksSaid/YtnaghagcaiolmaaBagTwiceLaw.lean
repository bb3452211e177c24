/- The statement BagTwice: for any time, by how much, and whether one is lost: what is made twice comes twice, what is lost never, what is delayed comes no earlier than then. No conditions. -/
import Derived.Test.YtnaghagcaiolmaaBagLater
import Derived.ChangeOld
import Derived.ChangeMaps5
import Derived.ShutString
import Derived.OpenShut
import Derived.SizedLaws
namespace Go.Proofs.Ytnaghagcaiolmaa
open Go.Sort Go.RowKit Go.BigFrame Go.ChangeShapes Go.WideShapes Go.ChangeAt
open Go.ChangeMaps (open_string shut_string)
set_option linter.unusedVariables false
set_option linter.unusedSimpArgs false

theorem rd_no {q t : Int} {l : List Pi} (h : t < q) : readyP t (ltX q :: l) = readyP t l := by
  have e : isR t (ltX q) = false := decide_eq_false (by show ¬ q ≤ t; omega)
  unfold readyP; rw [List.filter_cons, e]; rfl
theorem rd_yes {q t : Int} {l : List Pi} (h : q ≤ t) : readyP t (ltX q :: l) = readyP t l + 1 := by
  have e : isR t (ltX q) = true := decide_eq_true (show q ≤ t from h)
  unfold readyP; rw [List.filter_cons, e]; rfl
theorem rd_nil (t : Int) : readyP t [] = 0 := rfl
theorem ltX_ok {q : Int} (h0 : 0 ≤ q) (h1 : q ≤ 18446744073709551615) : OkI (ltX q) := ⟨h0, h1, rfl, rfl, (by decide : ¬ (⟨#[109]⟩ : ByteArray).size = 0), (by decide : (⟨#[109]⟩ : ByteArray).size ≤ 1024)⟩
theorem two_pick {p q : Int} (hp : 0 ≤ p ∧ p ≤ 65535) (hq : 0 ≤ q ∧ q ≤ 18446744073709551615) (k : Nat) (hk : k < 2) : pickE 18446744073709551615 (k : Nat) [ltX p, ltX q] = (k, 0) := by
  rw [pick_ever (fun y hy => by
    simp only [List.mem_cons, List.not_mem_nil, or_false] at hy
    rcases hy with rfl | rfl
    · exact ltX_ok hp.1 (by omega)
    · exact ltX_ok hq.1 hq.2), if_neg (by omega), if_neg (by simp)]
  simp; omega
set_option maxHeartbeats 6400000 in
set_option maxRecDepth 100000 in
theorem bagTwice_walk (a b : Int) (c : Bool) (ha0 : 0 ≤ a) (ha1 : a ≤ 65535) (hb0 : 0 ≤ b) (hb1 : b ≤ 65535) (w : World) :
    Calls Try.prog 5 #[.int .u16 a, .int .u16 b, .bool c] w fun e w' => e = .returned (.bool true) ∧ Below w.heap.size w w' := by
  have W1 : IntKind.u64.wrap a = a := IntWalk.u64_in _ (by omega)
  have W2 : IntKind.u64.wrap b = b := IntWalk.u64_in _ (by omega)
  go_enter Try.func5, Try.ntmps5
  go_wp2_with fail
  refine (examples_yes _).mono ?_; rintro e w1 ⟨rfl, b1⟩
  have hB := Lib.hid b1
  have T := newL (B := w.heap.size) (l := []) (room := 3) (w := w1) b1.size (Cl.nil w1) (by omega) (by omega)
  clear b1
  go_wp2_with fail
  refine T.mono ?_; rintro e w2 ⟨g, rfl, h2, b2⟩
  replace hB := Lib.hid ((hB.out.trans (b2.mono hB.out.size)).alloc (hB.out.trans (b2.mono hB.out.size)).size (.cells #[.int .u32 1, .int .u16 1, .int .u32 2, .int .u16 2, .string ⟨#[109]⟩, .int .u64 a] 37))
  have h3 := h2.alloc [.int .u32 1, .int .u16 1, .int .u32 2, .int .u16 2, .string ⟨#[109]⟩, .int .u64 a] 37
  have T := h3.put 1 1 2 2 ⟨#[109]⟩ a ha0 (by omega) (by decide) (e := 0) (L' := [ltX a]) rfl rfl
  clear b2 h2 h3
  go_wp2_with fail
  refine T.mono ?_; rintro e w3 ⟨rfl, h3, b3⟩
  replace hB := Lib.hid (hB.out.trans b3)
  have e0 : pickE 18446744073709551615 0 [ltX a] = (0, 0) := by
    rw [pick_ever (fun y hy => by obtain rfl := List.mem_singleton.1 hy; exact ltX_ok ha0 (by omega)), if_neg (by omega), if_neg (by simp)]; rfl
  have T := h3.twice 0 (by omega) (e := 0) (L' := [ltX a, ltX a]) (by unfold twiceE; rw [e0]; rfl) (by unfold twiceL twiceE; rw [e0]; rfl)
  clear b3 h3
  go_wp2_with fail
  refine T.mono ?_; rintro e w4 ⟨rfl, h4, b4⟩
  replace hB := Lib.hid (hB.out.trans b4)
  have e1 := two_pick (p := a) (q := a) ⟨ha0, ha1⟩ ⟨ha0, by omega⟩ 1 (by omega)
  have e2 : lateI b (ltX a) = ltX (a + b) := by show (⟨1, 1, 2, 2, ⟨#[109]⟩, laterP a b⟩ : Pi) = _; unfold laterP ltX; rw [if_neg (by omega)]
  have T := h4.delay 1 b (by omega) ⟨hb0, by omega⟩ (e := 0) (L' := [ltX a, ltX (a + b)]) (by rw [show ((1 : Int)) = ((1 : Nat) : Int) from rfl, e1]) (by unfold delayL; rw [show ((1 : Int)) = ((1 : Nat) : Int) from rfl, e1]; show [ltX a, lateI b (ltX a)] = _; rw [e2])
  clear b4 h4 e1 e2 e0
  go_wp2_with fail
  refine T.mono ?_; rintro e w5 ⟨rfl, h5, b5⟩
  replace hB := Lib.hid (hB.out.trans b5)
  have H5 := Lib.hid h5
  have HT := fun t => H5.out.ready t (n := (readyP t [ltX a, ltX (a + b)] : Int)) rfl
  clear b5 h5 T
  by_cases hz : b = 0
  · have hz1 : (b == 0) = true := by rw [beq_iff_eq]; exact hz
    clear hz
    go_wp2_with fail
    refine (HT _).mono ?_; rintro e w6 ⟨rfl, b6⟩
    have T := trivial
    clear HT
    replace hB := Lib.hid (hB.out.trans (b6.mono hB.out.size))
    have h6 := H5.out.keep b6
    cases c
    · have T1 := h6.ready (a + b) (n := 2) (by rw [rd_yes (by omega), rd_yes (by omega), rd_nil]; rfl)
      have H6 := Lib.hid h6
      clear h6 b6 T
      go_wp2_with fail
      (with_reducible refine T1.mono ?_); rintro e w7 ⟨rfl, b7⟩
      replace hB := Lib.hid (hB.out.trans (b7.mono hB.out.size))
      have T2 := (H6.out.keep b7).lenx (n := 2) rfl
      clear T1 b7
      go_wp2_with fail
      (with_reducible refine T2.mono ?_); rintro e w8 ⟨rfl, rfl⟩
      go_wp2_with fail
      go_ret
      exact ⟨rfl, hB.out⟩
    · have e0 : pickE 18446744073709551615 0 [ltX a, ltX (a + b)] = (0, 0) := two_pick (p := a) (q := a + b) ⟨ha0, ha1⟩ ⟨by omega, by omega⟩ 0 (by omega)
      have T1 := h6.drop 0 (by omega) (x1 := 1) (x2 := 1) (x3 := 2) (x4 := 2) (x5 := ⟨#[109]⟩) (x6 := a) (e := 0) (L' := [ltX (a + b)]) (by unfold takeX; rw [e0]; rfl) (by rw [e0]) (by unfold takeL; rw [e0]; rfl)
      clear h6 b6 T e0
      go_wp2_with fail
      (with_reducible refine T1.mono ?_); rintro e w7 ⟨rfl, h7, b7⟩
      replace hB := Lib.hid ((hB.out.trans b7).alloc (hB.out.trans b7).size (.cells #[.int .u32 1, .int .u16 1, .int .u32 2, .int .u16 2, .string ⟨#[109]⟩, .int .u64 a] 37))
      have x0 := h7.hd.cell 0 _ rfl
      have x1 := h7.hd.cell 1 _ rfl
      have x2 := h7.hd.cell 2 _ rfl
      have x3 := h7.hd.cell 3 _ rfl
      have x4 := h7.hd.cell 4 _ rfl
      have x5 := h7.hd.cell 5 _ rfl
      have xl := h7.hd.lt
      have h8 := h7.keepA (.cells #[.int .u32 1, .int .u16 1, .int .u32 2, .int .u16 2, .string ⟨#[109]⟩, .int .u64 a] 37)
      have T2 := h8.lenx (n := 1) rfl
      have T3 := h8.ready (a + b) (n := 1) (by rw [rd_yes (by omega), rd_nil]; rfl)
      clear T1 b7 h7 h8 H5
      go_wp2_with fail
      (with_reducible refine T2.mono ?_); rintro e w8 ⟨rfl, rfl⟩
      go_wp2_with fail
      (with_reducible refine T3.mono ?_); rintro e w9 ⟨rfl, b9⟩
      replace hB := Lib.hid (hB.out.trans (b9.mono hB.out.size))
      go_wp2_with fail
      go_ret
      exact ⟨rfl, hB.out⟩
  · have hz1 : (b == 0) = false := by rw [beq_eq_false_iff_ne]; exact hz
    have T := H5.out.ready (a + b - 1) (n := 1) (by rw [rd_yes (by omega), rd_no (by omega), rd_nil]; rfl)
    clear HT
    go_wp2_with fail
    (with_reducible refine T.mono ?_); rintro e w6 ⟨rfl, b6⟩
    replace hB := Lib.hid (hB.out.trans (b6.mono hB.out.size))
    have h6 := H5.out.keep b6
    cases c
    · have T1 := h6.ready (a + b) (n := 2) (by rw [rd_yes (by omega), rd_yes (by omega), rd_nil]; rfl)
      have H6 := Lib.hid h6
      clear h6 b6 T
      go_wp2_with fail
      (with_reducible refine T1.mono ?_); rintro e w7 ⟨rfl, b7⟩
      replace hB := Lib.hid (hB.out.trans (b7.mono hB.out.size))
      have T2 := (H6.out.keep b7).lenx (n := 2) rfl
      clear T1 b7
      go_wp2_with fail
      (with_reducible refine T2.mono ?_); rintro e w8 ⟨rfl, rfl⟩
      go_wp2_with fail
      go_ret
      exact ⟨rfl, hB.out⟩
    · have e0 : pickE 18446744073709551615 0 [ltX a, ltX (a + b)] = (0, 0) := two_pick (p := a) (q := a + b) ⟨ha0, ha1⟩ ⟨by omega, by omega⟩ 0 (by omega)
      have T1 := h6.drop 0 (by omega) (x1 := 1) (x2 := 1) (x3 := 2) (x4 := 2) (x5 := ⟨#[109]⟩) (x6 := a) (e := 0) (L' := [ltX (a + b)]) (by unfold takeX; rw [e0]; rfl) (by rw [e0]) (by unfold takeL; rw [e0]; rfl)
      clear h6 b6 T e0
      go_wp2_with fail
      (with_reducible refine T1.mono ?_); rintro e w7 ⟨rfl, h7, b7⟩
      replace hB := Lib.hid ((hB.out.trans b7).alloc (hB.out.trans b7).size (.cells #[.int .u32 1, .int .u16 1, .int .u32 2, .int .u16 2, .string ⟨#[109]⟩, .int .u64 a] 37))
      have x0 := h7.hd.cell 0 _ rfl
      have x1 := h7.hd.cell 1 _ rfl
      have x2 := h7.hd.cell 2 _ rfl
      have x3 := h7.hd.cell 3 _ rfl
      have x4 := h7.hd.cell 4 _ rfl
      have x5 := h7.hd.cell 5 _ rfl
      have xl := h7.hd.lt
      have h8 := h7.keepA (.cells #[.int .u32 1, .int .u16 1, .int .u32 2, .int .u16 2, .string ⟨#[109]⟩, .int .u64 a] 37)
      have T2 := h8.lenx (n := 1) rfl
      have T3 := h8.ready (a + b) (n := 1) (by rw [rd_yes (by omega), rd_nil]; rfl)
      clear T1 b7 h7 h8 H5
      go_wp2_with fail
      (with_reducible refine T2.mono ?_); rintro e w8 ⟨rfl, rfl⟩
      go_wp2_with fail
      (with_reducible refine T3.mono ?_); rintro e w9 ⟨rfl, b9⟩
      replace hB := Lib.hid (hB.out.trans (b9.mono hB.out.size))
      go_wp2_with fail
      go_ret
      exact ⟨rfl, hB.out⟩
theorem bagTwice_run (a b : Int) (c : Bool) (w : World) (wa : (Lit.int .u16 a).wf = true) (wb : (Lit.int .u16 b).wf = true) :
    Calls Try.prog 5 #[.int .u16 a, .int .u16 b, .bool c] w fun e w' => e = .returned (.bool true) ∧ Below w.heap.size w w' := by
  obtain ⟨ha0, ha1⟩ := bounds_u16 wa
  obtain ⟨hb0, hb1⟩ := bounds_u16 wb
  exact bagTwice_walk a b c ha0 ha1 hb0 hb1 w
theorem bagTwice_own : ownKnob Try.prog.godebug = none := by kernel_rfl
theorem bagTwice_laid : laidOutB Try.prog = true := by kernel_rfl
set_option maxRecDepth 100000 in
theorem bagTwice_lifted (os : Os) (started : os.Started) (H : Type) (enc : TypeId × Value → H) :
    ReturnsInHanded {} Try.checked os 5 .any (Rows.bagTwiceSpec.pre6 enc Try.prog Try.f5 Rows.bagTwiceRow.domain false) (Rows.bagTwiceSpec.post enc Try.prog Try.f5 false true false false) := by
  refine returnsInHanded_of_change (C := Try.checked) bagTwice_own started (by kernel_rfl) Try.func5
    (ChangeSpec.witness6 (enc := enc) (C := Try.checked) false ⟨#[], #[.int .u16 0, .int .u16 0, .bool false], []⟩ 8 (by kernel_rfl) (by kernel_rfl) (by kernel_rfl) (by kernel_rfl)) ?_
  intro W base args ds gs before hval0 hW hcnd _
  have hval : ∀ (j : Nat) t v, Try.f5.params[j]? = some t → args[j]? = some v → Value.okWide Try.prog W .any base t v := hval0
  have hW' := hW
  obtain ⟨p, q, hA0, hV, rfl, hfz, hnd⟩ := hW
  have hA : DataW.TrodAll enc Try.prog W 0 (fun _ => true) true Try.f5.params.toList args.toList ds p := hA0
  rw [Try.params5] at hA hval
  obtain ⟨v0, vs0, d0, ds0, p0, q0, hargs, rfl, rfl, h0, r0⟩ := trodAll_cons hA
  obtain ⟨v1, vs1, d1, ds1, p1, q1, rfl, rfl, rfl, h1, r1⟩ := trodAll_cons r0
  obtain ⟨v2, vs2, d2, ds2, p2, q2, rfl, rfl, rfl, h2, r2⟩ := trodAll_cons r1
  obtain ⟨rfl, rfl, rfl⟩ := trodAll_nil r2
  obtain rfl : args = #[v0, v1, v2] := by cases args; simp_all
  obtain ⟨rfl, rfl⟩ := trodVars_none hV
  obtain ⟨a0, rfl, rfl, rfl, w0⟩ := open_int Try.underlying32 (hval 0 32 v0 rfl rfl) h0
  obtain ⟨a1, rfl, rfl, rfl, w1⟩ := open_int Try.underlying32 (hval 1 32 v1 rfl rfl) h1
  obtain ⟨a2, rfl, rfl, rfl⟩ := open_bool Try.underlying4 (hval 2 4 v2 rfl rfl) h2
  clear hA0 hval0
  refine (bagTwice_run a0 a1 a2 W w0 w1).mono fun e W' ⟨he, bel⟩ => ?_
  subst he
  exact ⟨_, rfl, _, _, _, [], _, [], hW', trodAll_mk1 (shut_bool Try.underlying4 _), (trodAll_cons_mk (shut_int Try.underlying32 w0) (trodAll_cons_mk (shut_int Try.underlying32 w1) (trodAll_cons_mk (shut_bool Try.underlying4 _) trodAll_mk0))), rfl, bel.frame _, fun h => by cases h⟩
theorem bagTwice_over : Rows.bagTwiceRow.holds Try.pinned (OpenSpec.ofChange Rows.bagTwiceSpec) :=
  OpenClaim.holds_of_wide 5 Try.f5 rfl rfl rfl rfl rfl rfl rfl ⟨rfl, rfl, rfl, rfl, rfl⟩ rfl rfl rfl rfl rfl (by kernel_rfl) Try.func5 (by kernel_rfl)
    (of_decide_eq_true (by kernel_rfl)) (by unfold Func.isWrapper; first | (rw [if_pos (by decide +kernel)]; kernel_rfl) | (rw [if_neg (by decide +kernel)]; exact ⟨rfl, rfl⟩))
    (fun os started H enc _ => bagTwice_lifted os started H enc)
theorem bagTwice_holds : Rows.BagTwiceSaid := bagTwice_over
#print axioms bagTwice_holds
end Go.Proofs.Ytnaghagcaiolmaa
