/- The statement RecordBack: what was put is got, and what stands behind it; cut anywhere it is none; for every thing (made right), every text behind it and every place to cut. No conditions but the row's own: the table of words lies as the program's text lays it. -/
import Derived.Test.YtnmnokmbnjdfoaaDoorRecordTells
namespace Go.Proofs.YtnmnokmbnjdfoaaDoor
open Go.Sort Go.RowKit Go.BigFrame Go.ChangeShapes Go.WideShapes Go.ChangeAt
open Go.ChangeMaps (open_string shut_string)
set_option linter.unusedVariables false
set_option linter.unusedSimpArgs false

theorem put_right {a : Rec} {S : ByteArray} (h : putR a = S) (ha : a.Ok) (hr : a.right = true) (w : World) :
    Calls Tryd.prog 12 #[.agg #[.int .i64 a.id, .int .i64 a.st, .int .u32 a.n, .int .u32 a.ip, .int .u16 a.port]] w fun e w' => e = .returned (.tuple #[.string S, .bool true]) ∧ Below w.heap.size w w' := by
  rw [← h]; exact put_yes a ha hr w
theorem get_right {a : Rec} {S rest : ByteArray} (h : putR a = S) (ha : a.Ok) (hr : a.right = true) (hs : (S ++ rest).size ≤ 9223372036854775807) (w : World) :
    Calls Tryd.prog 27 #[.string (S ++ rest)] w fun e w' => e = .returned (.tuple #[.agg #[.int .i64 a.id, .int .i64 a.st, .int .u32 a.n, .int .u32 a.ip, .int .u16 a.port], .string rest, .bool true]) ∧ Below w.heap.size w w' := by
  subst h
  obtain ⟨h1, h2, h3⟩ := recB_put a rest ha hr
  have := getrec_yes (putR a ++ rest) h3 (by rw [h1]; exact hr) hs w
  rw [h1, h2] at this
  exact this
theorem right_yes {a : Rec} (ha : a.Ok) (hr : a.right = true) (w : World) :
    Calls Tryd.prog 14 #[.agg #[.int .i64 a.id, .int .i64 a.st, .int .u32 a.n, .int .u32 a.ip, .int .u16 a.port]] w fun e w' => e = .returned (.bool true) ∧ Below w.heap.size w w' := by
  have h := right_any a.id a.st a.n a.ip a.port ha.ip ha.port w
  have hr : rightI a.id a.st a.ip a.port = true := hr
  rw [hr] at h
  exact h

set_option maxRecDepth 100000 in
set_option maxHeartbeats 4000000 in
theorem recordBack_walk (t1 : Rec) (o1 : Bool) (ht1 : t1.Ok) (rest : ByteArray) (cut : Int) (hs : rest.size ≤ 140737488355327) (wc : (Lit.int .u8 cut).wf = true) (w : World) (ht : Tab w) :
    Calls Tryd.prog 7 #[.agg #[.int .i64 t1.id, .int .i64 t1.st, .int .u32 t1.n, .int .u32 t1.ip, .int .u16 t1.port, .bool o1], .string rest, .int .u8 cut] w fun e w' => e = .returned (.bool true) ∧ Below w.heap.size w w' := by
  obtain ⟨a, ha, hr, TA⟩ := thing_any t1 true ht1
  have hr := hr rfl
  have bc := bounds_u8 wc
  obtain ⟨cut, rfl⟩ := Int.eq_ofNat_of_zero_le bc.1
  obtain ⟨S, hS⟩ : ∃ S, putR a = S := ⟨_, rfl⟩
  have hz := putR_size a
  rw [hS] at hz
  have hne : S.toList.isEmpty = false := by
    rw [ByteArray.toList_eq]
    cases h : S.data.toList with
    | nil => have := ba_len S; rw [h, hz] at this; simp at this
    | cons c l => rfl
  obtain ⟨k, hk⟩ : ∃ k, cut % 12 = k := ⟨_, rfl⟩
  have k12 : k < 12 := by omega
  have k1 : (cut : Int) % 12 = (k : Int) := by omega
  have k2 : (cut : Int).tmod 12 = (k : Int) := by rw [tmod_pos _ _ (by omega)]; exact k1
  have k3 : (0 : Int) ≤ k := by omega
  have k4 : (k : Int) ≤ 12 := by omega
  have c1 := IntWalk.i64_in (cut : Int) ⟨by omega, by omega⟩
  have hsr : (S ++ rest).size ≤ 9223372036854775807 := by rw [ByteArray.size_append]; omega
  have hsh : (S.extract 0 k).size < 12 := by
    have h := Lib.extract_data S 0 k
    have h2 := congrArg List.length h
    rw [ba_len, List.length_take, List.length_drop] at h2
    omega
  have P1 := Lib.hid (put_right hS ha hr)
  have G1 := Lib.hid (get_right (rest := rest) hS ha hr hsr)
  have G2 := Lib.hid (getrec_short (S.extract 0 k) hsh)
  have R1 := Lib.hid (right_yes ha hr)
  have TA := Lib.hid TA
  have HT := Lib.hid ht
  clear ht ht1 hk hsh ha hr hS wc bc
  go_enter Tryd.func7, Tryd.ntmps7
  have X := Lib.hid (Cs.new w (tcs t1 o1) 29)
  have hB : Hid (Below w.heap.size w (w.alloc (.cells (tcs t1 o1).toArray 29))) := by show Below _ _ _; (repeat (first | with_reducible exact Below.refl _ _ | with_reducible refine Below.drew ?_ | with_reducible refine below_drewN ?_ _ | with_reducible refine Below.alloc ?_ (by first | omega | (simp; done) | (simp; omega)) _ | with_reducible refine Below.setCell ?_ (by first | omega | (simp; done) | (simp; omega)) _))
  go_wp2_with fail
  refine (examples_yes _ (HT.out.below hB.out)).mono ?_; rintro e w1 ⟨rfl, d⟩
  replace hB : Hid (Below w.heap.size w _) := (hB.out).trans (d.mono (hB.out).size); replace X := Lib.hid (X.out.keep d); clear d
  clear HT
  have x0 := X.out.cell 0 (.int .i64 t1.id) rfl
  have x1 := X.out.cell 1 (.int .i64 t1.st) rfl
  have x2 := X.out.cell 2 (.int .u32 t1.n) rfl
  have x3 := X.out.cell 3 (.int .u32 t1.ip) rfl
  have x4 := X.out.cell 4 (.int .u16 t1.port) rfl
  have x5 := X.out.cell 5 (.bool o1) rfl
  have f5 := X.out.free 5 _ rfl
  clear X
  replace hB : Hid (Below w.heap.size w (w1.setCell ⟨w.heap.size, 5, none⟩ (.bool true))) := hB.out.setCell (p := ⟨w.heap.size, 5, none⟩) (Nat.le_refl _) _
  go_wp2_with fail
  refine (TA.out _).mono ?_; rintro e w2 ⟨rfl, d⟩
  replace hB : Hid (Below w.heap.size w _) := (hB.out).trans (d.mono (hB.out).size); clear d
  clear x0 x1 x2 x3 x4 x5 f5 TA
  have A := Lib.hid (Cs.new w2 (rcs a) 27)
  go_wp2_with fail
  refine (P1.out _).mono ?_; rintro e w3 ⟨rfl, d⟩
  replace A := Lib.hid (A.out.keep d)
  replace hB : Hid (Below w.heap.size w _) := ((hB.out.alloc (hB.out).size _)).trans (d.mono ((hB.out.alloc (hB.out).size _)).size); clear d
  clear P1
  go_wp2_with fail
  refine (G1.out _).mono ?_; rintro e w4 ⟨rfl, d⟩
  replace hB : Hid (Below w.heap.size w _) := (hB.out).trans (d.mono (hB.out).size); replace A := Lib.hid (A.out.keep d); clear d
  clear G1
  have C := Lib.hid (Cs.new w4 (rcs a) 27)
  go_wp2_with fail
  refine (G2.out _).mono ?_; rintro e w5 ⟨rfl, d⟩
  replace C := Lib.hid (C.out.keep d)
  replace hB : Hid (Below w.heap.size w _) := ((hB.out.alloc (hB.out).size _)).trans (d.mono ((hB.out.alloc (hB.out).size _)).size); replace A := Lib.hid ((A.out.alloc _).keep d); clear d
  clear G2
  obtain ⟨a0, a1, a2, a3, a4⟩ := Rb.of A.out
  obtain ⟨b0, b1, b2, b3, b4⟩ := Rb.of C.out
  have la := A.out.lt
  have lb := C.out.lt
  go_wp2_with fail
  refine (R1.out _).mono ?_; rintro e w6 ⟨rfl, d⟩
  replace hB : Hid (Below w.heap.size w _) := ((hB.out.alloc (hB.out).size _)).trans (d.mono ((hB.out.alloc (hB.out).size _)).size); clear d
  go_wp2
  go_ret
  exact ⟨rfl, hB.out⟩

theorem recordBack_run (i1 s1 n1 p1 q1 : Int) (o1 : Bool) (rest : ByteArray) (cut : Int) (w : World) (_ : (Lit.int .i64 i1).wf = true) (_ : (Lit.int .i64 s1).wf = true) (h1 : (Lit.int .u32 n1).wf = true) (g1 : (Lit.int .u32 p1).wf = true) (k1 : (Lit.int .u16 q1).wf = true) (hs : rest.size ≤ 140737488355327) (wc : (Lit.int .u8 cut).wf = true) (ht : Tab w) :
    Calls Tryd.prog 7 #[.agg #[.int .i64 i1, .int .i64 s1, .int .u32 n1, .int .u32 p1, .int .u16 q1, .bool o1], .string rest, .int .u8 cut] w fun e w' => e = .returned (.bool true) ∧ Below w.heap.size w w' := by
  obtain ⟨t1, ht1, rfl, rfl, rfl, rfl, rfl⟩ := rec_of (i := i1) (st := s1) h1 g1 k1
  exact recordBack_walk t1 o1 ht1 rest cut hs wc w ht


theorem recordBack_own : ownKnob Tryd.prog.godebug = none := by kernel_rfl
theorem recordBack_laid : laidOutB Tryd.prog = true := by kernel_rfl
set_option maxRecDepth 100000 in
theorem recordBack_lifted (os : Os) (started : os.Started) (H : Type) (enc : TypeId × Value → H) :
    ReturnsInHanded {} Tryd.checked os 7 .any (fun w args => (Rows.recordBackSpec.pre enc Tryd.prog Tryd.f7 [] false w args ∧ laidMetH Tryd.prog seatLaid w) ∧ sizedMet enc Tryd.prog Tryd.f7 (OpenSpec.ofChange Rows.recordBackSpec) false w args) (Rows.recordBackSpec.post enc Tryd.prog Tryd.f7 false true false false) := by
  refine returnsInHanded_of_change_and (C := Tryd.checked) (X := fun w _ => laidMetH Tryd.prog seatLaid w) (fun _ _ _ hh h => h.of_heap hh) recordBack_own started (by kernel_rfl) Tryd.func7
    (ChangeSpec.witness_shaped (enc := enc) (C := Tryd.checked) (os := os) (X := fun w _ => laidMetH Tryd.prog seatLaid w) false (World.doorLaid Tryd.prog seatSteps os) #[.agg #[.int .i64 0, .int .i64 0, .int .u32 0, .int .u32 0, .int .u16 0, .bool false], .string ⟨#[]⟩, .int .u8 0] 8 rfl (World.shaped_of_RefB (by kernel_rfl) (by kernel_rfl)) (by kernel_rfl) (by kernel_rfl) (by kernel_rfl) (door_met os _)) ?_
  intro W base args ds gs before hval0 hW hcnd hsz hL _
  have hval : ∀ (j : Nat) t v, Tryd.f7.params[j]? = some t → args[j]? = some v → Value.okWide Tryd.prog W .any base t v := hval0
  have hW' := hW
  obtain ⟨p, q, hA0, hV, rfl, hfz, hnd⟩ := hW
  have hA : DataW.TrodAll enc Tryd.prog W 0 (fun _ => true) true Tryd.f7.params.toList args.toList ds p := hA0
  rw [Tryd.params7] at hA hval
  obtain ⟨v0, vs0, d0, ds0, p0, q0, hargs, rfl, rfl, h0, r0⟩ := trodAll_cons hA
  obtain ⟨v1, vs1, d1, ds1, p1, q1, rfl, rfl, rfl, h1, r1⟩ := trodAll_cons r0
  obtain ⟨v2, vs2, d2, ds2, p2, q2, rfl, rfl, rfl, h2, r2⟩ := trodAll_cons r1
  obtain ⟨rfl, rfl, rfl⟩ := trodAll_nil r2
  obtain rfl : args = #[v0, v1, v2] := by cases args; simp_all
  obtain ⟨rfl, rfl⟩ := trodVars_none hV
  have k0 := h0
  have lt0 : ∀ x ∈ p0, x.block < W.heap.size := by obtain ⟨m, hm⟩ := k0; exact DataW.trod_lt m _ _ _ hm
  obtain ⟨a0_0, a0_1, a0_2, a0_3, a0_4, a0_5, rfl, w0_0, w0_1, w0_2, w0_3, w0_4⟩ := open_thing (hval 0 29 v0 rfl rfl) h0
  obtain ⟨a1, rfl, rfl, rfl, m1⟩ := open_string Tryd.underlying9 (hval 1 9 v1 rfl rfl) h1
  obtain ⟨a2, rfl, rfl, rfl, w2⟩ := open_int Tryd.underlying5 (hval 2 5 v2 rfl rfl) h2
  have w1 : a1.size ≤ 140737488355327 := by
    have h := sized_string (j := 1) (t := 9) (bytes := a1.data.toList) hsz rfl rfl
    have h2 := reachBytes_lt
    have h3 := Lib.size_eq a1
    omega
  clear hA0 hval0
  refine (recordBack_run a0_0 a0_1 a0_2 a0_3 a0_4 a0_5 a1 a2 W w0_0 w0_1 w0_2 w0_3 w0_4 w1 w2 (tab_of_laid hL)).mono fun e W' ⟨he, bel⟩ => ?_
  subst he
  exact ⟨_, rfl, _, _, _, [], _, [], hW', trodAll_mk1 (shut_bool Tryd.underlying4 _), (trodAll_cons_mk (Below.trod recordBack_laid (by kernel_rfl) (of_decide_eq_true (by kernel_rfl)) k0 bel lt0) (trodAll_cons_mk (shut_string Tryd.underlying9 m1) (trodAll_cons_mk (shut_int Tryd.underlying5 w2) trodAll_mk0))), rfl, bel.frame _, fun h => by cases h⟩
theorem recordBack_over : Rows.recordBackRow.holds Tryd.pinned (OpenSpec.ofChange Rows.recordBackSpec) :=
  OpenClaim.holds_of_wide 7 Tryd.f7 rfl rfl rfl rfl rfl rfl rfl ⟨rfl, rfl, rfl, rfl, rfl⟩ rfl rfl rfl rfl rfl (by kernel_rfl) Tryd.func7 (by kernel_rfl)
    (of_decide_eq_true (by kernel_rfl)) (by unfold Func.isWrapper; first | (rw [if_pos (by decide +kernel)]; kernel_rfl) | (rw [if_neg (by decide +kernel)]; exact ⟨rfl, rfl⟩))
    (fun os started H enc _ => recordBack_lifted os started H enc)
theorem recordBack_holds : Rows.RecordBackCardSaid :=
  Claim7.holds_tied_plain_at .later [] [.data] true Rows.recordBackCard.stood.harness false recordBack_over (fun _ h => by cases h) (by kernel_rfl) (fun _ h => by cases h) recordBack_row_tie rfl ⟨rfl, rfl⟩ (by kernel_rfl) rfl
    (fun f fn hf hfn => by
      obtain rfl : f = 7 := Option.some.inj ((show Tryd.prog.funcNamed "scuttlebutt/scuttlebuttlaw04.RecordBack" = some 7 by kernel_rfl).symm.trans hf) |>.symm
      obtain rfl : fn = Tryd.f7 := (Option.some.inj (Tryd.func7.symm.trans hfn)).symm
      exact ⟨by kernel_rfl, fun j t ht => by
        rw [Tryd.params7] at ht
        have hm : t ∈ [29, 9, 5] := by simpa using Array.mem_of_getElem? ht
        have hall : ([29, 9, 5].all fun u => !Tryd.prog.wantsStandIn u) = true := by kernel_rfl
        exact (show Tryd.prog.wantsStandIn t = false by simpa using List.all_eq_true.1 hall t hm)⟩)
    (by kernel_rfl)
#print axioms recordBack_holds
end Go.Proofs.YtnmnokmbnjdfoaaDoor
