/- The statement RecordGets: any bytes, and those of a record with a byte another one, are the record, or none, that the document's own answer says. No conditions but the row's own: the table of words lies as the program's text lays it. -/
import Derived.Test.YtnmnokmbnjdfoaaDoorRecBend
import Derived.Test.YtnmnokmbnjdfoaaDoorRecordTells
namespace Go.Proofs.YtnmnokmbnjdfoaaDoor
open Go.Sort Go.RowKit Go.BigFrame Go.ChangeShapes Go.WideShapes Go.ChangeAt
open Go.ChangeMaps (open_string shut_string)
set_option linter.unusedVariables false
set_option linter.unusedSimpArgs false

/-- both programs get so -/
theorem get_both (s : ByteArray) (hs : s.size ≤ 9223372036854775807) : ∃ (r : Rec) (t : ByteArray) (ok : Bool), (∀ w, Calls Tryd.prog 27 #[.string s] w fun e w' => e = .returned (.tuple #[.agg #[.int .i64 r.id, .int .i64 r.st, .int .u32 r.n, .int .u32 r.ip, .int .u16 r.port], .string t, .bool ok]) ∧ Below w.heap.size w w') ∧
    (∀ w, Calls Tryd.prog 28 #[.string s] w fun e w' => e = .returned (.tuple #[.agg #[.int .i64 r.id, .int .i64 r.st, .int .u32 r.n, .int .u32 r.ip, .int .u16 r.port], .string t, .bool ok]) ∧ Below w.heap.size w w') := by
  by_cases h : 12 ≤ s.size
  · by_cases hr : (recB s).right = true
    · exact ⟨recB s, dr s 12, true, getrec_yes s h hr hs, rgetrec_yes s h hr hs⟩
    · have hr : (recB s).right = false := by simpa using hr
      exact ⟨zeroR, ⟨#[]⟩, false, getrec_no s h hr hs, rgetrec_no s h hr hs⟩
  · exact ⟨zeroR, ⟨#[]⟩, false, getrec_short s (by omega), rgetrec_short s (by omega)⟩
theorem rput_any_rec (a : Rec) (ha : a.Ok) : ∃ (s : ByteArray) (ok : Bool), s.size ≤ 12 ∧ ∀ w, Calls Tryd.prog 13 #[.agg #[.int .i64 a.id, .int .i64 a.st, .int .u32 a.n, .int .u32 a.ip, .int .u16 a.port]] w fun e w' => e = .returned (.tuple #[.string s, .bool ok]) ∧ Below w.heap.size w w' := by
  by_cases h : a.right = true
  · exact ⟨putR a, true, by rw [putR_size]; omega, rput_yes a ha h⟩
  · have h : a.right = false := by simpa using h
    exact ⟨⟨#[]⟩, false, by decide, rput_no a ha h⟩

set_option maxRecDepth 100000 in
set_option maxHeartbeats 4000000 in
theorem recordGets_walk (a0 : Rec) (oa : Bool) (s : ByteArray) (own : Bool) (at_ b : Int) (ha0 : a0.Ok) (hs : s.size ≤ 140737488355327) (wat : (Lit.int .i64 at_).wf = true) (wb : (Lit.int .u8 b).wf = true) (w : World) (ht : Tab w) :
    Calls Tryd.prog 4 #[.agg #[.int .i64 a0.id, .int .i64 a0.st, .int .u32 a0.n, .int .u32 a0.ip, .int .u16 a0.port, .bool oa], .string s, .bool own, .int .i64 at_, .int .u8 b] w fun e w' => e = .returned (.bool true) ∧ Below w.heap.size w w' := by
  obtain ⟨a, ha, _, TA⟩ := thing_any a0 oa ha0
  obtain ⟨T, ok0, hT, PA⟩ := rput_any_rec a ha
  have TA := Lib.hid TA
  have PA := Lib.hid PA
  have HT := Lib.hid ht
  clear ht ha0 ha
  have X := Lib.hid (Cs.new w (tcs a0 oa) 29)
  have hB : Hid (Below w.heap.size w (w.alloc (.cells (tcs a0 oa).toArray 29))) := by show Below _ _ _; (repeat (first | with_reducible exact Below.refl _ _ | with_reducible refine Below.drew ?_ | with_reducible refine below_drewN ?_ _ | with_reducible refine Below.alloc ?_ (by first | omega | (simp; done) | (simp; omega)) _ | with_reducible refine Below.setCell ?_ (by first | omega | (simp; done) | (simp; omega)) _))
  cases own
  · obtain ⟨r, t, ok, G, RG⟩ := get_both s (by omega)
    have G := Lib.hid G
    have RG := Lib.hid RG
    clear TA PA hT
    go_enter Tryd.func4, Tryd.ntmps4
    go_wp2_with fail
    refine (examples_yes _ (HT.out.below hB.out)).mono ?_; rintro e w1 ⟨rfl, d⟩
    replace hB : Hid (Below w.heap.size w _) := (hB.out).trans (d.mono (hB.out).size); clear d
    clear X HT
    go_wp2_with fail
    refine (G.out _).mono ?_; rintro e w7 ⟨rfl, d⟩
    replace hB : Hid (Below w.heap.size w _) := (hB.out).trans (d.mono (hB.out).size); clear d
    have A := Lib.hid (Cs.new w7 (rcs r) 27)
    go_wp2_with fail
    refine (RG.out _).mono ?_; rintro e w8 ⟨rfl, d⟩
    replace A := Lib.hid (A.out.keep d)
    replace hB : Hid (Below w.heap.size w _) := ((hB.out.alloc (hB.out).size _)).trans (d.mono ((hB.out.alloc (hB.out).size _)).size); clear d
    clear G RG
    have Q := Lib.hid (Cs.new w8 (rcs r) 34)
    replace A := Lib.hid (A.out.alloc (.cells (rcs r).toArray 34))
    replace hB : Hid (Below w.heap.size w (w8.alloc (.cells (rcs r).toArray 34))) := hB.out.alloc hB.out.size _
    go_upto_region 9 with fail
    have A : Hid (Cs w7.heap.size (rcs r) (w8.alloc (.cells #[.int .i64 r.id, .int .i64 r.st, .int .u32 r.n, .int .u32 r.ip, .int .u16 r.port] 34))) := A
    have Q : Hid (Cs w8.heap.size (rcs r) (w8.alloc (.cells #[.int .i64 r.id, .int .i64 r.st, .int .u32 r.n, .int .u32 r.ip, .int .u16 r.port] 34))) := Q
    have hB : Hid (Below w.heap.size w (w8.alloc (.cells #[.int .i64 r.id, .int .i64 r.st, .int .u32 r.n, .int .u32 r.ip, .int .u16 r.port] 34))) := hB
    generalize (w8.alloc (.cells #[.int .i64 r.id, .int .i64 r.st, .int .u32 r.n, .int .u32 r.ip, .int .u16 r.port] 34)) = w9 at *
    have A0 := cell_regrown (A.out.cell 0 (.int .i64 r.id) rfl); have A1 := cell_regrown (A.out.cell 1 (.int .i64 r.st) rfl); have A2 := cell_regrown (A.out.cell 2 (.int .u32 r.n) rfl); have A3 := cell_regrown (A.out.cell 3 (.int .u32 r.ip) rfl); have A4 := cell_regrown (A.out.cell 4 (.int .u16 r.port) rfl)
    have Q0 := cell_regrown (Q.out.cell 0 (.int .i64 r.id) rfl); have Q1 := cell_regrown (Q.out.cell 1 (.int .i64 r.st) rfl); have Q2 := cell_regrown (Q.out.cell 2 (.int .u32 r.n) rfl); have Q3 := cell_regrown (Q.out.cell 3 (.int .u32 r.ip) rfl); have Q4 := cell_regrown (Q.out.cell 4 (.int .u16 r.port) rfl)
    clear A Q
    have C1 := fun d os => Calls.regrown_of (refrec_any r (grow (redrawn w9 d) os))
    (refine wp_region_quiet_below (by kernel_rfl) (by kernel_rfl) ?_; (repeat (go_big_quiet_step (first | with_reducible exact C1 _ _))); refine wpQuiet_nil ?_; intro _ hw'; obtain ⟨⟨dq, osq⟩, hw''⟩ := hw'; subst hw'')
    go_wp2
    go_ret
    exact ⟨rfl, hB.out.trans ((below_regrown w9 dq osq).mono hB.out.size)⟩
  · go_enter Tryd.func4, Tryd.ntmps4
    go_wp2_with fail
    refine (examples_yes _ (HT.out.below hB.out)).mono ?_; rintro e w1 ⟨rfl, d⟩
    replace hB : Hid (Below w.heap.size w _) := (hB.out).trans (d.mono (hB.out).size); replace X := Lib.hid (X.out.keep d); clear d
    clear HT
    have x0 := X.out.cell 0 (.int .i64 a0.id) rfl
    have x1 := X.out.cell 1 (.int .i64 a0.st) rfl
    have x2 := X.out.cell 2 (.int .u32 a0.n) rfl
    have x3 := X.out.cell 3 (.int .u32 a0.ip) rfl
    have x4 := X.out.cell 4 (.int .u16 a0.port) rfl
    have x5 := X.out.cell 5 (.bool oa) rfl
    go_wp2_with fail
    refine (TA.out _).mono ?_; rintro e w2 ⟨rfl, d⟩
    replace hB : Hid (Below w.heap.size w _) := (hB.out).trans (d.mono (hB.out).size); clear d
    clear X TA x0 x1 x2 x3 x4 x5
    go_wp2_with fail
    refine (refrec_any a _).mono ?_; rintro e w3 ⟨rfl, d⟩
    replace hB : Hid (Below w.heap.size w _) := (hB.out).trans (d.mono (hB.out).size); clear d
    go_wp2_with fail
    refine (PA.out _).mono ?_; rintro e w4 ⟨rfl, d⟩
    replace hB : Hid (Below w.heap.size w _) := (hB.out).trans (d.mono (hB.out).size); clear d
    clear PA
    have hTs : (T ++ s).size ≤ 9223372036854775807 := by rw [ByteArray.size_append]; omega
    go_wp2_with fail
    refine (bend_any (T ++ s) at_ b hTs wat wb _).mono ?_; rintro e w5 ⟨S, rfl, hS, d⟩
    replace hB : Hid (Below w.heap.size w _) := (hB.out).trans (d.mono (hB.out).size); clear d
    obtain ⟨r, t, ok, G, RG⟩ := get_both S (by omega)
    have G := Lib.hid G
    have RG := Lib.hid RG
    clear hTs hT hs hS
    go_wp2_with fail
    refine (G.out _).mono ?_; rintro e w7 ⟨rfl, d⟩
    replace hB : Hid (Below w.heap.size w _) := (hB.out).trans (d.mono (hB.out).size); clear d
    have A := Lib.hid (Cs.new w7 (rcs r) 27)
    go_wp2_with fail
    refine (RG.out _).mono ?_; rintro e w8 ⟨rfl, d⟩
    replace A := Lib.hid (A.out.keep d)
    replace hB : Hid (Below w.heap.size w _) := ((hB.out.alloc (hB.out).size _)).trans (d.mono ((hB.out.alloc (hB.out).size _)).size); clear d
    clear G RG
    have Q := Lib.hid (Cs.new w8 (rcs r) 34)
    replace A := Lib.hid (A.out.alloc (.cells (rcs r).toArray 34))
    replace hB : Hid (Below w.heap.size w (w8.alloc (.cells (rcs r).toArray 34))) := hB.out.alloc hB.out.size _
    go_upto_region 9 with fail
    have A : Hid (Cs w7.heap.size (rcs r) (w8.alloc (.cells #[.int .i64 r.id, .int .i64 r.st, .int .u32 r.n, .int .u32 r.ip, .int .u16 r.port] 34))) := A
    have Q : Hid (Cs w8.heap.size (rcs r) (w8.alloc (.cells #[.int .i64 r.id, .int .i64 r.st, .int .u32 r.n, .int .u32 r.ip, .int .u16 r.port] 34))) := Q
    have hB : Hid (Below w.heap.size w (w8.alloc (.cells #[.int .i64 r.id, .int .i64 r.st, .int .u32 r.n, .int .u32 r.ip, .int .u16 r.port] 34))) := hB
    generalize (w8.alloc (.cells #[.int .i64 r.id, .int .i64 r.st, .int .u32 r.n, .int .u32 r.ip, .int .u16 r.port] 34)) = w9 at *
    have A0 := cell_regrown (A.out.cell 0 (.int .i64 r.id) rfl); have A1 := cell_regrown (A.out.cell 1 (.int .i64 r.st) rfl); have A2 := cell_regrown (A.out.cell 2 (.int .u32 r.n) rfl); have A3 := cell_regrown (A.out.cell 3 (.int .u32 r.ip) rfl); have A4 := cell_regrown (A.out.cell 4 (.int .u16 r.port) rfl)
    have Q0 := cell_regrown (Q.out.cell 0 (.int .i64 r.id) rfl); have Q1 := cell_regrown (Q.out.cell 1 (.int .i64 r.st) rfl); have Q2 := cell_regrown (Q.out.cell 2 (.int .u32 r.n) rfl); have Q3 := cell_regrown (Q.out.cell 3 (.int .u32 r.ip) rfl); have Q4 := cell_regrown (Q.out.cell 4 (.int .u16 r.port) rfl)
    clear A Q
    have C1 := fun d os => Calls.regrown_of (refrec_any r (grow (redrawn w9 d) os))
    (refine wp_region_quiet_below (by kernel_rfl) (by kernel_rfl) ?_; (repeat (go_big_quiet_step (first | with_reducible exact C1 _ _))); refine wpQuiet_nil ?_; intro _ hw'; obtain ⟨⟨dq, osq⟩, hw''⟩ := hw'; subst hw'')
    go_wp2
    go_ret
    exact ⟨rfl, hB.out.trans ((below_regrown w9 dq osq).mono hB.out.size)⟩

theorem recordGets_run (i1 s1 n1 p1 q1 : Int) (o1 : Bool) (s : ByteArray) (own : Bool) (at_ b : Int) (w : World) (_ : (Lit.int .i64 i1).wf = true) (_ : (Lit.int .i64 s1).wf = true) (h1 : (Lit.int .u32 n1).wf = true) (h2 : (Lit.int .u32 p1).wf = true) (h3 : (Lit.int .u16 q1).wf = true)
    (hs : s.size ≤ 140737488355327) (wat : (Lit.int .i64 at_).wf = true) (wb : (Lit.int .u8 b).wf = true) (ht : Tab w) :
    Calls Tryd.prog 4 #[.agg #[.int .i64 i1, .int .i64 s1, .int .u32 n1, .int .u32 p1, .int .u16 q1, .bool o1], .string s, .bool own, .int .i64 at_, .int .u8 b] w fun e w' => e = .returned (.bool true) ∧ Below w.heap.size w w' := by
  obtain ⟨a, ha, rfl, rfl, rfl, rfl, rfl⟩ := rec_of (i := i1) (st := s1) h1 h2 h3
  exact recordGets_walk a o1 s own at_ b ha hs wat wb w ht


theorem recordGets_own : ownKnob Tryd.prog.godebug = none := by kernel_rfl
theorem recordGets_laid : laidOutB Tryd.prog = true := by kernel_rfl
set_option maxRecDepth 100000 in
theorem recordGets_lifted (os : Os) (started : os.Started) (H : Type) (enc : TypeId × Value → H) :
    ReturnsInHanded {} Tryd.checked os 4 .any (fun w args => (Rows.recordGetsSpec.pre enc Tryd.prog Tryd.f4 [] false w args ∧ laidMetH Tryd.prog seatLaid w) ∧ sizedMet enc Tryd.prog Tryd.f4 (OpenSpec.ofChange Rows.recordGetsSpec) false w args) (Rows.recordGetsSpec.post enc Tryd.prog Tryd.f4 false true false false) := by
  refine returnsInHanded_of_change_and (C := Tryd.checked) (X := fun w _ => laidMetH Tryd.prog seatLaid w) (fun _ _ _ hh h => h.of_heap hh) recordGets_own started (by kernel_rfl) Tryd.func4
    (ChangeSpec.witness_shaped (enc := enc) (C := Tryd.checked) (os := os) (X := fun w _ => laidMetH Tryd.prog seatLaid w) false (World.doorLaid Tryd.prog seatSteps os) #[.agg #[.int .i64 0, .int .i64 0, .int .u32 0, .int .u32 0, .int .u16 0, .bool false], .string ⟨#[]⟩, .bool false, .int .i64 0, .int .u8 0] 8 rfl (World.shaped_of_RefB (by kernel_rfl) (by kernel_rfl)) (by kernel_rfl) (by kernel_rfl) (by kernel_rfl) (door_met os _)) ?_
  intro W base args ds gs before hval0 hW hcnd hsz hL _
  have hval : ∀ (j : Nat) t v, Tryd.f4.params[j]? = some t → args[j]? = some v → Value.okWide Tryd.prog W .any base t v := hval0
  have hW' := hW
  obtain ⟨p, q, hA0, hV, rfl, hfz, hnd⟩ := hW
  have hA : DataW.TrodAll enc Tryd.prog W 0 (fun _ => true) true Tryd.f4.params.toList args.toList ds p := hA0
  rw [Tryd.params4] at hA hval
  obtain ⟨v0, vs0, d0, ds0, p0, q0, hargs, rfl, rfl, h0, r0⟩ := trodAll_cons hA
  obtain ⟨v1, vs1, d1, ds1, p1, q1, rfl, rfl, rfl, h1, r1⟩ := trodAll_cons r0
  obtain ⟨v2, vs2, d2, ds2, p2, q2, rfl, rfl, rfl, h2, r2⟩ := trodAll_cons r1
  obtain ⟨v3, vs3, d3, ds3, p3, q3, rfl, rfl, rfl, h3, r3⟩ := trodAll_cons r2
  obtain ⟨v4, vs4, d4, ds4, p4, q4, rfl, rfl, rfl, h4, r4⟩ := trodAll_cons r3
  obtain ⟨rfl, rfl, rfl⟩ := trodAll_nil r4
  obtain rfl : args = #[v0, v1, v2, v3, v4] := by cases args; simp_all
  obtain ⟨rfl, rfl⟩ := trodVars_none hV
  have k0 := h0
  have lt0 : ∀ x ∈ p0, x.block < W.heap.size := by obtain ⟨m, hm⟩ := k0; exact DataW.trod_lt m _ _ _ hm
  obtain ⟨a0_0, a0_1, a0_2, a0_3, a0_4, a0_5, rfl, w0_0, w0_1, w0_2, w0_3, w0_4⟩ := open_thing (hval 0 29 v0 rfl rfl) h0
  obtain ⟨a1, rfl, rfl, rfl, m1⟩ := open_string Tryd.underlying9 (hval 1 9 v1 rfl rfl) h1
  obtain ⟨a2, rfl, rfl, rfl⟩ := open_bool Tryd.underlying4 (hval 2 4 v2 rfl rfl) h2
  obtain ⟨a3, rfl, rfl, rfl, w3⟩ := open_int Tryd.underlying3 (hval 3 3 v3 rfl rfl) h3
  obtain ⟨a4, rfl, rfl, rfl, w4⟩ := open_int Tryd.underlying5 (hval 4 5 v4 rfl rfl) h4
  have w1 : a1.size ≤ 140737488355327 := by
    have h := sized_string (j := 1) (t := 9) (bytes := a1.data.toList) hsz rfl rfl
    have h2 := reachBytes_lt
    have h3 := Lib.size_eq a1
    omega
  clear hA0 hval0
  refine (recordGets_run a0_0 a0_1 a0_2 a0_3 a0_4 a0_5 a1 a2 a3 a4 W w0_0 w0_1 w0_2 w0_3 w0_4 w1 w3 w4 (tab_of_laid hL)).mono fun e W' ⟨he, bel⟩ => ?_
  subst he
  exact ⟨_, rfl, _, _, _, [], _, [], hW', trodAll_mk1 (shut_bool Tryd.underlying4 _), (trodAll_cons_mk (Below.trod recordGets_laid (by kernel_rfl) (of_decide_eq_true (by kernel_rfl)) k0 bel lt0) (trodAll_cons_mk (shut_string Tryd.underlying9 m1) (trodAll_cons_mk (shut_bool Tryd.underlying4 _) (trodAll_cons_mk (shut_int Tryd.underlying3 w3) (trodAll_cons_mk (shut_int Tryd.underlying5 w4) trodAll_mk0))))), rfl, bel.frame _, fun h => by cases h⟩
theorem recordGets_over : Rows.recordGetsRow.holds Tryd.pinned (OpenSpec.ofChange Rows.recordGetsSpec) :=
  OpenClaim.holds_of_wide 4 Tryd.f4 rfl rfl rfl rfl rfl rfl rfl ⟨rfl, rfl, rfl, rfl, rfl⟩ rfl rfl rfl rfl rfl (by kernel_rfl) Tryd.func4 (by kernel_rfl)
    (of_decide_eq_true (by kernel_rfl)) (by unfold Func.isWrapper; first | (rw [if_pos (by decide +kernel)]; kernel_rfl) | (rw [if_neg (by decide +kernel)]; exact ⟨rfl, rfl⟩))
    (fun os started H enc _ => recordGets_lifted os started H enc)
theorem recordGets_holds : Rows.RecordGetsCardSaid :=
  Claim7.holds_tied_plain_at .later [] [.data] true Rows.recordGetsCard.stood.harness false recordGets_over (fun _ h => by cases h) (by kernel_rfl) (fun _ h => by cases h) recordGets_row_tie rfl ⟨rfl, rfl⟩ (by kernel_rfl) rfl
    (fun f fn hf hfn => by
      obtain rfl : f = 4 := Option.some.inj ((show Tryd.prog.funcNamed "scuttlebutt/scuttlebuttlaw04.RecordGets" = some 4 by kernel_rfl).symm.trans hf) |>.symm
      obtain rfl : fn = Tryd.f4 := (Option.some.inj (Tryd.func4.symm.trans hfn)).symm
      exact ⟨by kernel_rfl, fun j t ht => by
        rw [Tryd.params4] at ht
        have hm : t ∈ [29, 9, 4, 3, 5] := by simpa using Array.mem_of_getElem? ht
        have hall : ([29, 9, 4, 3, 5].all fun u => !Tryd.prog.wantsStandIn u) = true := by kernel_rfl
        exact (show Tryd.prog.wantsStandIn t = false by simpa using List.all_eq_true.1 hall t hm)⟩)
    (by kernel_rfl)
#print axioms recordGets_holds
end Go.Proofs.YtnmnokmbnjdfoaaDoor
