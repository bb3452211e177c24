/- The statement AddrTells: any two addresses are told, put, held against one another, as the document's own answer does. No conditions but the row's own: the library's tables lie as the program's text lays them. -/
import Derived.Test.YtdihpiggknhojaaDoorAddrEx
import Derived.Test.YtdihpiggknhojaaDoorAddrLaid
import Derived.Test.YtdihpiggknhojaaDoorAddrSmall
import Derived.Test.YtdihpiggknhojaaDoorPackLess
import Derived.SevenTiedAt
import Derived.ChangeOld
import Derived.ChangeMaps5
import Derived.ShutString
import Derived.OpenShut
import Derived.SizedLaws
import Derived.Lib.SmallJoins
import Derived.Lib.QuietBelow
import Derived.BigQuiet
namespace Go.Proofs.YtdihpiggknhojaaDoor
open Go.Sort Go.RowKit Go.BigFrame Go.ChangeShapes Go.WideShapes Go.ChangeAt
open Go.ChangeMaps (open_string shut_string)
set_option linter.unusedVariables false
set_option linter.unusedSimpArgs false

set_option maxRecDepth 100000 in
set_option maxHeartbeats 4000000 in
theorem addrTells_walk (a p b q : Nat) (h1 : a < 4294967296) (h2 : p < 65536) (h3 : b < 4294967296) (h4 : q < 65536) (w : World) (ht : Tab w) :
    Calls Tryd.prog 3 #[.agg #[.int .u32 a, .int .u16 p], .agg #[.int .u32 b, .int .u16 q]] w fun e w' => e = .returned (.bool true) ∧ Below w.heap.size w w' := by
  have HT := Lib.hid ht
  clear ht
  go_enter Tryd.func3, Tryd.ntmps3
  have X0 := (Two.new w (.int .u32 a) (.int .u16 p) 25).keep ((Below.refl _ _).alloc (Nat.le_refl _) (.cells #[.int .u32 b, .int .u16 q] 25))
  have Y0 := Two.new (w.alloc (.cells #[.int .u32 a, .int .u16 p] 25)) (.int .u32 b) (.int .u16 q) 25
  have hB0 : Hid (Below w.heap.size w ((w.alloc (.cells #[.int .u32 a, .int .u16 p] 25)).alloc (.cells #[.int .u32 b, .int .u16 q] 25))) := by show Below _ _ _; (repeat (first | exact Below.refl _ _ | refine Below.drew ?_ | refine below_drewN ?_ _ | refine Below.alloc ?_ (by first | omega | (simp; done) | (simp; omega)) _ | refine Below.setCell ?_ (by first | omega | (simp; done) | (simp; omega)) _))
  simp only [World.size_alloc] at Y0
  have HX := Lib.hid X0
  have HY := Lib.hid Y0
  clear X0 Y0
  go_wp2_with fail
  generalize ((w.alloc (.cells #[.int .u32 a, .int .u16 p] 25)).alloc (.cells #[.int .u32 b, .int .u16 q] 25)) = wb at *
  refine (examples_yes _ (HT.out.below hB0.out)).mono ?_; rintro e w1 ⟨rfl, b1⟩
  have X1 := HX.out.keep b1
  have Y1 := HY.out.keep b1
  have hB1 : Hid (Below w.heap.size w w1) := hB0.out.trans (b1.mono hB0.out.size)
  clear b1 hB0 HX HY
  obtain ⟨x0, x1, _, _⟩ := X1
  obtain ⟨y0, y1, _, _⟩ := Y1
  go_wp2_with fail
  refine (ref_any a p _).mono ?_; rintro e w2 ⟨rfl, b2⟩
  have X2 := (Two.mk x0 x1 (by assumption) (by assumption)).keep b2
  have Y2 := (Two.mk y0 y1 (by assumption) (by assumption)).keep b2
  have hB2 : Hid (Below w.heap.size w w2) := hB1.out.trans (b2.mono hB1.out.size)
  clear b2 hB1 x0 x1 y0 y1
  go_upto_region 5 with fail
  have Z3 := Two.new w2 (.int .u32 a) (.int .u16 p) 27
  have X3 := X2.keep ((Below.refl _ _).alloc (Nat.le_refl _) (.cells #[.int .u32 a, .int .u16 p] 27))
  have Y3 := Y2.keep ((Below.refl _ _).alloc (Nat.le_refl _) (.cells #[.int .u32 a, .int .u16 p] 27))
  have hB3 : Hid (Below w.heap.size w (w2.alloc (.cells #[.int .u32 a, .int .u16 p] 27))) := hB2.out.alloc hB2.out.size _
  generalize (w2.alloc (.cells #[.int .u32 a, .int .u16 p] 27)) = w3 at *
  have x0 := cell_regrown X3.c0
  have x1 := cell_regrown X3.c1
  have y0 := cell_regrown Y3.c0
  have y1 := cell_regrown Y3.c1
  have z0 := cell_regrown Z3.c0
  have z1 := cell_regrown Z3.c1
  clear X2 Y2 X3 Y3 Z3 hB2
  have CT := fun d os => Calls.regrown_of (text_any a p h1 h2 (grow (redrawn w3 d) os) (HT.out.below ((hB3.out.trans ((below_regrown w3 d os).mono hB3.out.size)))))
  have CRT := fun d os => Calls.regrown_of (rtext_any a p h1 h2 (grow (redrawn w3 d) os))
  have CP := fun d os => Calls.regrown_of (put_any a p h1 h2 (grow (redrawn w3 d) os))
  have CRP := fun d os => Calls.regrown_of (rput_any a p h1 h2 (grow (redrawn w3 d) os))
  have CN := fun d os => Calls.regrown_of (none_any a p h1 h2 (grow (redrawn w3 d) os))
  have CRN := fun d os => Calls.regrown_of (rnone_any a p h1 h2 (grow (redrawn w3 d) os))
  have CV := fun d os => Calls.regrown_of (priv_any a p h1 h2 (grow (redrawn w3 d) os))
  have CRV := fun d os => Calls.regrown_of (rpriv_any a p h1 h2 (grow (redrawn w3 d) os))
  have CO := fun d os => Calls.regrown_of (order_any a p b q h1 h2 h3 h4 (grow (redrawn w3 d) os))
  have CF := fun d os => Calls.regrown_of (ref_any b q (grow (redrawn w3 d) os))
  have CRO := fun d os => Calls.regrown_of (rorder_any a p b q h1 h2 h3 h4 (grow (redrawn w3 d) os))
  generalize atx a p = T at *
  generalize putB a p = PB at *
  generalize noneI a p = N at *
  generalize privI a = V at *
  generalize ordI a p b q = O at *
  (refine wp_region_quiet_below (by kernel_rfl) (by kernel_rfl) ?_; (repeat (go_big_quiet_step (first | with_reducible exact CT _ _ | with_reducible exact CRT _ _ | with_reducible exact CP _ _ | with_reducible exact CRP _ _ | with_reducible exact CN _ _ | with_reducible exact CRN _ _ | with_reducible exact CV _ _ | with_reducible exact CRV _ _ | with_reducible exact CO _ _ | with_reducible exact CF _ _ | with_reducible exact CRO _ _))); refine wpQuiet_nil ?_; intro _ hw'; obtain ⟨⟨dq, osq⟩, hw''⟩ := hw'; subst hw'')
  go_wp2
  go_ret
  exact ⟨rfl, hB3.out.trans ((below_regrown w3 dq osq).mono hB3.out.size)⟩

theorem addrTells_run (a p b q : Int) (w : World) (wa : (Lit.int .u32 a).wf = true) (wp : (Lit.int .u16 p).wf = true) (wb : (Lit.int .u32 b).wf = true) (wq : (Lit.int .u16 q).wf = true) (ht : Tab w) :
    Calls Tryd.prog 3 #[.agg #[.int .u32 a, .int .u16 p], .agg #[.int .u32 b, .int .u16 q]] w fun e w' => e = .returned (.bool true) ∧ Below w.heap.size w w' := by
  have ba := bounds_u32 wa
  have bp := bounds_u16 wp
  have bb := bounds_u32 wb
  have bq := bounds_u16 wq
  obtain ⟨a, rfl⟩ := Int.eq_ofNat_of_zero_le ba.1
  obtain ⟨p, rfl⟩ := Int.eq_ofNat_of_zero_le bp.1
  obtain ⟨b, rfl⟩ := Int.eq_ofNat_of_zero_le bb.1
  obtain ⟨q, rfl⟩ := Int.eq_ofNat_of_zero_le bq.1
  exact addrTells_walk a p b q (by omega) (by omega) (by omega) (by omega) w ht

theorem addrTells_own : ownKnob Tryd.prog.godebug = none := by kernel_rfl
theorem addrTells_laid : laidOutB Tryd.prog = true := by kernel_rfl
set_option maxRecDepth 100000 in
theorem addrTells_lifted (os : Os) (started : os.Started) (H : Type) (enc : TypeId × Value → H) :
    ReturnsInHanded {} Tryd.checked os 3 .any (fun w args => (Rows.addrTellsSpec.pre enc Tryd.prog Tryd.f3 [] false w args ∧ laidMetH Tryd.prog seatLaid w) ∧ sizedMet enc Tryd.prog Tryd.f3 (OpenSpec.ofChange Rows.addrTellsSpec) false w args) (Rows.addrTellsSpec.post enc Tryd.prog Tryd.f3 false true false false) := by
  refine returnsInHanded_of_change_and (C := Tryd.checked) (X := fun w _ => laidMetH Tryd.prog seatLaid w) (fun _ _ _ hh h => h.of_heap hh) addrTells_own started (by kernel_rfl) Tryd.func3
    (ChangeSpec.witness_shaped (enc := enc) (C := Tryd.checked) (os := os) (X := fun w _ => laidMetH Tryd.prog seatLaid w) false (World.doorLaid Tryd.prog seatSteps os) #[.agg #[.int .u32 0, .int .u16 0], .agg #[.int .u32 0, .int .u16 0]] 8 rfl (World.shaped_of_RefB (by kernel_rfl) (by kernel_rfl)) (by kernel_rfl) (by kernel_rfl) (by kernel_rfl) (door_met os _)) ?_
  intro W base args ds gs before hval0 hW hcnd hsz hL _
  have hval : ∀ (j : Nat) t v, Tryd.f3.params[j]? = some t → args[j]? = some v → Value.okWide Tryd.prog W .any base t v := hval0
  have hW' := hW
  obtain ⟨p, q, hA0, hV, rfl, hfz, hnd⟩ := hW
  have hA : DataW.TrodAll enc Tryd.prog W 0 (fun _ => true) true Tryd.f3.params.toList args.toList ds p := hA0
  rw [Tryd.params3] at hA hval
  obtain ⟨v0, vs0, d0, ds0, p0, q0, hargs, rfl, rfl, h0, r0⟩ := trodAll_cons hA
  obtain ⟨v1, vs1, d1, ds1, p1, q1, rfl, rfl, rfl, h1, r1⟩ := trodAll_cons r0
  obtain ⟨rfl, rfl, rfl⟩ := trodAll_nil r1
  obtain rfl : args = #[v0, v1] := by cases args; simp_all
  obtain ⟨rfl, rfl⟩ := trodVars_none hV
  have k0 := h0
  have lt0 : ∀ x ∈ p0, x.block < W.heap.size := by obtain ⟨m, hm⟩ := k0; exact DataW.trod_lt m _ _ _ hm
  obtain ⟨c0_0, c0_1, y0_0, y0_1, n0, rfl, rfl, rfl, t0_0, t0_1⟩ := Joins.open_agg2 Tryd.underlying25 (by kernel_rfl) (by kernel_rfl) (hval 0 25 v0 rfl rfl) h0
  obtain ⟨a0_0, e0_0, rfl, w0_0⟩ := DataW.trod_int Tryd.underlying22 t0_0
  obtain rfl := (List.cons.inj e0_0).1
  obtain ⟨a0_1, e0_1, rfl, w0_1⟩ := DataW.trod_int Tryd.underlying23 t0_1
  obtain rfl := (List.cons.inj e0_1).1
  have k1 := h1
  have lt1 : ∀ x ∈ p1, x.block < W.heap.size := by obtain ⟨m, hm⟩ := k1; exact DataW.trod_lt m _ _ _ hm
  obtain ⟨c1_0, c1_1, y1_0, y1_1, n1, rfl, rfl, rfl, t1_0, t1_1⟩ := Joins.open_agg2 Tryd.underlying25 (by kernel_rfl) (by kernel_rfl) (hval 1 25 v1 rfl rfl) h1
  obtain ⟨a1_0, e1_0, rfl, w1_0⟩ := DataW.trod_int Tryd.underlying22 t1_0
  obtain rfl := (List.cons.inj e1_0).1
  obtain ⟨a1_1, e1_1, rfl, w1_1⟩ := DataW.trod_int Tryd.underlying23 t1_1
  obtain rfl := (List.cons.inj e1_1).1
  clear hA0 hval0
  refine (addrTells_run a0_0 a0_1 a1_0 a1_1 W w0_0 w0_1 w1_0 w1_1 (tab_of_laid hL)).mono fun e W' ⟨he, bel⟩ => ?_
  subst he
  exact ⟨_, rfl, _, _, _, [], _, [], hW', trodAll_mk1 (shut_bool Tryd.underlying4 _), (trodAll_cons_mk (Below.trod addrTells_laid (by kernel_rfl) (of_decide_eq_true (by kernel_rfl)) k0 bel lt0) (trodAll_cons_mk (Below.trod addrTells_laid (by kernel_rfl) (of_decide_eq_true (by kernel_rfl)) k1 bel lt1) trodAll_mk0)), rfl, bel.frame _, fun h => by cases h⟩
theorem addrTells_over : Rows.addrTellsRow.holds Tryd.pinned (OpenSpec.ofChange Rows.addrTellsSpec) :=
  OpenClaim.holds_of_wide 3 Tryd.f3 rfl rfl rfl rfl rfl rfl rfl ⟨rfl, rfl, rfl, rfl, rfl⟩ rfl rfl rfl rfl rfl (by kernel_rfl) Tryd.func3 (by kernel_rfl)
    (of_decide_eq_true (by kernel_rfl)) (by unfold Func.isWrapper; first | (rw [if_pos (by decide +kernel)]; kernel_rfl) | (rw [if_neg (by decide +kernel)]; exact ⟨rfl, rfl⟩))
    (fun os started H enc _ => addrTells_lifted os started H enc)
theorem addrTells_holds : Rows.AddrTellsCardSaid :=
  Claim7.holds_tied_plain_at .later [] [.data, .data, .data] true Rows.addrTellsCard.stood.harness false addrTells_over (fun _ h => by cases h) (by kernel_rfl) (fun _ h => by cases h) addrTells_row_tie rfl ⟨rfl, rfl⟩ (by kernel_rfl) rfl
    (fun f fn hf hfn => by
      obtain rfl : f = 3 := Option.some.inj ((show Tryd.prog.funcNamed "scuttlebutt/scuttlebuttlaw03.AddrTells" = some 3 by kernel_rfl).symm.trans hf) |>.symm
      obtain rfl : fn = Tryd.f3 := (Option.some.inj (Tryd.func3.symm.trans hfn)).symm
      exact ⟨by kernel_rfl, fun j t ht => by
        rw [Tryd.params3] at ht
        have hm : t ∈ [25, 25] := by simpa using Array.mem_of_getElem? ht
        have hall : ([25, 25].all fun u => !Tryd.prog.wantsStandIn u) = true := by kernel_rfl
        exact (show Tryd.prog.wantsStandIn t = false by simpa using List.all_eq_true.1 hall t hm)⟩)
    (by kernel_rfl)
#print axioms addrTells_holds
end Go.Proofs.YtdihpiggknhojaaDoor
