/- The statement RecordTells: any two records are right, or not, over one another, or not, joined, put, as the document's own answer does; so are the states' words. No conditions but the row's own: the table of words lies as the program's text lays it. -/
import Derived.Test.YtnmnokmbnjdfoaaDoorRecEx
import Derived.SevenTiedAt
import Derived.ChangeOld
import Derived.ChangeMaps5
import Derived.ShutString
import Derived.OpenShut
import Derived.SizedLaws
import Derived.Lib.SmallJoins
namespace Go.Proofs.YtnmnokmbnjdfoaaDoor
open Go.Sort Go.RowKit Go.BigFrame Go.ChangeShapes Go.WideShapes Go.ChangeAt
open Go.ChangeMaps (open_string shut_string)
set_option linter.unusedVariables false
set_option linter.unusedSimpArgs false

/-- the six cells of a thing -/
def tcs (a : Rec) (o : Bool) : List Value := [.int .i64 a.id, .int .i64 a.st, .int .u32 a.n, .int .u32 a.ip, .int .u16 a.port, .bool o]
/-- both programs put a record so -/
theorem put_both (a : Rec) (ha : a.Ok) : ∃ (s : ByteArray) (ok : Bool), (∀ w, Calls Tryd.prog 12 #[.agg #[.int .i64 a.id, .int .i64 a.st, .int .u32 a.n, .int .u32 a.ip, .int .u16 a.port]] w fun e w' => e = .returned (.tuple #[.string s, .bool ok]) ∧ Below w.heap.size w w') ∧
    (∀ w, Calls Tryd.prog 13 #[.agg #[.int .i64 a.id, .int .i64 a.st, .int .u32 a.n, .int .u32 a.ip, .int .u16 a.port]] w fun e w' => e = .returned (.tuple #[.string s, .bool ok]) ∧ Below w.heap.size w w') := by
  by_cases h : a.right = true
  · exact ⟨putR a, true, put_yes a ha h, rput_yes a ha h⟩
  · have h : a.right = false := by simpa using h
    exact ⟨⟨#[]⟩, false, put_no a ha h, rput_no a ha h⟩
theorem word_at (st : Int) (B : ByteArray) (h : wordB st = B) (w : World) (ht : Tab w) : Calls Tryd.prog 24 #[.int .i64 st] w fun e w' => e = .returned (.string B) ∧ Below w.heap.size w w' :=
  (word_any st w ht).mono fun e w' ⟨h1, h2⟩ => ⟨by rw [h1, h], h2 ▸ Below.refl _ _⟩

set_option maxRecDepth 100000 in
set_option maxHeartbeats 4000000 in
theorem recordTells_walk (a0 b0 : Rec) (oa ob : Bool) (st : Int) (ha0 : a0.Ok) (hb0 : b0.Ok) (hst : -9223372036854775808 ≤ st ∧ st ≤ 9223372036854775807) (w : World) (ht : Tab w) :
    Calls Tryd.prog 3 #[.agg #[.int .i64 a0.id, .int .i64 a0.st, .int .u32 a0.n, .int .u32 a0.ip, .int .u16 a0.port, .bool oa], .agg #[.int .i64 b0.id, .int .i64 b0.st, .int .u32 b0.n, .int .u32 b0.ip, .int .u16 b0.port, .bool ob], .int .i64 st] w fun e w' => e = .returned (.bool true) ∧ Below w.heap.size w w' := by
  obtain ⟨a, ha, _, TA⟩ := thing_any a0 oa ha0
  obtain ⟨b, hb, _, TB⟩ := thing_any b0 ob hb0
  obtain ⟨S, ok, PA, RPA⟩ := put_both a ha
  have TA := Lib.hid TA
  have TB := Lib.hid TB
  have PA := Lib.hid PA
  have RPA := Lib.hid RPA
  have HT := Lib.hid ht
  clear ht ha0 hb0
  go_enter Tryd.func3, Tryd.ntmps3
  have X := Lib.hid ((Cs.new w (tcs a0 oa) 29).alloc (.cells (tcs b0 ob).toArray 29))
  have Y : Hid (Cs (w.heap.size + 1) (tcs b0 ob) ((w.alloc (.cells (tcs a0 oa).toArray 29)).alloc (.cells (tcs b0 ob).toArray 29))) := by
    have := Cs.new (w.alloc (.cells (tcs a0 oa).toArray 29)) (tcs b0 ob) 29
    simp only [World.size_alloc] at this
    exact this
  have hB : Hid (Below w.heap.size w ((w.alloc (.cells (tcs a0 oa).toArray 29)).alloc (.cells (tcs b0 ob).toArray 29))) := by show Below _ _ _; (repeat (first | with_reducible exact Below.refl _ _ | with_reducible refine Below.drew ?_ | with_reducible refine below_drewN ?_ _ | with_reducible refine Below.alloc ?_ (by first | omega | (simp; done) | (simp; omega)) _ | with_reducible refine Below.setCell ?_ (by first | omega | (simp; done) | (simp; omega)) _))
  go_wp2_with fail
  refine (examples_yes _ (HT.out.below hB.out)).mono ?_; rintro e w1 ⟨rfl, d⟩
  replace hB : Hid (Below w.heap.size w _) := (hB.out).trans (d.mono (hB.out).size); replace X := Lib.hid (X.out.keep d); replace Y := Lib.hid (Y.out.keep d); clear d
  have x0 := X.out.cell 0 (.int .i64 a0.id) rfl
  have x1 := X.out.cell 1 (.int .i64 a0.st) rfl
  have x2 := X.out.cell 2 (.int .u32 a0.n) rfl
  have x3 := X.out.cell 3 (.int .u32 a0.ip) rfl
  have x4 := X.out.cell 4 (.int .u16 a0.port) rfl
  have x5 := X.out.cell 5 (.bool oa) rfl
  go_wp2_with fail
  refine (TA.out _).mono ?_; rintro e w2 ⟨rfl, d⟩
  replace hB : Hid (Below w.heap.size w _) := (hB.out).trans (d.mono (hB.out).size); replace Y := Lib.hid (Y.out.keep d); clear d
  clear X x0 x1 x2 x3 x4 x5
  have y0 := Y.out.cell 0 (.int .i64 b0.id) rfl
  have y1 := Y.out.cell 1 (.int .i64 b0.st) rfl
  have y2 := Y.out.cell 2 (.int .u32 b0.n) rfl
  have y3 := Y.out.cell 3 (.int .u32 b0.ip) rfl
  have y4 := Y.out.cell 4 (.int .u16 b0.port) rfl
  have y5 := Y.out.cell 5 (.bool ob) rfl
  have A := Lib.hid (Cs.new w2 (rcs a) 27)
  have ly := Y.out.lt
  go_wp2_with fail
  refine (TB.out _).mono ?_; rintro e w3 ⟨rfl, d⟩
  replace A := Lib.hid (A.out.keep d)
  replace hB : Hid (Below w.heap.size w _) := ((hB.out.alloc (hB.out).size _)).trans (d.mono ((hB.out.alloc (hB.out).size _)).size); clear d
  clear Y y0 y1 y2 y3 y4 y5 TA TB ly
  have B := Lib.hid (Cs.new w3 (rcs b) 27)
  have la := A.out.lt
  obtain ⟨a0_, a1_, a2_, a3_, a4_⟩ := Rb.of A.out
  go_wp2_with fail
  refine (refrec_any a _).mono ?_; rintro e w4 ⟨rfl, d⟩
  replace B := Lib.hid (B.out.keep d)
  replace hB : Hid (Below w.heap.size w _) := ((hB.out.alloc (hB.out).size _)).trans (d.mono ((hB.out.alloc (hB.out).size _)).size); replace A := Lib.hid ((A.out.alloc _).keep d); clear d
  clear a0_ a1_ a2_ a3_ a4_ la
  have P := Lib.hid (Cs.new w4 (rcs a) 34)
  have lb := B.out.lt
  obtain ⟨a0_, a1_, a2_, a3_, a4_⟩ := Rb.of B.out
  go_wp2_with fail
  refine (refrec_any b _).mono ?_; rintro e w5 ⟨rfl, d⟩
  replace P := Lib.hid (P.out.keep d)
  replace hB : Hid (Below w.heap.size w _) := ((hB.out.alloc (hB.out).size _)).trans (d.mono ((hB.out.alloc (hB.out).size _)).size); replace A := Lib.hid ((A.out.alloc _).keep d); replace B := Lib.hid ((B.out.alloc _).keep d); clear d
  clear a0_ a1_ a2_ a3_ a4_ lb
  have Q := Lib.hid (Cs.new w5 (rcs b) 34)
  have la := A.out.lt
  obtain ⟨a0_, a1_, a2_, a3_, a4_⟩ := Rb.of A.out
  go_wp2_with fail
  refine (PA.out _).mono ?_; rintro e w6 ⟨rfl, d⟩
  replace Q := Lib.hid (Q.out.keep d)
  replace hB : Hid (Below w.heap.size w _) := ((hB.out.alloc (hB.out).size _)).trans (d.mono ((hB.out.alloc (hB.out).size _)).size); replace A := Lib.hid ((A.out.alloc _).keep d); replace B := Lib.hid ((B.out.alloc _).keep d); replace P := Lib.hid ((P.out.alloc _).keep d); clear d
  clear a0_ a1_ a2_ a3_ a4_ la
  obtain ⟨a0_, a1_, a2_, a3_, a4_⟩ := Rb.of P.out
  go_wp2_with fail
  refine (RPA.out _).mono ?_; rintro e w7 ⟨rfl, d⟩
  replace hB : Hid (Below w.heap.size w _) := (hB.out).trans (d.mono (hB.out).size); replace A := Lib.hid (A.out.keep d); replace B := Lib.hid (B.out.keep d); replace P := Lib.hid (P.out.keep d); replace Q := Lib.hid (Q.out.keep d); clear d
  clear a0_ a1_ a2_ a3_ a4_ PA RPA
  have HT7 : Hid (Tab w7) := HT.out.below hB.out
  clear HT
  go_upto_region 10 with fail
  dsimp only [List.append]
  have A0 := cell_regrown (A.out.cell 0 (.int .i64 a.id) rfl); have A1 := cell_regrown (A.out.cell 1 (.int .i64 a.st) rfl); have A2 := cell_regrown (A.out.cell 2 (.int .u32 a.n) rfl); have A3 := cell_regrown (A.out.cell 3 (.int .u32 a.ip) rfl); have A4 := cell_regrown (A.out.cell 4 (.int .u16 a.port) rfl)
  have B0 := cell_regrown (B.out.cell 0 (.int .i64 b.id) rfl); have B1 := cell_regrown (B.out.cell 1 (.int .i64 b.st) rfl); have B2 := cell_regrown (B.out.cell 2 (.int .u32 b.n) rfl); have B3 := cell_regrown (B.out.cell 3 (.int .u32 b.ip) rfl); have B4 := cell_regrown (B.out.cell 4 (.int .u16 b.port) rfl)
  have P0 := cell_regrown (P.out.cell 0 (.int .i64 a.id) rfl); have P1 := cell_regrown (P.out.cell 1 (.int .i64 a.st) rfl); have P2 := cell_regrown (P.out.cell 2 (.int .u32 a.n) rfl); have P3 := cell_regrown (P.out.cell 3 (.int .u32 a.ip) rfl); have P4 := cell_regrown (P.out.cell 4 (.int .u16 a.port) rfl)
  have Q0 := cell_regrown (Q.out.cell 0 (.int .i64 b.id) rfl); have Q1 := cell_regrown (Q.out.cell 1 (.int .i64 b.st) rfl); have Q2 := cell_regrown (Q.out.cell 2 (.int .u32 b.n) rfl); have Q3 := cell_regrown (Q.out.cell 3 (.int .u32 b.ip) rfl); have Q4 := cell_regrown (Q.out.cell 4 (.int .u16 b.port) rfl)
  clear A B P Q
  obtain ⟨J, hJ⟩ : ∃ J, joinR a b = J := ⟨_, rfl⟩
  obtain ⟨W1, hW1⟩ : ∃ W, wordB st = W := ⟨_, rfl⟩
  obtain ⟨W2, hW2⟩ : ∃ W, wordB (st.tmod 6) = W := ⟨_, rfl⟩
  have C1 := fun d os => Calls.regrown_of (right_any a.id a.st a.n a.ip a.port ha.ip ha.port (grow (redrawn w7 d) os))
  have C2 := fun d os => Calls.regrown_of (rright_any a.id a.st a.n a.ip a.port ha.ip ha.port (grow (redrawn w7 d) os))
  have C3 := fun d os => Calls.regrown_of (order_rec a b ha hb (grow (redrawn w7 d) os))
  have C4 := fun d os => Calls.regrown_of (rorder_rec a b ha hb (grow (redrawn w7 d) os))
  have C5 := fun d os => Calls.regrown_of (over_rec a b ha hb (grow (redrawn w7 d) os))
  have C6 := fun d os => Calls.regrown_of (rover_rec a b ha hb (grow (redrawn w7 d) os))
  have C7 := fun d os => Calls.regrown_of (join_rec a b ha hb (grow (redrawn w7 d) os))
  have C8 := fun d os => Calls.regrown_of (rjoin_rec a b ha hb (grow (redrawn w7 d) os))
  rw [hJ] at C7 C8
  have C9 := fun d os => Calls.regrown_of (refrec_any J (grow (redrawn w7 d) os))
  have C10 := fun d os => Calls.regrown_of (live_any a.id a.st a.n a.ip a.port (grow (redrawn w7 d) os))
  have C11 := fun d os => Calls.regrown_of (rlive_any a.id a.st a.n a.ip a.port (grow (redrawn w7 d) os))
  have C12 := fun d os => Calls.regrown_of (word_at st W1 hW1 (grow (redrawn w7 d) os) (HT7.out.below (below_regrown w7 d os)))
  have C13 := fun d os => Calls.regrown_of (rword_any st (grow (redrawn w7 d) os))
  have C14 := fun d os => Calls.regrown_of (word_at (st.tmod 6) W2 hW2 (grow (redrawn w7 d) os) (HT7.out.below (below_regrown w7 d os)))
  have C15 := fun d os => Calls.regrown_of (rword_any (st.tmod 6) (grow (redrawn w7 d) os))
  rw [hW1] at C13
  rw [hW2] at C15
  generalize rightI a.id a.st a.ip a.port = R at *
  generalize ordR a b = O at *
  generalize overR a b = V at *
  generalize liveI a.st = L at *
  clear ha hb hJ hW1 hW2
  (refine wp_region_quiet_below (by kernel_rfl) (by kernel_rfl) ?_; (repeat (go_big_quiet_step (first | with_reducible exact C1 _ _ | with_reducible exact C2 _ _ | with_reducible exact C3 _ _ | with_reducible exact C4 _ _ | with_reducible exact C5 _ _ | with_reducible exact C6 _ _ | with_reducible exact C7 _ _ | with_reducible exact C8 _ _ | with_reducible exact C9 _ _ | with_reducible exact C10 _ _ | with_reducible exact C11 _ _ | with_reducible exact C12 _ _ | with_reducible exact C13 _ _ | with_reducible exact C14 _ _ | with_reducible exact C15 _ _))); refine wpQuiet_nil ?_; intro _ hw'; obtain ⟨⟨dq, osq⟩, hw''⟩ := hw'; subst hw'')
  go_wp2
  go_ret
  exact ⟨rfl, hB.out.trans ((below_regrown w7 dq osq).mono hB.out.size)⟩

/-- a record of what came in -/
theorem rec_of {i st n ip port : Int} (h1 : (Lit.int .u32 n).wf = true) (h2 : (Lit.int .u32 ip).wf = true) (h3 : (Lit.int .u16 port).wf = true) : ∃ a : Rec, a.Ok ∧ a.id = i ∧ a.st = st ∧ (a.n : Int) = n ∧ (a.ip : Int) = ip ∧ (a.port : Int) = port := by
  have b1 := bounds_u32 h1
  have b2 := bounds_u32 h2
  have b3 := bounds_u16 h3
  obtain ⟨n, rfl⟩ := Int.eq_ofNat_of_zero_le b1.1
  obtain ⟨ip, rfl⟩ := Int.eq_ofNat_of_zero_le b2.1
  obtain ⟨port, rfl⟩ := Int.eq_ofNat_of_zero_le b3.1
  exact ⟨⟨i, st, n, ip, port⟩, ⟨by show n < _; omega, by show ip < _; omega, by show port < _; omega⟩, rfl, rfl, rfl, rfl, rfl⟩
theorem recordTells_run (i1 s1 n1 p1 q1 : Int) (o1 : Bool) (i2 s2 n2 p2 q2 : Int) (o2 : Bool) (st : Int) (w : World) (_ : (Lit.int .i64 i1).wf = true) (_ : (Lit.int .i64 s1).wf = true) (h1 : (Lit.int .u32 n1).wf = true) (h2 : (Lit.int .u32 p1).wf = true) (h3 : (Lit.int .u16 q1).wf = true)
    (_ : (Lit.int .i64 i2).wf = true) (_ : (Lit.int .i64 s2).wf = true) (g1 : (Lit.int .u32 n2).wf = true) (g2 : (Lit.int .u32 p2).wf = true) (g3 : (Lit.int .u16 q2).wf = true) (hs : (Lit.int .i64 st).wf = true) (ht : Tab w) :
    Calls Tryd.prog 3 #[.agg #[.int .i64 i1, .int .i64 s1, .int .u32 n1, .int .u32 p1, .int .u16 q1, .bool o1], .agg #[.int .i64 i2, .int .i64 s2, .int .u32 n2, .int .u32 p2, .int .u16 q2, .bool o2], .int .i64 st] w fun e w' => e = .returned (.bool true) ∧ Below w.heap.size w w' := by
  obtain ⟨a, ha, rfl, rfl, rfl, rfl, rfl⟩ := rec_of (i := i1) (st := s1) h1 h2 h3
  obtain ⟨b, hb, rfl, rfl, rfl, rfl, rfl⟩ := rec_of (i := i2) (st := s2) g1 g2 g3
  exact recordTells_walk a b o1 o2 st ha hb (bounds_i64 hs) w ht


theorem recordTells_own : ownKnob Tryd.prog.godebug = none := by kernel_rfl
theorem recordTells_laid : laidOutB Tryd.prog = true := by kernel_rfl
set_option maxRecDepth 100000 in
theorem recordTells_lifted (os : Os) (started : os.Started) (H : Type) (enc : TypeId × Value → H) :
    ReturnsInHanded {} Tryd.checked os 3 .any (fun w args => (Rows.recordTellsSpec.pre enc Tryd.prog Tryd.f3 [] false w args ∧ laidMetH Tryd.prog seatLaid w) ∧ sizedMet enc Tryd.prog Tryd.f3 (OpenSpec.ofChange Rows.recordTellsSpec) false w args) (Rows.recordTellsSpec.post enc Tryd.prog Tryd.f3 false true false false) := by
  refine returnsInHanded_of_change_and (C := Tryd.checked) (X := fun w _ => laidMetH Tryd.prog seatLaid w) (fun _ _ _ hh h => h.of_heap hh) recordTells_own started (by kernel_rfl) Tryd.func3
    (ChangeSpec.witness_shaped (enc := enc) (C := Tryd.checked) (os := os) (X := fun w _ => laidMetH Tryd.prog seatLaid w) false (World.doorLaid Tryd.prog seatSteps os) #[.agg #[.int .i64 0, .int .i64 0, .int .u32 0, .int .u32 0, .int .u16 0, .bool false], .agg #[.int .i64 0, .int .i64 0, .int .u32 0, .int .u32 0, .int .u16 0, .bool false], .int .i64 0] 8 rfl (World.shaped_of_RefB (by kernel_rfl) (by kernel_rfl)) (by kernel_rfl) (by kernel_rfl) (by kernel_rfl) (door_met os _)) ?_
  intro W base args ds gs before hval0 hW hcnd hsz hL _
  have hval : ∀ (j : Nat) t v, Tryd.f3.params[j]? = some t → args[j]? = some v → Value.okWide Tryd.prog W .any base t v := hval0
  have hW' := hW
  obtain ⟨p, q, hA0, hV, rfl, hfz, hnd⟩ := hW
  have hA : DataW.TrodAll enc Tryd.prog W 0 (fun _ => true) true Tryd.f3.params.toList args.toList ds p := hA0
  rw [Tryd.params3] at hA hval
  obtain ⟨v0, vs0, d0, ds0, p0, q0, hargs, rfl, rfl, h0, r0⟩ := trodAll_cons hA
  obtain ⟨v1, vs1, d1, ds1, p1, q1, rfl, rfl, rfl, h1, r1⟩ := trodAll_cons r0
  obtain ⟨v2, vs2, d2, ds2, p2, q2, rfl, rfl, rfl, h2, r2⟩ := trodAll_cons r1
  obtain ⟨rfl, rfl, rfl⟩ := trodAll_nil r2
  obtain rfl : args = #[v0, v1, v2] := by cases args; simp_all
  obtain ⟨rfl, rfl⟩ := trodVars_none hV
  have k0 := h0
  have lt0 : ∀ x ∈ p0, x.block < W.heap.size := by obtain ⟨m, hm⟩ := k0; exact DataW.trod_lt m _ _ _ hm
  obtain ⟨a0_0, a0_1, a0_2, a0_3, a0_4, a0_5, rfl, w0_0, w0_1, w0_2, w0_3, w0_4⟩ := open_thing (hval 0 29 v0 rfl rfl) h0
  have k1 := h1
  have lt1 : ∀ x ∈ p1, x.block < W.heap.size := by obtain ⟨m, hm⟩ := k1; exact DataW.trod_lt m _ _ _ hm
  obtain ⟨a1_0, a1_1, a1_2, a1_3, a1_4, a1_5, rfl, w1_0, w1_1, w1_2, w1_3, w1_4⟩ := open_thing (hval 1 29 v1 rfl rfl) h1
  obtain ⟨a2, rfl, rfl, rfl, w2⟩ := open_int Tryd.underlying3 (hval 2 3 v2 rfl rfl) h2
  clear hA0 hval0
  refine (recordTells_run a0_0 a0_1 a0_2 a0_3 a0_4 a0_5 a1_0 a1_1 a1_2 a1_3 a1_4 a1_5 a2 W w0_0 w0_1 w0_2 w0_3 w0_4 w1_0 w1_1 w1_2 w1_3 w1_4 w2 (tab_of_laid hL)).mono fun e W' ⟨he, bel⟩ => ?_
  subst he
  exact ⟨_, rfl, _, _, _, [], _, [], hW', trodAll_mk1 (shut_bool Tryd.underlying4 _), (trodAll_cons_mk (Below.trod recordTells_laid (by kernel_rfl) (of_decide_eq_true (by kernel_rfl)) k0 bel lt0) (trodAll_cons_mk (Below.trod recordTells_laid (by kernel_rfl) (of_decide_eq_true (by kernel_rfl)) k1 bel lt1) (trodAll_cons_mk (shut_int Tryd.underlying3 w2) trodAll_mk0))), rfl, bel.frame _, fun h => by cases h⟩
theorem recordTells_over : Rows.recordTellsRow.holds Tryd.pinned (OpenSpec.ofChange Rows.recordTellsSpec) :=
  OpenClaim.holds_of_wide 3 Tryd.f3 rfl rfl rfl rfl rfl rfl rfl ⟨rfl, rfl, rfl, rfl, rfl⟩ rfl rfl rfl rfl rfl (by kernel_rfl) Tryd.func3 (by kernel_rfl)
    (of_decide_eq_true (by kernel_rfl)) (by unfold Func.isWrapper; first | (rw [if_pos (by decide +kernel)]; kernel_rfl) | (rw [if_neg (by decide +kernel)]; exact ⟨rfl, rfl⟩))
    (fun os started H enc _ => recordTells_lifted os started H enc)
theorem recordTells_holds : Rows.RecordTellsCardSaid :=
  Claim7.holds_tied_plain_at .later [] [.data] true Rows.recordTellsCard.stood.harness false recordTells_over (fun _ h => by cases h) (by kernel_rfl) (fun _ h => by cases h) recordTells_row_tie rfl ⟨rfl, rfl⟩ (by kernel_rfl) rfl
    (fun f fn hf hfn => by
      obtain rfl : f = 3 := Option.some.inj ((show Tryd.prog.funcNamed "scuttlebutt/scuttlebuttlaw04.RecordTells" = some 3 by kernel_rfl).symm.trans hf) |>.symm
      obtain rfl : fn = Tryd.f3 := (Option.some.inj (Tryd.func3.symm.trans hfn)).symm
      exact ⟨by kernel_rfl, fun j t ht => by
        rw [Tryd.params3] at ht
        have hm : t ∈ [29, 29, 3] := by simpa using Array.mem_of_getElem? ht
        have hall : ([29, 29, 3].all fun u => !Tryd.prog.wantsStandIn u) = true := by kernel_rfl
        exact (show Tryd.prog.wantsStandIn t = false by simpa using List.all_eq_true.1 hall t hm)⟩)
    (by kernel_rfl)
#print axioms recordTells_holds
end Go.Proofs.YtnmnokmbnjdfoaaDoor
