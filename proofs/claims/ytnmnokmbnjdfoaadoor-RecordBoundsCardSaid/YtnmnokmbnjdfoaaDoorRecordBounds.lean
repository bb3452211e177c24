/- The statement RecordBounds: a record is right just if its ID and its state are in their bounds, and it has an address; then alone it is put; it is live, and has a word, just in its states; for every thing, and every record near to the bounds. No conditions but the row's own: the table of words lies as the program's text lays it. -/
import Derived.Test.YtnmnokmbnjdfoaaDoorRecordTells
import Derived.Deep.DeepCutAuto
namespace Go.Proofs.YtnmnokmbnjdfoaaDoor
open Go.Sort Go.RowKit Go.BigFrame Go.ChangeShapes Go.WideShapes Go.ChangeAt
open Go.ChangeMaps (open_string shut_string)
set_option linter.unusedVariables false
set_option linter.unusedSimpArgs false

theorem right_at {a : Rec} {b : Bool} (h : rightI a.id a.st a.ip a.port = b) (ha : a.Ok) (w : World) :
    Calls Tryd.prog 14 #[.agg #[.int .i64 a.id, .int .i64 a.st, .int .u32 a.n, .int .u32 a.ip, .int .u16 a.port]] w fun e w' => e = .returned (.bool b) ∧ Below w.heap.size w w' := by
  rw [← h]; exact right_any a.id a.st a.n a.ip a.port ha.ip ha.port w
theorem live_at {id st : Int} {n ip port : Nat} {b : Bool} (h : liveI st = b) (w : World) : Calls Tryd.prog 22 #[.agg #[.int .i64 id, .int .i64 st, .int .u32 n, .int .u32 ip, .int .u16 port]] w fun e w' => e = .returned (.bool b) ∧ Below w.heap.size w w' := by
  rw [← h]; exact live_any id st n ip port w
/-- what is put of a record: as its being right says -/
theorem put_is (a : Rec) (ha : a.Ok) : ∃ S : ByteArray, ((rightI a.id a.st a.ip a.port = true ∧ S.size = 12 ∧ S.toList.isEmpty = false) ∨ (rightI a.id a.st a.ip a.port = false ∧ S = ⟨#[]⟩)) ∧ ∀ w, Calls Tryd.prog 12 #[.agg #[.int .i64 a.id, .int .i64 a.st, .int .u32 a.n, .int .u32 a.ip, .int .u16 a.port]] w fun e w' => e = .returned (.tuple #[.string S, .bool (rightI a.id a.st a.ip a.port)]) ∧ Below w.heap.size w w' := by
  by_cases h : a.right = true
  · have h2 : rightI a.id a.st a.ip a.port = true := h
    refine ⟨putR a, .inl ⟨h2, putR_size a, ?_⟩, ?_⟩
    · rw [ByteArray.toList_eq]
      cases hl : (putR a).data.toList with
      | nil => have := ba_len (putR a); rw [hl, putR_size] at this; simp at this
      | cons c l => rfl
    · rw [h2]; exact put_yes a ha h
  · have h : a.right = false := by simpa using h
    have h2 : rightI a.id a.st a.ip a.port = false := h
    refine ⟨⟨#[]⟩, .inr ⟨h2, rfl⟩, ?_⟩
    rw [h2]; exact put_no a ha h
/-- a state's word, its being live -/
structure StF (st : Int) (L : Bool) (W : ByteArray) : Prop where
  live : liveI st = L
  word : wordB st = W
def NearJ (g : Nat) (w wx : World) : Prop := ∃ a : Rec, a.Ok ∧ Cs g (rcs a) wx ∧ Below w.heap.size w wx
def WantJ (R : Bool) (w0 : World) (v : Value) (w' : World) : Prop := v = .bool R ∧ w' = w0

set_option maxRecDepth 100000 in
set_option maxHeartbeats 40000000 in
theorem recordBounds_walk (t1 : Rec) (o1 : Bool) (ht1 : t1.Ok) (id st : Int) (near : Bool) (wid : (Lit.int .u8 id).wf = true) (wst : (Lit.int .u8 st).wf = true) (w : World) (ht : Tab w) :
    Calls Tryd.prog 8 #[.agg #[.int .i64 t1.id, .int .i64 t1.st, .int .u32 t1.n, .int .u32 t1.ip, .int .u16 t1.port, .bool o1], .int .u8 id, .int .u8 st, .bool near] w fun e w' => e = .returned (.bool true) ∧ Below w.heap.size w w' := by
  obtain ⟨a', ha', _, TA⟩ := thing_any t1 o1 ht1
  have TA := Lib.hid TA
  have HT := Lib.hid ht
  have bi := bounds_u8 wid
  have bs := bounds_u8 wst
  obtain ⟨i, hi⟩ : ∃ i, id % 40 = i := ⟨_, rfl⟩
  obtain ⟨s, hs⟩ : ∃ s, st % 8 = s := ⟨_, rfl⟩
  have hi2 : id.tmod 40 = i := by rw [tmod_pos _ _ (by omega)]; exact hi
  have hs2 : st.tmod 8 = s := by rw [tmod_pos _ _ (by omega)]; exact hs
  have c1 := IntWalk.i64_in i ⟨by omega, by omega⟩
  have c2 := IntWalk.i64_in s ⟨by omega, by omega⟩
  have c3 := IntWalk.i64_in (i - 3) ⟨by omega, by omega⟩
  have c4 := IntWalk.i64_in (s - 2) ⟨by omega, by omega⟩
  clear ht ht1 wid wst bi bs
  go_enter Tryd.func8, Tryd.ntmps8
  have X := Lib.hid (Cs.new w (tcs t1 o1) 29)
  have hB : Hid (Below w.heap.size w (w.alloc (.cells (tcs t1 o1).toArray 29))) := by show Below _ _ _; (repeat (first | with_reducible exact Below.refl _ _ | with_reducible refine Below.drew ?_ | with_reducible refine below_drewN ?_ _ | with_reducible refine Below.alloc ?_ (by first | omega | (simp; done) | (simp; omega)) _ | with_reducible refine Below.setCell ?_ (by first | omega | (simp; done) | (simp; omega)) _))
  go_wp2_with fail
  refine (examples_yes _ (HT.out.below hB.out)).mono ?_; rintro e w1 ⟨rfl, d⟩
  replace hB : Hid (Below w.heap.size w _) := (hB.out).trans (d.mono (hB.out).size); replace X := Lib.hid (X.out.keep d); clear d
  have x0 := X.out.cell 0 (.int .i64 t1.id) rfl
  have x1 := X.out.cell 1 (.int .i64 t1.st) rfl
  have x2 := X.out.cell 2 (.int .u32 t1.n) rfl
  have x3 := X.out.cell 3 (.int .u32 t1.ip) rfl
  have x4 := X.out.cell 4 (.int .u16 t1.port) rfl
  have x5 := X.out.cell 5 (.bool o1) rfl
  clear X
  go_wp2_with fail
  refine (TA.out _).mono ?_; rintro e w2 ⟨rfl, d⟩
  replace hB : Hid (Below w.heap.size w _) := (hB.out).trans (d.mono (hB.out).size); clear d
  clear x0 x1 x2 x3 x4 x5 TA
  have A : Hid (Cs w2.heap.size (rcs a') (w2.alloc (.cells #[.int .i64 a'.id, .int .i64 a'.st, .int .u32 a'.n, .int .u32 a'.ip, .int .u16 a'.port] 27))) := Cs.new w2 (rcs a') 27
  have lo : w.heap.size ≤ w2.heap.size := hB.out.size
  replace hB : Hid (Below w.heap.size w (w2.alloc (.cells #[.int .i64 a'.id, .int .i64 a'.st, .int .u32 a'.n, .int .u32 a'.ip, .int .u16 a'.port] 27))) := hB.out.alloc hB.out.size _
  go_upto_if 19 with fail
  generalize (w2.alloc (.cells #[.int .i64 a'.id, .int .i64 a'.st, .int .u32 a'.n, .int .u32 a'.ip, .int .u16 a'.port] 27)) = w3 at *
  have fa := A.out.free 0 _ rfl
  have fb := A.out.free 1 _ rfl
  have ca := A.out.cell 0 _ rfl
  have cb := A.out.cell 1 _ rfl
  go_cut [] (fun wx => NearJ w2.heap.size w wx)
  case first =>
    cases near
    · go_wp2
      go_meet
      exact ⟨a', ha', A.out, hB.out⟩
    · go_wp2
      go_meet
      exact ⟨⟨i - 3, s - 2, a'.n, a'.ip, a'.port⟩, ⟨ha'.n, ha'.ip, ha'.port⟩, (A.out.set 0 (.int .i64 (i - 3)) (by simp [rcs])).set 1 (.int .i64 (s - 2)) (by simp [rcs]), (hB.out.setCell (p := ⟨w2.heap.size, 0, none⟩) lo (.int .i64 (i - 3))).setCell (p := ⟨w2.heap.size, 1, none⟩) lo (.int .i64 (s - 2))⟩
  case rest =>
    obtain ⟨a, ha, A2, hB2⟩ := hcut
    generalize wc = w4 at *
    have HA := Lib.hid A2
    have hBB := Lib.hid hB2
    obtain ⟨a0, a1, a2, a3, a4⟩ := Rb.of A2
    clear A hB A2 hB2 hi hs hi2 hs2 c1 c2 c3 c4 fa fb ca cb ha' lo
    go_upto_region 8 with fail
    obtain ⟨R, hR⟩ : ∃ R, rightI a.id a.st a.ip a.port = R := ⟨_, rfl⟩
    go_cut [11] (fun v wx => WantJ R w4 v wx)
    case first =>
      go_wp2
      all_goals go_meet
      all_goals exact ⟨by rw [← hR]; exact congrArg Value.bool (by unfold rightI stI noneI; rw [Bool.eq_iff_iff]; simp; omega), rfl⟩
    case rest =>
      obtain ⟨rfl, rfl⟩ := hcut
      obtain ⟨S, hS, PUT⟩ := put_is a ha
      rw [hR] at PUT hS
      have PUT := Lib.hid PUT
      go_wp2_with fail
      refine (PUT.out _).mono ?_; rintro e w9 ⟨rfl, d⟩
      have A9 := Lib.hid (HA.out.keep d)
      have hB : Hid (Below w.heap.size w w9) := hBB.out.trans (d.mono hBB.out.size)
      have HT9 : Hid (Tab w9) := HT.out.below hB.out
      clear d HA hBB PUT a0 a1 a2 a3 a4 HT
      go_upto_region 10 with fail
      have A := A9
      clear A9
      have A0 := cell_regrown (A.out.cell 0 (.int .i64 a.id) rfl); have A1 := cell_regrown (A.out.cell 1 (.int .i64 a.st) rfl); have A2 := cell_regrown (A.out.cell 2 (.int .u32 a.n) rfl); have A3 := cell_regrown (A.out.cell 3 (.int .u32 a.ip) rfl); have A4 := cell_regrown (A.out.cell 4 (.int .u16 a.port) rfl)
      clear A
      have hc : (a.st < 0) ∨ (a.st = 0) ∨ (a.st = 1) ∨ (2 ≤ a.st ∧ a.st ≤ 3) ∨ (3 < a.st) := by omega
      rcases hS with ⟨rfl, hz, hne⟩ | ⟨rfl, rfl⟩
      · rcases hc with c | c | c | c | c
        · exfalso
          unfold rightI stI at hR
          simp at hR
          omega
        · have n0 : (a.st == 0) = true := by rw [beq_iff_eq]; omega
          have n1 : (a.st == 1) = false := by rw [beq_eq_false_iff_ne]; omega
          have hL : liveI a.st = true := by unfold liveI; simp; omega
          have hW : wordB a.st = wAlive := by unfold wordB; rw [if_pos (by omega)]
          have hw : wAlive.toList.isEmpty = false := by decide +kernel
          generalize wAlive = WW at *
          have m1 : decide (0 ≤ a.st) = true := by simp; omega
          have m2 : decide (a.st ≤ 3) = true := by simp; omega
          have C2 := fun d os => Calls.regrown_of (live_at (id := a.id) (n := a.n) (ip := a.ip) (port := a.port) hL (grow (redrawn w9 d) os))
          have C3 := fun d os => Calls.regrown_of (word_at a.st _ hW (grow (redrawn w9 d) os) (HT9.out.below (below_regrown w9 d os)))
          have C1 := fun d os => Calls.regrown_of (right_at hR ha (grow (redrawn w9 d) os))
          clear hR hL hW ha c
          (refine wp_region_quiet_below (by kernel_rfl) (by kernel_rfl) ?_; (repeat (go_big_quiet_step (first | with_reducible exact C1 _ _ | with_reducible exact C2 _ _ | with_reducible exact C3 _ _))); refine wpQuiet_nil ?_; intro _ hw'; obtain ⟨⟨dq, osq⟩, hw''⟩ := hw'; subst hw'')
          go_wp2
          go_ret
          exact ⟨rfl, hB.out.trans ((below_regrown w9 dq osq).mono hB.out.size)⟩
        · have n0 : (a.st == 0) = false := by rw [beq_eq_false_iff_ne]; omega
          have n1 : (a.st == 1) = true := by rw [beq_iff_eq]; omega
          have hL : liveI a.st = true := by unfold liveI; simp; omega
          have hW : wordB a.st = wSuspect := by unfold wordB; rw [if_neg (by omega), if_pos (by omega)]
          have hw : wSuspect.toList.isEmpty = false := by decide +kernel
          generalize wSuspect = WW at *
          have m1 : decide (0 ≤ a.st) = true := by simp; omega
          have m2 : decide (a.st ≤ 3) = true := by simp; omega
          have C2 := fun d os => Calls.regrown_of (live_at (id := a.id) (n := a.n) (ip := a.ip) (port := a.port) hL (grow (redrawn w9 d) os))
          have C3 := fun d os => Calls.regrown_of (word_at a.st _ hW (grow (redrawn w9 d) os) (HT9.out.below (below_regrown w9 d os)))
          have C1 := fun d os => Calls.regrown_of (right_at hR ha (grow (redrawn w9 d) os))
          clear hR hL hW ha c
          (refine wp_region_quiet_below (by kernel_rfl) (by kernel_rfl) ?_; (repeat (go_big_quiet_step (first | with_reducible exact C1 _ _ | with_reducible exact C2 _ _ | with_reducible exact C3 _ _))); refine wpQuiet_nil ?_; intro _ hw'; obtain ⟨⟨dq, osq⟩, hw''⟩ := hw'; subst hw'')
          go_wp2
          go_ret
          exact ⟨rfl, hB.out.trans ((below_regrown w9 dq osq).mono hB.out.size)⟩
        · have n0 : (a.st == 0) = false := by rw [beq_eq_false_iff_ne]; omega
          have n1 : (a.st == 1) = false := by rw [beq_eq_false_iff_ne]; omega
          have hL : liveI a.st = false := by unfold liveI; simp; omega
          obtain ⟨WW, hW, hw⟩ : ∃ WW, wordB a.st = WW ∧ WW.toList.isEmpty = false := by
            have c2 : a.st = 2 ∨ a.st = 3 := by omega
            rcases c2 with e | e <;> rw [e] <;> exact ⟨_, rfl, by decide +kernel⟩
          have m1 : decide (0 ≤ a.st) = true := by simp; omega
          have m2 : decide (a.st ≤ 3) = true := by simp; omega
          have C2 := fun d os => Calls.regrown_of (live_at (id := a.id) (n := a.n) (ip := a.ip) (port := a.port) hL (grow (redrawn w9 d) os))
          have C3 := fun d os => Calls.regrown_of (word_at a.st _ hW (grow (redrawn w9 d) os) (HT9.out.below (below_regrown w9 d os)))
          have C1 := fun d os => Calls.regrown_of (right_at hR ha (grow (redrawn w9 d) os))
          clear hR hL hW ha c
          (refine wp_region_quiet_below (by kernel_rfl) (by kernel_rfl) ?_; (repeat (go_big_quiet_step (first | with_reducible exact C1 _ _ | with_reducible exact C2 _ _ | with_reducible exact C3 _ _))); refine wpQuiet_nil ?_; intro _ hw'; obtain ⟨⟨dq, osq⟩, hw''⟩ := hw'; subst hw'')
          go_wp2
          go_ret
          exact ⟨rfl, hB.out.trans ((below_regrown w9 dq osq).mono hB.out.size)⟩
        · exfalso
          unfold rightI stI at hR
          simp at hR
          omega
      · rcases hc with c | c | c | c | c
        · have n0 : (a.st == 0) = false := by rw [beq_eq_false_iff_ne]; omega
          have n1 : (a.st == 1) = false := by rw [beq_eq_false_iff_ne]; omega
          have hL : liveI a.st = false := by unfold liveI; simp; omega
          have hW : wordB a.st = ⟨#[]⟩ := by unfold wordB; rw [if_neg (by omega), if_neg (by omega), if_neg (by omega), if_neg (by omega)]
          have m1 : decide (0 ≤ a.st) = false := by simp; omega
          have C2 := fun d os => Calls.regrown_of (live_at (id := a.id) (n := a.n) (ip := a.ip) (port := a.port) hL (grow (redrawn w9 d) os))
          have C3 := fun d os => Calls.regrown_of (word_at a.st _ hW (grow (redrawn w9 d) os) (HT9.out.below (below_regrown w9 d os)))
          have C1 := fun d os => Calls.regrown_of (right_at hR ha (grow (redrawn w9 d) os))
          clear hR hL hW ha c
          (refine wp_region_quiet_below (by kernel_rfl) (by kernel_rfl) ?_; (repeat (go_big_quiet_step (first | with_reducible exact C1 _ _ | with_reducible exact C2 _ _ | with_reducible exact C3 _ _))); refine wpQuiet_nil ?_; intro _ hw'; obtain ⟨⟨dq, osq⟩, hw''⟩ := hw'; subst hw'')
          go_wp2
          go_ret
          exact ⟨rfl, hB.out.trans ((below_regrown w9 dq osq).mono hB.out.size)⟩
        · have n0 : (a.st == 0) = true := by rw [beq_iff_eq]; omega
          have n1 : (a.st == 1) = false := by rw [beq_eq_false_iff_ne]; omega
          have hL : liveI a.st = true := by unfold liveI; simp; omega
          have hW : wordB a.st = wAlive := by unfold wordB; rw [if_pos (by omega)]
          have hw : wAlive.toList.isEmpty = false := by decide +kernel
          generalize wAlive = WW at *
          have m1 : decide (0 ≤ a.st) = true := by simp; omega
          have m2 : decide (a.st ≤ 3) = true := by simp; omega
          have C2 := fun d os => Calls.regrown_of (live_at (id := a.id) (n := a.n) (ip := a.ip) (port := a.port) hL (grow (redrawn w9 d) os))
          have C3 := fun d os => Calls.regrown_of (word_at a.st _ hW (grow (redrawn w9 d) os) (HT9.out.below (below_regrown w9 d os)))
          have C1 := fun d os => Calls.regrown_of (right_at hR ha (grow (redrawn w9 d) os))
          clear hR hL hW ha c
          (refine wp_region_quiet_below (by kernel_rfl) (by kernel_rfl) ?_; (repeat (go_big_quiet_step (first | with_reducible exact C1 _ _ | with_reducible exact C2 _ _ | with_reducible exact C3 _ _))); refine wpQuiet_nil ?_; intro _ hw'; obtain ⟨⟨dq, osq⟩, hw''⟩ := hw'; subst hw'')
          go_wp2
          go_ret
          exact ⟨rfl, hB.out.trans ((below_regrown w9 dq osq).mono hB.out.size)⟩
        · have n0 : (a.st == 0) = false := by rw [beq_eq_false_iff_ne]; omega
          have n1 : (a.st == 1) = true := by rw [beq_iff_eq]; omega
          have hL : liveI a.st = true := by unfold liveI; simp; omega
          have hW : wordB a.st = wSuspect := by unfold wordB; rw [if_neg (by omega), if_pos (by omega)]
          have hw : wSuspect.toList.isEmpty = false := by decide +kernel
          generalize wSuspect = WW at *
          have m1 : decide (0 ≤ a.st) = true := by simp; omega
          have m2 : decide (a.st ≤ 3) = true := by simp; omega
          have C2 := fun d os => Calls.regrown_of (live_at (id := a.id) (n := a.n) (ip := a.ip) (port := a.port) hL (grow (redrawn w9 d) os))
          have C3 := fun d os => Calls.regrown_of (word_at a.st _ hW (grow (redrawn w9 d) os) (HT9.out.below (below_regrown w9 d os)))
          have C1 := fun d os => Calls.regrown_of (right_at hR ha (grow (redrawn w9 d) os))
          clear hR hL hW ha c
          (refine wp_region_quiet_below (by kernel_rfl) (by kernel_rfl) ?_; (repeat (go_big_quiet_step (first | with_reducible exact C1 _ _ | with_reducible exact C2 _ _ | with_reducible exact C3 _ _))); refine wpQuiet_nil ?_; intro _ hw'; obtain ⟨⟨dq, osq⟩, hw''⟩ := hw'; subst hw'')
          go_wp2
          go_ret
          exact ⟨rfl, hB.out.trans ((below_regrown w9 dq osq).mono hB.out.size)⟩
        · have n0 : (a.st == 0) = false := by rw [beq_eq_false_iff_ne]; omega
          have n1 : (a.st == 1) = false := by rw [beq_eq_false_iff_ne]; omega
          have hL : liveI a.st = false := by unfold liveI; simp; omega
          obtain ⟨WW, hW, hw⟩ : ∃ WW, wordB a.st = WW ∧ WW.toList.isEmpty = false := by
            have c2 : a.st = 2 ∨ a.st = 3 := by omega
            rcases c2 with e | e <;> rw [e] <;> exact ⟨_, rfl, by decide +kernel⟩
          have m1 : decide (0 ≤ a.st) = true := by simp; omega
          have m2 : decide (a.st ≤ 3) = true := by simp; omega
          have C2 := fun d os => Calls.regrown_of (live_at (id := a.id) (n := a.n) (ip := a.ip) (port := a.port) hL (grow (redrawn w9 d) os))
          have C3 := fun d os => Calls.regrown_of (word_at a.st _ hW (grow (redrawn w9 d) os) (HT9.out.below (below_regrown w9 d os)))
          have C1 := fun d os => Calls.regrown_of (right_at hR ha (grow (redrawn w9 d) os))
          clear hR hL hW ha c
          (refine wp_region_quiet_below (by kernel_rfl) (by kernel_rfl) ?_; (repeat (go_big_quiet_step (first | with_reducible exact C1 _ _ | with_reducible exact C2 _ _ | with_reducible exact C3 _ _))); refine wpQuiet_nil ?_; intro _ hw'; obtain ⟨⟨dq, osq⟩, hw''⟩ := hw'; subst hw'')
          go_wp2
          go_ret
          exact ⟨rfl, hB.out.trans ((below_regrown w9 dq osq).mono hB.out.size)⟩
        · have n0 : (a.st == 0) = false := by rw [beq_eq_false_iff_ne]; omega
          have n1 : (a.st == 1) = false := by rw [beq_eq_false_iff_ne]; omega
          have hL : liveI a.st = false := by unfold liveI; simp; omega
          have hW : wordB a.st = ⟨#[]⟩ := by unfold wordB; rw [if_neg (by omega), if_neg (by omega), if_neg (by omega), if_neg (by omega)]
          have m1 : decide (0 ≤ a.st) = true := by simp; omega
          have m2 : decide (a.st ≤ 3) = false := by simp; omega
          have C2 := fun d os => Calls.regrown_of (live_at (id := a.id) (n := a.n) (ip := a.ip) (port := a.port) hL (grow (redrawn w9 d) os))
          have C3 := fun d os => Calls.regrown_of (word_at a.st _ hW (grow (redrawn w9 d) os) (HT9.out.below (below_regrown w9 d os)))
          have C1 := fun d os => Calls.regrown_of (right_at hR ha (grow (redrawn w9 d) os))
          clear hR hL hW ha c
          (refine wp_region_quiet_below (by kernel_rfl) (by kernel_rfl) ?_; (repeat (go_big_quiet_step (first | with_reducible exact C1 _ _ | with_reducible exact C2 _ _ | with_reducible exact C3 _ _))); refine wpQuiet_nil ?_; intro _ hw'; obtain ⟨⟨dq, osq⟩, hw''⟩ := hw'; subst hw'')
          go_wp2
          go_ret
          exact ⟨rfl, hB.out.trans ((below_regrown w9 dq osq).mono hB.out.size)⟩

theorem recordBounds_run (i1 s1 n1 p1 q1 : Int) (o1 : Bool) (id st : Int) (near : Bool) (w : World) (_ : (Lit.int .i64 i1).wf = true) (_ : (Lit.int .i64 s1).wf = true) (h1 : (Lit.int .u32 n1).wf = true) (g1 : (Lit.int .u32 p1).wf = true) (k1 : (Lit.int .u16 q1).wf = true) (wi : (Lit.int .u8 id).wf = true) (ws : (Lit.int .u8 st).wf = true) (ht : Tab w) :
    Calls Tryd.prog 8 #[.agg #[.int .i64 i1, .int .i64 s1, .int .u32 n1, .int .u32 p1, .int .u16 q1, .bool o1], .int .u8 id, .int .u8 st, .bool near] w fun e w' => e = .returned (.bool true) ∧ Below w.heap.size w w' := by
  obtain ⟨t1, ht1, rfl, rfl, rfl, rfl, rfl⟩ := rec_of (i := i1) (st := s1) h1 g1 k1
  exact recordBounds_walk t1 o1 ht1 id st near wi ws w ht


theorem recordBounds_own : ownKnob Tryd.prog.godebug = none := by kernel_rfl
theorem recordBounds_laid : laidOutB Tryd.prog = true := by kernel_rfl
set_option maxRecDepth 100000 in
theorem recordBounds_lifted (os : Os) (started : os.Started) (H : Type) (enc : TypeId × Value → H) :
    ReturnsInHanded {} Tryd.checked os 8 .any (fun w args => (Rows.recordBoundsSpec.pre enc Tryd.prog Tryd.f8 [] false w args ∧ laidMetH Tryd.prog seatLaid w) ∧ sizedMet enc Tryd.prog Tryd.f8 (OpenSpec.ofChange Rows.recordBoundsSpec) false w args) (Rows.recordBoundsSpec.post enc Tryd.prog Tryd.f8 false true false false) := by
  refine returnsInHanded_of_change_and (C := Tryd.checked) (X := fun w _ => laidMetH Tryd.prog seatLaid w) (fun _ _ _ hh h => h.of_heap hh) recordBounds_own started (by kernel_rfl) Tryd.func8
    (ChangeSpec.witness_shaped (enc := enc) (C := Tryd.checked) (os := os) (X := fun w _ => laidMetH Tryd.prog seatLaid w) false (World.doorLaid Tryd.prog seatSteps os) #[.agg #[.int .i64 0, .int .i64 0, .int .u32 0, .int .u32 0, .int .u16 0, .bool false], .int .u8 0, .int .u8 0, .bool false] 8 rfl (World.shaped_of_RefB (by kernel_rfl) (by kernel_rfl)) (by kernel_rfl) (by kernel_rfl) (by kernel_rfl) (door_met os _)) ?_
  intro W base args ds gs before hval0 hW hcnd hsz hL _
  have hval : ∀ (j : Nat) t v, Tryd.f8.params[j]? = some t → args[j]? = some v → Value.okWide Tryd.prog W .any base t v := hval0
  have hW' := hW
  obtain ⟨p, q, hA0, hV, rfl, hfz, hnd⟩ := hW
  have hA : DataW.TrodAll enc Tryd.prog W 0 (fun _ => true) true Tryd.f8.params.toList args.toList ds p := hA0
  rw [Tryd.params8] at hA hval
  obtain ⟨v0, vs0, d0, ds0, p0, q0, hargs, rfl, rfl, h0, r0⟩ := trodAll_cons hA
  obtain ⟨v1, vs1, d1, ds1, p1, q1, rfl, rfl, rfl, h1, r1⟩ := trodAll_cons r0
  obtain ⟨v2, vs2, d2, ds2, p2, q2, rfl, rfl, rfl, h2, r2⟩ := trodAll_cons r1
  obtain ⟨v3, vs3, d3, ds3, p3, q3, rfl, rfl, rfl, h3, r3⟩ := trodAll_cons r2
  obtain ⟨rfl, rfl, rfl⟩ := trodAll_nil r3
  obtain rfl : args = #[v0, v1, v2, v3] := by cases args; simp_all
  obtain ⟨rfl, rfl⟩ := trodVars_none hV
  have k0 := h0
  have lt0 : ∀ x ∈ p0, x.block < W.heap.size := by obtain ⟨m, hm⟩ := k0; exact DataW.trod_lt m _ _ _ hm
  obtain ⟨a0_0, a0_1, a0_2, a0_3, a0_4, a0_5, rfl, w0_0, w0_1, w0_2, w0_3, w0_4⟩ := open_thing (hval 0 29 v0 rfl rfl) h0
  obtain ⟨a1, rfl, rfl, rfl, w1⟩ := open_int Tryd.underlying5 (hval 1 5 v1 rfl rfl) h1
  obtain ⟨a2, rfl, rfl, rfl, w2⟩ := open_int Tryd.underlying5 (hval 2 5 v2 rfl rfl) h2
  obtain ⟨a3, rfl, rfl, rfl⟩ := open_bool Tryd.underlying4 (hval 3 4 v3 rfl rfl) h3
  clear hA0 hval0
  refine (recordBounds_run a0_0 a0_1 a0_2 a0_3 a0_4 a0_5 a1 a2 a3 W w0_0 w0_1 w0_2 w0_3 w0_4 w1 w2 (tab_of_laid hL)).mono fun e W' ⟨he, bel⟩ => ?_
  subst he
  exact ⟨_, rfl, _, _, _, [], _, [], hW', trodAll_mk1 (shut_bool Tryd.underlying4 _), (trodAll_cons_mk (Below.trod recordBounds_laid (by kernel_rfl) (of_decide_eq_true (by kernel_rfl)) k0 bel lt0) (trodAll_cons_mk (shut_int Tryd.underlying5 w1) (trodAll_cons_mk (shut_int Tryd.underlying5 w2) (trodAll_cons_mk (shut_bool Tryd.underlying4 _) trodAll_mk0)))), rfl, bel.frame _, fun h => by cases h⟩
theorem recordBounds_over : Rows.recordBoundsRow.holds Tryd.pinned (OpenSpec.ofChange Rows.recordBoundsSpec) :=
  OpenClaim.holds_of_wide 8 Tryd.f8 rfl rfl rfl rfl rfl rfl rfl ⟨rfl, rfl, rfl, rfl, rfl⟩ rfl rfl rfl rfl rfl (by kernel_rfl) Tryd.func8 (by kernel_rfl)
    (of_decide_eq_true (by kernel_rfl)) (by unfold Func.isWrapper; first | (rw [if_pos (by decide +kernel)]; kernel_rfl) | (rw [if_neg (by decide +kernel)]; exact ⟨rfl, rfl⟩))
    (fun os started H enc _ => recordBounds_lifted os started H enc)
theorem recordBounds_holds : Rows.RecordBoundsCardSaid :=
  Claim7.holds_tied_plain_at .later [] [.data] true Rows.recordBoundsCard.stood.harness false recordBounds_over (fun _ h => by cases h) (by kernel_rfl) (fun _ h => by cases h) recordBounds_row_tie rfl ⟨rfl, rfl⟩ (by kernel_rfl) rfl
    (fun f fn hf hfn => by
      obtain rfl : f = 8 := Option.some.inj ((show Tryd.prog.funcNamed "scuttlebutt/scuttlebuttlaw04.RecordBounds" = some 8 by kernel_rfl).symm.trans hf) |>.symm
      obtain rfl : fn = Tryd.f8 := (Option.some.inj (Tryd.func8.symm.trans hfn)).symm
      exact ⟨by kernel_rfl, fun j t ht => by
        rw [Tryd.params8] at ht
        have hm : t ∈ [29, 5, 5, 4] := by simpa using Array.mem_of_getElem? ht
        have hall : ([29, 5, 5, 4].all fun u => !Tryd.prog.wantsStandIn u) = true := by kernel_rfl
        exact (show Tryd.prog.wantsStandIn t = false by simpa using List.all_eq_true.1 hall t hm)⟩)
    (by kernel_rfl)
#print axioms recordBounds_holds
end Go.Proofs.YtnmnokmbnjdfoaaDoor
