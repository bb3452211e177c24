/- The statement RecordOrder: what has a greater Inc is over whatever has a less one, of the same Inc what has a later state; the order of two is that of the two turned round, negated; nothing is over itself. No conditions but the row's own: the table of words lies as the program's text lays it. -/
import Derived.Test.YtnmnokmbnjdfoaaDoorRecordTells
namespace Go.Proofs.YtnmnokmbnjdfoaaDoor
open Go.Sort Go.RowKit Go.BigFrame Go.ChangeShapes Go.WideShapes Go.ChangeAt
open Go.ChangeMaps (open_string shut_string)
set_option linter.unusedVariables false
set_option linter.unusedSimpArgs false

/-- what the law asks of two -/
theorem over_is (a b : Rec) (h : ¬ (a.n = b.n ∧ a.st = b.st)) : overR a b = decide (b.n < a.n ∨ (a.n = b.n ∧ b.st < a.st)) := by
  unfold overR
  rw [Bool.eq_iff_iff]
  simp only [decide_eq_true_eq]
  rw [ordR_gt]
  unfold ltR
  omega
theorem over_self (a : Rec) : overR a a = false := by
  unfold overR
  rw [ordR_same a a ⟨rfl, rfl, rfl, rfl⟩]
  rfl
theorem neg_wrap (a b : Rec) : IntKind.i64.wrap (-ordR b a) = ordR a b := by
  rw [ordR_neg a b]
  rcases ordR_three b a with h | h | h <;> rw [h] <;> rfl

set_option maxRecDepth 100000 in
set_option maxHeartbeats 4000000 in
theorem recordOrder_walk (t1 : Rec) (o1 : Bool) (ht1 : t1.Ok) (t2 : Rec) (o2 : Bool) (ht2 : t2.Ok) (w : World) (ht : Tab w) :
    Calls Tryd.prog 6 #[.agg #[.int .i64 t1.id, .int .i64 t1.st, .int .u32 t1.n, .int .u32 t1.ip, .int .u16 t1.port, .bool o1], .agg #[.int .i64 t2.id, .int .i64 t2.st, .int .u32 t2.n, .int .u32 t2.ip, .int .u16 t2.port, .bool o2]] w fun e w' => e = .returned (.bool true) ∧ Below w.heap.size w w' := by
  obtain ⟨a, ha, _, TA⟩ := thing_any t1 o1 ht1
  obtain ⟨b, hb, _, TB⟩ := thing_any t2 o2 ht2
  have TA := Lib.hid TA
  have TB := Lib.hid TB
  have HT := Lib.hid ht
  clear ht ht1 ht2
  have X1 : Hid (Cs (w.heap.size) (tcs t1 o1) ((w.alloc (.cells (tcs t1 o1).toArray 29)).alloc (.cells (tcs t2 o2).toArray 29))) := by
    have h := Cs.new w (tcs t1 o1) 29
    have h := h.alloc (.cells (tcs t2 o2).toArray 29)
    exact h
  have X2 : Hid (Cs (w.heap.size + 1) (tcs t2 o2) ((w.alloc (.cells (tcs t1 o1).toArray 29)).alloc (.cells (tcs t2 o2).toArray 29))) := by
    have h := Cs.new (w.alloc (.cells (tcs t1 o1).toArray 29)) (tcs t2 o2) 29
    simp only [World.size_alloc] at h
    exact h
  have hB : Hid (Below w.heap.size w ((w.alloc (.cells (tcs t1 o1).toArray 29)).alloc (.cells (tcs t2 o2).toArray 29))) := by show Below _ _ _; (repeat (first | with_reducible exact Below.refl _ _ | with_reducible refine Below.drew ?_ | with_reducible refine below_drewN ?_ _ | with_reducible refine Below.alloc ?_ (by first | omega | (simp; done) | (simp; omega)) _ | with_reducible refine Below.setCell ?_ (by first | omega | (simp; done) | (simp; omega)) _))
  go_enter Tryd.func6, Tryd.ntmps6
  go_wp2_with fail
  refine (examples_yes _ (HT.out.below hB.out)).mono ?_; rintro e w1 ⟨rfl, d⟩
  replace hB : Hid (Below w.heap.size w _) := (hB.out).trans (d.mono (hB.out).size); replace X1 := Lib.hid (X1.out.keep d); replace X2 := Lib.hid (X2.out.keep d); clear d
  clear HT
  have x0 := X1.out.cell 0 (.int .i64 t1.id) rfl
  have x1 := X1.out.cell 1 (.int .i64 t1.st) rfl
  have x2 := X1.out.cell 2 (.int .u32 t1.n) rfl
  have x3 := X1.out.cell 3 (.int .u32 t1.ip) rfl
  have x4 := X1.out.cell 4 (.int .u16 t1.port) rfl
  have x5 := X1.out.cell 5 (.bool o1) rfl
  go_wp2_with fail
  refine (TA.out _).mono ?_; rintro e w2 ⟨rfl, d⟩
  replace hB : Hid (Below w.heap.size w _) := (hB.out).trans (d.mono (hB.out).size); replace X2 := Lib.hid (X2.out.keep d); clear d
  clear X1 TA x0 x1 x2 x3 x4 x5
  have x0 := X2.out.cell 0 (.int .i64 t2.id) rfl
  have x1 := X2.out.cell 1 (.int .i64 t2.st) rfl
  have x2 := X2.out.cell 2 (.int .u32 t2.n) rfl
  have x3 := X2.out.cell 3 (.int .u32 t2.ip) rfl
  have x4 := X2.out.cell 4 (.int .u16 t2.port) rfl
  have x5 := X2.out.cell 5 (.bool o2) rfl
  have A := Lib.hid (Cs.new w2 (rcs a) 27)
  have lx := X2.out.lt
  go_wp2_with fail
  refine (TB.out _).mono ?_; rintro e w3 ⟨rfl, d⟩
  replace A := Lib.hid (A.out.keep d)
  replace hB : Hid (Below w.heap.size w _) := ((hB.out.alloc (hB.out).size _)).trans (d.mono ((hB.out.alloc (hB.out).size _)).size); clear d
  clear X2 TB x0 x1 x2 x3 x4 x5 lx
  have A : Hid (Cs w2.heap.size (rcs a) (w3.alloc (.cells #[.int .i64 b.id, .int .i64 b.st, .int .u32 b.n, .int .u32 b.ip, .int .u16 b.port] 27))) := A.out.alloc _
  have B : Hid (Cs w3.heap.size (rcs b) (w3.alloc (.cells #[.int .i64 b.id, .int .i64 b.st, .int .u32 b.n, .int .u32 b.ip, .int .u16 b.port] 27))) := Cs.new w3 (rcs b) _
  replace hB : Hid (Below w.heap.size w (w3.alloc (.cells #[.int .i64 b.id, .int .i64 b.st, .int .u32 b.n, .int .u32 b.ip, .int .u16 b.port] 27))) := hB.out.alloc hB.out.size _
  have C3 := Lib.hid (neg_wrap a b)
  have C4 := Lib.hid (over_self a)
  have C5 := Lib.hid (over_is a b)
  go_upto_region 6 with fail
  generalize (w3.alloc (.cells #[.int .i64 b.id, .int .i64 b.st, .int .u32 b.n, .int .u32 b.ip, .int .u16 b.port] 27)) = w4 at *
  obtain ⟨a0, a1, a2, a3, a4⟩ := Rb.of A.out
  obtain ⟨b0, b1, b2, b3, b4⟩ := Rb.of B.out
  have hc : (b.n < a.n) ∨ (a.n < b.n) ∨ (a.n = b.n ∧ b.st < a.st) ∨ (a.n = b.n ∧ a.st < b.st) ∨ (a.n = b.n ∧ a.st = b.st) := by omega
  rcases hc with c | c | c | c | c
  · have n1 : (b.n : Int) < a.n := by omega
    have n2 : ¬ (a.n : Int) = b.n := by omega
    have V : overR a b = true := by rw [C5.out (by omega)]; simp; omega
    clear c
    go_upto_region 8 with fail
    clear a0 a1 a2 a3 a4 b0 b1 b2 b3 b4
    have A0 := cell_regrown (A.out.cell 0 (.int .i64 a.id) rfl); have A1 := cell_regrown (A.out.cell 1 (.int .i64 a.st) rfl); have A2 := cell_regrown (A.out.cell 2 (.int .u32 a.n) rfl); have A3 := cell_regrown (A.out.cell 3 (.int .u32 a.ip) rfl); have A4 := cell_regrown (A.out.cell 4 (.int .u16 a.port) rfl)
    have B0 := cell_regrown (B.out.cell 0 (.int .i64 b.id) rfl); have B1 := cell_regrown (B.out.cell 1 (.int .i64 b.st) rfl); have B2 := cell_regrown (B.out.cell 2 (.int .u32 b.n) rfl); have B3 := cell_regrown (B.out.cell 3 (.int .u32 b.ip) rfl); have B4 := cell_regrown (B.out.cell 4 (.int .u16 b.port) rfl)
    have K1 := fun d os => Calls.regrown_of (over_rec a b ha hb (grow (redrawn w4 d) os))
    rw [V] at K1
    have K2 := fun d os => Calls.regrown_of (order_rec a b ha hb (grow (redrawn w4 d) os))
    have K3 := fun d os => Calls.regrown_of (order_rec b a hb ha (grow (redrawn w4 d) os))
    have K4 := fun d os => Calls.regrown_of (over_rec a a ha ha (grow (redrawn w4 d) os))
    rw [C4.out] at K4
    have N := C3.out
    generalize ordR a b = O1 at *
    generalize ordR b a = O2 at *
    clear A B C3 C4 C5 ha hb V n1 n2
    (refine wp_region_quiet_below (by kernel_rfl) (by kernel_rfl) ?_; (repeat (go_big_quiet_step (first | with_reducible exact K1 _ _ | with_reducible exact K2 _ _ | with_reducible exact K3 _ _ | with_reducible exact K4 _ _))); refine wpQuiet_nil ?_; intro _ hw'; obtain ⟨⟨dq, osq⟩, hw''⟩ := hw'; subst hw'')
    go_wp2
    go_ret
    exact ⟨rfl, hB.out.trans ((below_regrown w4 dq osq).mono hB.out.size)⟩
  · have n1 : ¬ (b.n : Int) < a.n := by omega
    have n2 : ¬ (a.n : Int) = b.n := by omega
    have V : overR a b = false := by rw [C5.out (by omega)]; simp; omega
    clear c
    go_upto_region 8 with fail
    clear a0 a1 a2 a3 a4 b0 b1 b2 b3 b4
    have A0 := cell_regrown (A.out.cell 0 (.int .i64 a.id) rfl); have A1 := cell_regrown (A.out.cell 1 (.int .i64 a.st) rfl); have A2 := cell_regrown (A.out.cell 2 (.int .u32 a.n) rfl); have A3 := cell_regrown (A.out.cell 3 (.int .u32 a.ip) rfl); have A4 := cell_regrown (A.out.cell 4 (.int .u16 a.port) rfl)
    have B0 := cell_regrown (B.out.cell 0 (.int .i64 b.id) rfl); have B1 := cell_regrown (B.out.cell 1 (.int .i64 b.st) rfl); have B2 := cell_regrown (B.out.cell 2 (.int .u32 b.n) rfl); have B3 := cell_regrown (B.out.cell 3 (.int .u32 b.ip) rfl); have B4 := cell_regrown (B.out.cell 4 (.int .u16 b.port) rfl)
    have K1 := fun d os => Calls.regrown_of (over_rec a b ha hb (grow (redrawn w4 d) os))
    rw [V] at K1
    have K2 := fun d os => Calls.regrown_of (order_rec a b ha hb (grow (redrawn w4 d) os))
    have K3 := fun d os => Calls.regrown_of (order_rec b a hb ha (grow (redrawn w4 d) os))
    have K4 := fun d os => Calls.regrown_of (over_rec a a ha ha (grow (redrawn w4 d) os))
    rw [C4.out] at K4
    have N := C3.out
    generalize ordR a b = O1 at *
    generalize ordR b a = O2 at *
    clear A B C3 C4 C5 ha hb V n1 n2
    (refine wp_region_quiet_below (by kernel_rfl) (by kernel_rfl) ?_; (repeat (go_big_quiet_step (first | with_reducible exact K1 _ _ | with_reducible exact K2 _ _ | with_reducible exact K3 _ _ | with_reducible exact K4 _ _))); refine wpQuiet_nil ?_; intro _ hw'; obtain ⟨⟨dq, osq⟩, hw''⟩ := hw'; subst hw'')
    go_wp2
    go_ret
    exact ⟨rfl, hB.out.trans ((below_regrown w4 dq osq).mono hB.out.size)⟩
  · have n0 : (a.n : Int) = b.n := by omega
    have n1 : ¬ (b.n : Int) < a.n := by omega
    have n3 : b.st < a.st := c.2
    have n4 : (a.st == b.st) = false := by rw [beq_eq_false_iff_ne]; omega
    have V : overR a b = true := by rw [C5.out (by omega)]; simp; omega
    clear c
    go_upto_region 8 with fail
    clear a0 a1 a2 a3 a4 b0 b1 b2 b3 b4
    have A0 := cell_regrown (A.out.cell 0 (.int .i64 a.id) rfl); have A1 := cell_regrown (A.out.cell 1 (.int .i64 a.st) rfl); have A2 := cell_regrown (A.out.cell 2 (.int .u32 a.n) rfl); have A3 := cell_regrown (A.out.cell 3 (.int .u32 a.ip) rfl); have A4 := cell_regrown (A.out.cell 4 (.int .u16 a.port) rfl)
    have B0 := cell_regrown (B.out.cell 0 (.int .i64 b.id) rfl); have B1 := cell_regrown (B.out.cell 1 (.int .i64 b.st) rfl); have B2 := cell_regrown (B.out.cell 2 (.int .u32 b.n) rfl); have B3 := cell_regrown (B.out.cell 3 (.int .u32 b.ip) rfl); have B4 := cell_regrown (B.out.cell 4 (.int .u16 b.port) rfl)
    have K1 := fun d os => Calls.regrown_of (over_rec a b ha hb (grow (redrawn w4 d) os))
    rw [V] at K1
    have K2 := fun d os => Calls.regrown_of (order_rec a b ha hb (grow (redrawn w4 d) os))
    have K3 := fun d os => Calls.regrown_of (order_rec b a hb ha (grow (redrawn w4 d) os))
    have K4 := fun d os => Calls.regrown_of (over_rec a a ha ha (grow (redrawn w4 d) os))
    rw [C4.out] at K4
    have N := C3.out
    generalize ordR a b = O1 at *
    generalize ordR b a = O2 at *
    clear A B C3 C4 C5 ha hb V n0 n1 n3 n4
    (refine wp_region_quiet_below (by kernel_rfl) (by kernel_rfl) ?_; (repeat (go_big_quiet_step (first | with_reducible exact K1 _ _ | with_reducible exact K2 _ _ | with_reducible exact K3 _ _ | with_reducible exact K4 _ _))); refine wpQuiet_nil ?_; intro _ hw'; obtain ⟨⟨dq, osq⟩, hw''⟩ := hw'; subst hw'')
    go_wp2
    go_ret
    exact ⟨rfl, hB.out.trans ((below_regrown w4 dq osq).mono hB.out.size)⟩
  · have n0 : (a.n : Int) = b.n := by omega
    have n1 : ¬ (b.n : Int) < a.n := by omega
    have n3 : ¬ b.st < a.st := by omega
    have n4 : (a.st == b.st) = false := by rw [beq_eq_false_iff_ne]; omega
    have V : overR a b = false := by rw [C5.out (by omega)]; simp; omega
    clear c
    go_upto_region 8 with fail
    clear a0 a1 a2 a3 a4 b0 b1 b2 b3 b4
    have A0 := cell_regrown (A.out.cell 0 (.int .i64 a.id) rfl); have A1 := cell_regrown (A.out.cell 1 (.int .i64 a.st) rfl); have A2 := cell_regrown (A.out.cell 2 (.int .u32 a.n) rfl); have A3 := cell_regrown (A.out.cell 3 (.int .u32 a.ip) rfl); have A4 := cell_regrown (A.out.cell 4 (.int .u16 a.port) rfl)
    have B0 := cell_regrown (B.out.cell 0 (.int .i64 b.id) rfl); have B1 := cell_regrown (B.out.cell 1 (.int .i64 b.st) rfl); have B2 := cell_regrown (B.out.cell 2 (.int .u32 b.n) rfl); have B3 := cell_regrown (B.out.cell 3 (.int .u32 b.ip) rfl); have B4 := cell_regrown (B.out.cell 4 (.int .u16 b.port) rfl)
    have K1 := fun d os => Calls.regrown_of (over_rec a b ha hb (grow (redrawn w4 d) os))
    rw [V] at K1
    have K2 := fun d os => Calls.regrown_of (order_rec a b ha hb (grow (redrawn w4 d) os))
    have K3 := fun d os => Calls.regrown_of (order_rec b a hb ha (grow (redrawn w4 d) os))
    have K4 := fun d os => Calls.regrown_of (over_rec a a ha ha (grow (redrawn w4 d) os))
    rw [C4.out] at K4
    have N := C3.out
    generalize ordR a b = O1 at *
    generalize ordR b a = O2 at *
    clear A B C3 C4 C5 ha hb V n0 n1 n3 n4
    (refine wp_region_quiet_below (by kernel_rfl) (by kernel_rfl) ?_; (repeat (go_big_quiet_step (first | with_reducible exact K1 _ _ | with_reducible exact K2 _ _ | with_reducible exact K3 _ _ | with_reducible exact K4 _ _))); refine wpQuiet_nil ?_; intro _ hw'; obtain ⟨⟨dq, osq⟩, hw''⟩ := hw'; subst hw'')
    go_wp2
    go_ret
    exact ⟨rfl, hB.out.trans ((below_regrown w4 dq osq).mono hB.out.size)⟩
  · have n0 : (a.n : Int) = b.n := by omega
    have n1 : ¬ (b.n : Int) < a.n := by omega
    have n3 : ¬ b.st < a.st := by omega
    have n4 : a.st = b.st := c.2
    clear c
    go_upto_region 8 with fail
    clear a0 a1 a2 a3 a4 b0 b1 b2 b3 b4
    have A0 := cell_regrown (A.out.cell 0 (.int .i64 a.id) rfl); have A1 := cell_regrown (A.out.cell 1 (.int .i64 a.st) rfl); have A2 := cell_regrown (A.out.cell 2 (.int .u32 a.n) rfl); have A3 := cell_regrown (A.out.cell 3 (.int .u32 a.ip) rfl); have A4 := cell_regrown (A.out.cell 4 (.int .u16 a.port) rfl)
    have B0 := cell_regrown (B.out.cell 0 (.int .i64 b.id) rfl); have B1 := cell_regrown (B.out.cell 1 (.int .i64 b.st) rfl); have B2 := cell_regrown (B.out.cell 2 (.int .u32 b.n) rfl); have B3 := cell_regrown (B.out.cell 3 (.int .u32 b.ip) rfl); have B4 := cell_regrown (B.out.cell 4 (.int .u16 b.port) rfl)
    have K1 := fun d os => Calls.regrown_of (over_rec a b ha hb (grow (redrawn w4 d) os))
    have K2 := fun d os => Calls.regrown_of (order_rec a b ha hb (grow (redrawn w4 d) os))
    have K3 := fun d os => Calls.regrown_of (order_rec b a hb ha (grow (redrawn w4 d) os))
    have K4 := fun d os => Calls.regrown_of (over_rec a a ha ha (grow (redrawn w4 d) os))
    rw [C4.out] at K4
    have N := C3.out
    generalize ordR a b = O1 at *
    generalize ordR b a = O2 at *
    clear A B C3 C4 C5 ha hb n0 n1 n3 n4
    (refine wp_region_quiet_below (by kernel_rfl) (by kernel_rfl) ?_; (repeat (go_big_quiet_step (first | with_reducible exact K1 _ _ | with_reducible exact K2 _ _ | with_reducible exact K3 _ _ | with_reducible exact K4 _ _))); refine wpQuiet_nil ?_; intro _ hw'; obtain ⟨⟨dq, osq⟩, hw''⟩ := hw'; subst hw'')
    go_wp2
    go_ret
    exact ⟨rfl, hB.out.trans ((below_regrown w4 dq osq).mono hB.out.size)⟩

theorem recordOrder_run (i1 s1 n1 p1 q1 : Int) (o1 : Bool) (i2 s2 n2 p2 q2 : Int) (o2 : Bool) (w : World) (_ : (Lit.int .i64 i1).wf = true) (_ : (Lit.int .i64 s1).wf = true) (h1 : (Lit.int .u32 n1).wf = true) (g1 : (Lit.int .u32 p1).wf = true) (k1 : (Lit.int .u16 q1).wf = true) (_ : (Lit.int .i64 i2).wf = true) (_ : (Lit.int .i64 s2).wf = true) (h2 : (Lit.int .u32 n2).wf = true) (g2 : (Lit.int .u32 p2).wf = true) (k2 : (Lit.int .u16 q2).wf = true) (ht : Tab w) :
    Calls Tryd.prog 6 #[.agg #[.int .i64 i1, .int .i64 s1, .int .u32 n1, .int .u32 p1, .int .u16 q1, .bool o1], .agg #[.int .i64 i2, .int .i64 s2, .int .u32 n2, .int .u32 p2, .int .u16 q2, .bool o2]] w fun e w' => e = .returned (.bool true) ∧ Below w.heap.size w w' := by
  obtain ⟨t1, ht1, rfl, rfl, rfl, rfl, rfl⟩ := rec_of (i := i1) (st := s1) h1 g1 k1
  obtain ⟨t2, ht2, rfl, rfl, rfl, rfl, rfl⟩ := rec_of (i := i2) (st := s2) h2 g2 k2
  exact recordOrder_walk t1 o1 ht1 t2 o2 ht2 w ht


theorem recordOrder_own : ownKnob Tryd.prog.godebug = none := by kernel_rfl
theorem recordOrder_laid : laidOutB Tryd.prog = true := by kernel_rfl
set_option maxRecDepth 100000 in
theorem recordOrder_lifted (os : Os) (started : os.Started) (H : Type) (enc : TypeId × Value → H) :
    ReturnsInHanded {} Tryd.checked os 6 .any (fun w args => (Rows.recordOrderSpec.pre enc Tryd.prog Tryd.f6 [] false w args ∧ laidMetH Tryd.prog seatLaid w) ∧ sizedMet enc Tryd.prog Tryd.f6 (OpenSpec.ofChange Rows.recordOrderSpec) false w args) (Rows.recordOrderSpec.post enc Tryd.prog Tryd.f6 false true false false) := by
  refine returnsInHanded_of_change_and (C := Tryd.checked) (X := fun w _ => laidMetH Tryd.prog seatLaid w) (fun _ _ _ hh h => h.of_heap hh) recordOrder_own started (by kernel_rfl) Tryd.func6
    (ChangeSpec.witness_shaped (enc := enc) (C := Tryd.checked) (os := os) (X := fun w _ => laidMetH Tryd.prog seatLaid w) false (World.doorLaid Tryd.prog seatSteps os) #[.agg #[.int .i64 0, .int .i64 0, .int .u32 0, .int .u32 0, .int .u16 0, .bool false], .agg #[.int .i64 0, .int .i64 0, .int .u32 0, .int .u32 0, .int .u16 0, .bool false]] 8 rfl (World.shaped_of_RefB (by kernel_rfl) (by kernel_rfl)) (by kernel_rfl) (by kernel_rfl) (by kernel_rfl) (door_met os _)) ?_
  intro W base args ds gs before hval0 hW hcnd hsz hL _
  have hval : ∀ (j : Nat) t v, Tryd.f6.params[j]? = some t → args[j]? = some v → Value.okWide Tryd.prog W .any base t v := hval0
  have hW' := hW
  obtain ⟨p, q, hA0, hV, rfl, hfz, hnd⟩ := hW
  have hA : DataW.TrodAll enc Tryd.prog W 0 (fun _ => true) true Tryd.f6.params.toList args.toList ds p := hA0
  rw [Tryd.params6] at hA hval
  obtain ⟨v0, vs0, d0, ds0, p0, q0, hargs, rfl, rfl, h0, r0⟩ := trodAll_cons hA
  obtain ⟨v1, vs1, d1, ds1, p1, q1, rfl, rfl, rfl, h1, r1⟩ := trodAll_cons r0
  obtain ⟨rfl, rfl, rfl⟩ := trodAll_nil r1
  obtain rfl : args = #[v0, v1] := by cases args; simp_all
  obtain ⟨rfl, rfl⟩ := trodVars_none hV
  have k0 := h0
  have lt0 : ∀ x ∈ p0, x.block < W.heap.size := by obtain ⟨m, hm⟩ := k0; exact DataW.trod_lt m _ _ _ hm
  obtain ⟨a0_0, a0_1, a0_2, a0_3, a0_4, a0_5, rfl, w0_0, w0_1, w0_2, w0_3, w0_4⟩ := open_thing (hval 0 29 v0 rfl rfl) h0
  have k1 := h1
  have lt1 : ∀ x ∈ p1, x.block < W.heap.size := by obtain ⟨m, hm⟩ := k1; exact DataW.trod_lt m _ _ _ hm
  obtain ⟨a1_0, a1_1, a1_2, a1_3, a1_4, a1_5, rfl, w1_0, w1_1, w1_2, w1_3, w1_4⟩ := open_thing (hval 1 29 v1 rfl rfl) h1
  clear hA0 hval0
  refine (recordOrder_run a0_0 a0_1 a0_2 a0_3 a0_4 a0_5 a1_0 a1_1 a1_2 a1_3 a1_4 a1_5 W w0_0 w0_1 w0_2 w0_3 w0_4 w1_0 w1_1 w1_2 w1_3 w1_4 (tab_of_laid hL)).mono fun e W' ⟨he, bel⟩ => ?_
  subst he
  exact ⟨_, rfl, _, _, _, [], _, [], hW', trodAll_mk1 (shut_bool Tryd.underlying4 _), (trodAll_cons_mk (Below.trod recordOrder_laid (by kernel_rfl) (of_decide_eq_true (by kernel_rfl)) k0 bel lt0) (trodAll_cons_mk (Below.trod recordOrder_laid (by kernel_rfl) (of_decide_eq_true (by kernel_rfl)) k1 bel lt1) trodAll_mk0)), rfl, bel.frame _, fun h => by cases h⟩
theorem recordOrder_over : Rows.recordOrderRow.holds Tryd.pinned (OpenSpec.ofChange Rows.recordOrderSpec) :=
  OpenClaim.holds_of_wide 6 Tryd.f6 rfl rfl rfl rfl rfl rfl rfl ⟨rfl, rfl, rfl, rfl, rfl⟩ rfl rfl rfl rfl rfl (by kernel_rfl) Tryd.func6 (by kernel_rfl)
    (of_decide_eq_true (by kernel_rfl)) (by unfold Func.isWrapper; first | (rw [if_pos (by decide +kernel)]; kernel_rfl) | (rw [if_neg (by decide +kernel)]; exact ⟨rfl, rfl⟩))
    (fun os started H enc _ => recordOrder_lifted os started H enc)
theorem recordOrder_holds : Rows.RecordOrderCardSaid :=
  Claim7.holds_tied_plain_at .later [] [.data] true Rows.recordOrderCard.stood.harness false recordOrder_over (fun _ h => by cases h) (by kernel_rfl) (fun _ h => by cases h) recordOrder_row_tie rfl ⟨rfl, rfl⟩ (by kernel_rfl) rfl
    (fun f fn hf hfn => by
      obtain rfl : f = 6 := Option.some.inj ((show Tryd.prog.funcNamed "scuttlebutt/scuttlebuttlaw04.RecordOrder" = some 6 by kernel_rfl).symm.trans hf) |>.symm
      obtain rfl : fn = Tryd.f6 := (Option.some.inj (Tryd.func6.symm.trans hfn)).symm
      exact ⟨by kernel_rfl, fun j t ht => by
        rw [Tryd.params6] at ht
        have hm : t ∈ [29, 29] := by simpa using Array.mem_of_getElem? ht
        have hall : ([29, 29].all fun u => !Tryd.prog.wantsStandIn u) = true := by kernel_rfl
        exact (show Tryd.prog.wantsStandIn t = false by simpa using List.all_eq_true.1 hall t hm)⟩)
    (by kernel_rfl)
#print axioms recordOrder_holds
end Go.Proofs.YtnmnokmbnjdfoaaDoor
