/- The statement RecordJoins: joined in whatever order, and however often, records of one node come to the same, which is one of them, and over, or the same as, each; for every three things. No conditions but the row's own: the table of words lies as the program's text lays it. -/
import Derived.Test.YtnmnokmbnjdfoaaDoorRecordTells
namespace Go.Proofs.YtnmnokmbnjdfoaaDoor
open Go.Sort Go.RowKit Go.BigFrame Go.ChangeShapes Go.WideShapes Go.ChangeAt
open Go.ChangeMaps (open_string shut_string)
set_option linter.unusedVariables false
set_option linter.unusedSimpArgs false

def id3 (a : Rec) : Rec := ⟨3, a.st, a.n, a.ip, a.port⟩
theorem id3_ok {a : Rec} (h : a.Ok) : (id3 a).Ok := ⟨h.n, h.ip, h.port⟩
theorem set_id3 {g : Nat} {a : Rec} {w : World} (h : Cs g (rcs a) w) : Cs g (rcs (id3 a)) (w.setCell ⟨g, 0, none⟩ (.int .i64 3)) := h.set 0 (.int .i64 3) (by simp [rcs])
theorem join_is {a b c : Rec} (h : joinR a b = c) (ha : a.Ok) (hb : b.Ok) (w : World) :
    Calls Tryd.prog 20 #[.agg #[.int .i64 a.id, .int .i64 a.st, .int .u32 a.n, .int .u32 a.ip, .int .u16 a.port], .agg #[.int .i64 b.id, .int .i64 b.st, .int .u32 b.n, .int .u32 b.ip, .int .u16 b.port]] w fun e w' => e = .returned (.agg #[.int .i64 c.id, .int .i64 c.st, .int .u32 c.n, .int .u32 c.ip, .int .u16 c.port]) ∧ Below w.heap.size w w' := by
  rw [← h]; exact join_rec a b ha hb w
theorem eqR_no (x y : Rec) (h : x ≠ y) : ∀ (α : Type) (p q : α), (if x.id = y.id then if x.st = y.st then if (x.n : Int) = y.n then if (x.ip : Int) = y.ip then if (x.port : Int) = y.port then p else q else q else q else q else q) = q := by
  intro α p q
  split
  · split
    · split
      · split
        · split
          · exfalso
            apply h
            obtain ⟨a1, a2, a3, a4, a5⟩ := x
            obtain ⟨b1, b2, b3, b4, b5⟩ := y
            simp at *
            omega
          · rfl
        · rfl
      · rfl
    · rfl
  · rfl
theorem joinR_ok {a b : Rec} (ha : a.Ok) (hb : b.Ok) : (joinR a b).Ok := by rcases joinR_or a b with h | h <;> rw [h] <;> assumption

set_option maxRecDepth 100000 in
set_option maxHeartbeats 4000000 in
theorem recordJoins_walk (t1 : Rec) (o1 : Bool) (ht1 : t1.Ok) (t2 : Rec) (o2 : Bool) (ht2 : t2.Ok) (t3 : Rec) (o3 : Bool) (ht3 : t3.Ok) (w : World) (ht : Tab w) :
    Calls Tryd.prog 5 #[.agg #[.int .i64 t1.id, .int .i64 t1.st, .int .u32 t1.n, .int .u32 t1.ip, .int .u16 t1.port, .bool o1], .agg #[.int .i64 t2.id, .int .i64 t2.st, .int .u32 t2.n, .int .u32 t2.ip, .int .u16 t2.port, .bool o2], .agg #[.int .i64 t3.id, .int .i64 t3.st, .int .u32 t3.n, .int .u32 t3.ip, .int .u16 t3.port, .bool o3]] w fun e w' => e = .returned (.bool true) ∧ Below w.heap.size w w' := by
  obtain ⟨a', ha', _, TA⟩ := thing_any t1 o1 ht1
  obtain ⟨b', hb', _, TB⟩ := thing_any t2 o2 ht2
  obtain ⟨c', hc', _, TC⟩ := thing_any t3 o3 ht3
  have TA := Lib.hid TA
  have TB := Lib.hid TB
  have TC := Lib.hid TC
  have HT := Lib.hid ht
  clear ht ht1 ht2 ht3
  have X1 : Hid (Cs (w.heap.size) (tcs t1 o1) (((w.alloc (.cells (tcs t1 o1).toArray 29)).alloc (.cells (tcs t2 o2).toArray 29)).alloc (.cells (tcs t3 o3).toArray 29))) := by
    have h := Cs.new w (tcs t1 o1) 29
    have h := h.alloc (.cells (tcs t2 o2).toArray 29)
    have h := h.alloc (.cells (tcs t3 o3).toArray 29)
    exact h
  have X2 : Hid (Cs (w.heap.size + 1) (tcs t2 o2) (((w.alloc (.cells (tcs t1 o1).toArray 29)).alloc (.cells (tcs t2 o2).toArray 29)).alloc (.cells (tcs t3 o3).toArray 29))) := by
    have h := Cs.new (w.alloc (.cells (tcs t1 o1).toArray 29)) (tcs t2 o2) 29
    have h := h.alloc (.cells (tcs t3 o3).toArray 29)
    simp only [World.size_alloc] at h
    exact h
  have X3 : Hid (Cs (w.heap.size + 2) (tcs t3 o3) (((w.alloc (.cells (tcs t1 o1).toArray 29)).alloc (.cells (tcs t2 o2).toArray 29)).alloc (.cells (tcs t3 o3).toArray 29))) := by
    have h := Cs.new ((w.alloc (.cells (tcs t1 o1).toArray 29)).alloc (.cells (tcs t2 o2).toArray 29)) (tcs t3 o3) 29
    simp only [World.size_alloc] at h
    exact h
  have hB : Hid (Below w.heap.size w (((w.alloc (.cells (tcs t1 o1).toArray 29)).alloc (.cells (tcs t2 o2).toArray 29)).alloc (.cells (tcs t3 o3).toArray 29))) := by show Below _ _ _; (repeat (first | with_reducible exact Below.refl _ _ | with_reducible refine Below.drew ?_ | with_reducible refine below_drewN ?_ _ | with_reducible refine Below.alloc ?_ (by first | omega | (simp; done) | (simp; omega)) _ | with_reducible refine Below.setCell ?_ (by first | omega | (simp; done) | (simp; omega)) _))
  go_enter Tryd.func5, Tryd.ntmps5
  go_wp2_with fail
  refine (examples_yes _ (HT.out.below hB.out)).mono ?_; rintro e w1 ⟨rfl, d⟩
  replace hB : Hid (Below w.heap.size w _) := (hB.out).trans (d.mono (hB.out).size); replace X1 := Lib.hid (X1.out.keep d); replace X2 := Lib.hid (X2.out.keep d); replace X3 := Lib.hid (X3.out.keep d); clear d
  clear HT
  have x0 := X1.out.cell 0 (.int .i64 t1.id) rfl
  have x1 := X1.out.cell 1 (.int .i64 t1.st) rfl
  have x2 := X1.out.cell 2 (.int .u32 t1.n) rfl
  have x3 := X1.out.cell 3 (.int .u32 t1.ip) rfl
  have x4 := X1.out.cell 4 (.int .u16 t1.port) rfl
  have x5 := X1.out.cell 5 (.bool o1) rfl
  go_wp2_with fail
  refine (TA.out _).mono ?_; rintro e w2 ⟨rfl, d⟩
  replace hB : Hid (Below w.heap.size w _) := (hB.out).trans (d.mono (hB.out).size); replace X2 := Lib.hid (X2.out.keep d); replace X3 := Lib.hid (X3.out.keep d); clear d
  have l2 : w.heap.size ≤ w2.heap.size := hB.out.size
  clear X1 TA x0 x1 x2 x3 x4 x5
  have x0 := X2.out.cell 0 (.int .i64 t2.id) rfl
  have x1 := X2.out.cell 1 (.int .i64 t2.st) rfl
  have x2 := X2.out.cell 2 (.int .u32 t2.n) rfl
  have x3 := X2.out.cell 3 (.int .u32 t2.ip) rfl
  have x4 := X2.out.cell 4 (.int .u16 t2.port) rfl
  have x5 := X2.out.cell 5 (.bool o2) rfl
  have A := Lib.hid (Cs.new w2 (rcs a') 27)
  have lx := X2.out.lt
  go_wp2_with fail
  refine (TB.out _).mono ?_; rintro e w3 ⟨rfl, d⟩
  replace A := Lib.hid (A.out.keep d)
  have n23 : w2.heap.size < w3.heap.size := A.out.lt
  replace hB : Hid (Below w.heap.size w _) := ((hB.out.alloc (hB.out).size _)).trans (d.mono ((hB.out.alloc (hB.out).size _)).size); replace X3 := Lib.hid ((X3.out.alloc _).keep d); clear d
  clear X2 TB x0 x1 x2 x3 x4 x5 lx
  have x0 := X3.out.cell 0 (.int .i64 t3.id) rfl
  have x1 := X3.out.cell 1 (.int .i64 t3.st) rfl
  have x2 := X3.out.cell 2 (.int .u32 t3.n) rfl
  have x3 := X3.out.cell 3 (.int .u32 t3.ip) rfl
  have x4 := X3.out.cell 4 (.int .u16 t3.port) rfl
  have x5 := X3.out.cell 5 (.bool o3) rfl
  have B := Lib.hid (Cs.new w3 (rcs b') 27)
  have lx := X3.out.lt
  go_wp2_with fail
  refine (TC.out _).mono ?_; rintro e w4 ⟨rfl, d⟩
  replace B := Lib.hid (B.out.keep d)
  have n34 : w3.heap.size < w4.heap.size := B.out.lt
  replace hB : Hid (Below w.heap.size w _) := ((hB.out.alloc (hB.out).size _)).trans (d.mono ((hB.out.alloc (hB.out).size _)).size); replace A := Lib.hid ((A.out.alloc _).keep d); clear d
  clear X3 TC x0 x1 x2 x3 x4 x5 lx
  have A : Hid (Cs w2.heap.size (rcs a') (w4.alloc (.cells #[.int .i64 c'.id, .int .i64 c'.st, .int .u32 c'.n, .int .u32 c'.ip, .int .u16 c'.port] 27))) := A.out.alloc _
  have B : Hid (Cs w3.heap.size (rcs b') (w4.alloc (.cells #[.int .i64 c'.id, .int .i64 c'.st, .int .u32 c'.n, .int .u32 c'.ip, .int .u16 c'.port] 27))) := B.out.alloc _
  have C : Hid (Cs w4.heap.size (rcs c') (w4.alloc (.cells #[.int .i64 c'.id, .int .i64 c'.st, .int .u32 c'.n, .int .u32 c'.ip, .int .u16 c'.port] 27))) := Cs.new w4 (rcs c') _
  replace hB : Hid (Below w.heap.size w (w4.alloc (.cells #[.int .i64 c'.id, .int .i64 c'.st, .int .u32 c'.n, .int .u32 c'.ip, .int .u16 c'.port] 27))) := hB.out.alloc hB.out.size _
  go_upto_region 7 with fail
  generalize (w4.alloc (.cells #[.int .i64 c'.id, .int .i64 c'.st, .int .u32 c'.n, .int .u32 c'.ip, .int .u16 c'.port] 27)) = w5 at *
  have fa := A.out.free 0 _ rfl
  have fb := B.out.free 0 _ rfl
  have fc := C.out.free 0 _ rfl
  have ca := A.out.cell 0 _ rfl
  have cb := B.out.cell 0 _ rfl
  have cc := C.out.cell 0 _ rfl
  have e1 : w3.heap.size ≠ w2.heap.size := by omega
  have e2 : w4.heap.size ≠ w2.heap.size := by omega
  have e3 : w4.heap.size ≠ w3.heap.size := by omega
  have e4 := e1.symm
  have e5 := e2.symm
  have e6 := e3.symm
  go_upto_region 10 with fail
  have A : Hid (Cs w2.heap.size (rcs (id3 a')) (((w5.setCell ⟨w2.heap.size, 0, none⟩ (.int .i64 3)).setCell ⟨w3.heap.size, 0, none⟩ (.int .i64 3)).setCell ⟨w4.heap.size, 0, none⟩ (.int .i64 3))) := ((set_id3 A.out).far ⟨w3.heap.size, 0, none⟩ (.int .i64 3) e1).far ⟨w4.heap.size, 0, none⟩ (.int .i64 3) e2
  have B : Hid (Cs w3.heap.size (rcs (id3 b')) (((w5.setCell ⟨w2.heap.size, 0, none⟩ (.int .i64 3)).setCell ⟨w3.heap.size, 0, none⟩ (.int .i64 3)).setCell ⟨w4.heap.size, 0, none⟩ (.int .i64 3))) := (set_id3 (B.out.far ⟨w2.heap.size, 0, none⟩ (.int .i64 3) e4)).far ⟨w4.heap.size, 0, none⟩ (.int .i64 3) e3
  have C : Hid (Cs w4.heap.size (rcs (id3 c')) (((w5.setCell ⟨w2.heap.size, 0, none⟩ (.int .i64 3)).setCell ⟨w3.heap.size, 0, none⟩ (.int .i64 3)).setCell ⟨w4.heap.size, 0, none⟩ (.int .i64 3))) := set_id3 ((C.out.far ⟨w2.heap.size, 0, none⟩ (.int .i64 3) e5).far ⟨w3.heap.size, 0, none⟩ (.int .i64 3) e6)
  have hB : Hid (Below w.heap.size w (((w5.setCell ⟨w2.heap.size, 0, none⟩ (.int .i64 3)).setCell ⟨w3.heap.size, 0, none⟩ (.int .i64 3)).setCell ⟨w4.heap.size, 0, none⟩ (.int .i64 3))) := ((hB.out.setCell (p := ⟨w2.heap.size, 0, none⟩) l2 (.int .i64 3)).setCell (p := ⟨w3.heap.size, 0, none⟩) (show w.heap.size ≤ w3.heap.size by omega) (.int .i64 3)).setCell (p := ⟨w4.heap.size, 0, none⟩) (show w.heap.size ≤ w4.heap.size by omega) (.int .i64 3)
  generalize (((w5.setCell ⟨w2.heap.size, 0, none⟩ (.int .i64 3)).setCell ⟨w3.heap.size, 0, none⟩ (.int .i64 3)).setCell ⟨w4.heap.size, 0, none⟩ (.int .i64 3)) = w6 at *
  have ha := id3_ok ha'
  have hb := id3_ok hb'
  have hc := id3_ok hc'
  obtain ⟨a, hA⟩ : ∃ a, id3 a' = a := ⟨_, rfl⟩
  obtain ⟨b, hBb⟩ : ∃ b, id3 b' = b := ⟨_, rfl⟩
  obtain ⟨c, hC⟩ : ∃ c, id3 c' = c := ⟨_, rfl⟩
  have ia : a.id = 3 := by rw [← hA]; rfl
  have ib : b.id = 3 := by rw [← hBb]; rfl
  have ic : c.id = 3 := by rw [← hC]; rfl
  rw [hA] at A ha
  rw [hBb] at B hb
  rw [hC] at C hc
  clear hA hBb hC ha' hb' hc' fa fb fc ca cb cc e1 e2 e3 e4 e5 e6 n23 n34 l2
  have j1 := joinR_comm (a := a) (b := b) (by omega)
  have i1 := joinR_id (a := a) (b := b) (by omega)
  have i2 := joinR_id (a := b) (b := c) (by omega)
  have i3 := joinR_id (a := joinR a b) (b := c) (by omega)
  have j2 := joinR_assoc (a := a) (b := b) (c := c) (by omega) (by omega)
  have g1 := joinR_ge a b
  have g2 := joinR_ge (joinR a b) c
  have g3 : ¬ ltR (joinR (joinR a b) c) a := not_lt_trans g2.1 g1.1
  have j3 := joinR_of_ge g3 (by omega)
  have O1 := ordR_ge g3
  have O2 := ordR_ge g2.2
  have hM : joinR (joinR a b) c = a ∨ joinR (joinR a b) c = b ∨ joinR (joinR a b) c = c := by
    rcases joinR_or (joinR a b) c with h | h
    · rcases joinR_or a b with h2 | h2
      · rw [h, h2]; exact .inl rfl
      · rw [h, h2]; exact .inr (.inl rfl)
    · exact .inr (.inr h)
  have k1 := joinR_ok ha hb
  have k2 := joinR_ok k1 hc
  have k3 := joinR_ok hb hc
  have im : (joinR (joinR a b) c).id = 3 := by omega
  clear i1 i2 i3 g1 g2 g3
  obtain ⟨M1, hM1⟩ : ∃ M, joinR a b = M := ⟨_, rfl⟩
  simp only [hM1] at j1 j2 j3 O1 O2 hM k1 k2 im
  obtain ⟨M, hM2⟩ : ∃ M', joinR M1 c = M' := ⟨_, rfl⟩
  simp only [hM2] at j2 j3 O1 O2 hM k2 im
  obtain ⟨N, hN⟩ : ∃ M, joinR b c = M := ⟨_, rfl⟩
  simp only [hN] at j2 k3
  have J1 := Lib.hid (join_is hM1 ha hb)
  have J2 := Lib.hid (join_is hM2 k1 hc)
  have J3 := Lib.hid (join_is j1.symm hb ha)
  have J4 := Lib.hid (join_is hN hb hc)
  have J5 := Lib.hid (join_is j2.symm ha k3)
  have J6 := Lib.hid (join_is j3 k2 ha)
  have J7 := Lib.hid (join_is (joinR_self a) ha ha)
  have J8 := Lib.hid (order_rec M a k2 ha)
  have J9 := Lib.hid (order_rec M c k2 hc)
  generalize ordR M a = o1 at *
  generalize ordR M c = o2 at *
  have q1 : Hid (M = b → M1 = M) := fun h => by rw [j1, ← h, j3]
  clear j1 j2 j3 k1 k2 k3 hM1 hM2 hN ha hb hc ia ib ic im
  obtain ⟨a0, a1, a2, a3, a4⟩ := Rb.of A.out
  obtain ⟨b0, b1, b2, b3, b4⟩ := Rb.of B.out
  go_wp2_with fail
  refine (J1.out _).mono ?_; rintro e w7 ⟨rfl, d⟩
  replace hB : Hid (Below w.heap.size w _) := (hB.out).trans (d.mono (hB.out).size); replace A := Lib.hid (A.out.keep d); replace B := Lib.hid (B.out.keep d); replace C := Lib.hid (C.out.keep d); clear d
  clear a0 a1 a2 a3 a4 b0 b1 b2 b3 b4 J1
  have E := Lib.hid (Cs.new w7 (rcs M1) 27)
  obtain ⟨a0, a1, a2, a3, a4⟩ := Rb.of C.out
  have lc := C.out.lt
  go_wp2_with fail
  refine (J2.out _).mono ?_; rintro e w8 ⟨rfl, d⟩
  replace E := Lib.hid (E.out.keep d)
  replace hB : Hid (Below w.heap.size w _) := ((hB.out.alloc (hB.out).size _)).trans (d.mono ((hB.out.alloc (hB.out).size _)).size); replace A := Lib.hid ((A.out.alloc _).keep d); replace B := Lib.hid ((B.out.alloc _).keep d); replace C := Lib.hid ((C.out.alloc _).keep d); clear d
  clear a0 a1 a2 a3 a4 lc J2
  have F : Hid (Cs w8.heap.size (rcs M) (w8.alloc (.cells #[.int .i64 M.id, .int .i64 M.st, .int .u32 M.n, .int .u32 M.ip, .int .u16 M.port] 27))) := Cs.new w8 (rcs M) _
  have A : Hid (Cs w2.heap.size (rcs a) (w8.alloc (.cells #[.int .i64 M.id, .int .i64 M.st, .int .u32 M.n, .int .u32 M.ip, .int .u16 M.port] 27))) := A.out.alloc _
  have B : Hid (Cs w3.heap.size (rcs b) (w8.alloc (.cells #[.int .i64 M.id, .int .i64 M.st, .int .u32 M.n, .int .u32 M.ip, .int .u16 M.port] 27))) := B.out.alloc _
  have C : Hid (Cs w4.heap.size (rcs c) (w8.alloc (.cells #[.int .i64 M.id, .int .i64 M.st, .int .u32 M.n, .int .u32 M.ip, .int .u16 M.port] 27))) := C.out.alloc _
  have E : Hid (Cs w7.heap.size (rcs M1) (w8.alloc (.cells #[.int .i64 M.id, .int .i64 M.st, .int .u32 M.n, .int .u32 M.ip, .int .u16 M.port] 27))) := E.out.alloc _
  replace hB : Hid (Below w.heap.size w (w8.alloc (.cells #[.int .i64 M.id, .int .i64 M.st, .int .u32 M.n, .int .u32 M.ip, .int .u16 M.port] 27))) := hB.out.alloc hB.out.size _
  go_upto_region 12 with fail
  generalize (w8.alloc (.cells #[.int .i64 M.id, .int .i64 M.st, .int .u32 M.n, .int .u32 M.ip, .int .u16 M.port] 27)) = w9 at *
  have K3 := fun d os => Calls.regrown_of (J3.out (grow (redrawn w9 d) os))
  have K4 := fun d os => Calls.regrown_of (J4.out (grow (redrawn w9 d) os))
  have K5 := fun d os => Calls.regrown_of (J5.out (grow (redrawn w9 d) os))
  have K6 := fun d os => Calls.regrown_of (J6.out (grow (redrawn w9 d) os))
  have K7 := fun d os => Calls.regrown_of (J7.out (grow (redrawn w9 d) os))
  have K8 := fun d os => Calls.regrown_of (J8.out (grow (redrawn w9 d) os))
  have K9 := fun d os => Calls.regrown_of (J9.out (grow (redrawn w9 d) os))
  clear J3 J4 J5 J6 J7 J8 J9
  have A0 := cell_regrown (A.out.cell 0 (.int .i64 a.id) rfl); have A1 := cell_regrown (A.out.cell 1 (.int .i64 a.st) rfl); have A2 := cell_regrown (A.out.cell 2 (.int .u32 a.n) rfl); have A3 := cell_regrown (A.out.cell 3 (.int .u32 a.ip) rfl); have A4 := cell_regrown (A.out.cell 4 (.int .u16 a.port) rfl)
  have B0 := cell_regrown (B.out.cell 0 (.int .i64 b.id) rfl); have B1 := cell_regrown (B.out.cell 1 (.int .i64 b.st) rfl); have B2 := cell_regrown (B.out.cell 2 (.int .u32 b.n) rfl); have B3 := cell_regrown (B.out.cell 3 (.int .u32 b.ip) rfl); have B4 := cell_regrown (B.out.cell 4 (.int .u16 b.port) rfl)
  have C0 := cell_regrown (C.out.cell 0 (.int .i64 c.id) rfl); have C1 := cell_regrown (C.out.cell 1 (.int .i64 c.st) rfl); have C2 := cell_regrown (C.out.cell 2 (.int .u32 c.n) rfl); have C3 := cell_regrown (C.out.cell 3 (.int .u32 c.ip) rfl); have C4 := cell_regrown (C.out.cell 4 (.int .u16 c.port) rfl)
  have E0 := cell_regrown (E.out.cell 0 (.int .i64 M1.id) rfl); have E1 := cell_regrown (E.out.cell 1 (.int .i64 M1.st) rfl); have E2 := cell_regrown (E.out.cell 2 (.int .u32 M1.n) rfl); have E3 := cell_regrown (E.out.cell 3 (.int .u32 M1.ip) rfl); have E4 := cell_regrown (E.out.cell 4 (.int .u16 M1.port) rfl)
  have F0 := cell_regrown (F.out.cell 0 (.int .i64 M.id) rfl); have F1 := cell_regrown (F.out.cell 1 (.int .i64 M.st) rfl); have F2 := cell_regrown (F.out.cell 2 (.int .u32 M.n) rfl); have F3 := cell_regrown (F.out.cell 3 (.int .u32 M.ip) rfl); have F4 := cell_regrown (F.out.cell 4 (.int .u16 M.port) rfl)
  clear A B C E F
  by_cases c1 : M = a
  · subst c1
    (refine wp_region_quiet_below (by kernel_rfl) (by kernel_rfl) ?_; (repeat (go_big_quiet_step (first | with_reducible exact K3 _ _ | with_reducible exact K4 _ _ | with_reducible exact K5 _ _ | with_reducible exact K6 _ _ | with_reducible exact K7 _ _ | with_reducible exact K8 _ _ | with_reducible exact K9 _ _))); refine wpQuiet_nil ?_; intro _ hw'; obtain ⟨⟨dq, osq⟩, hw''⟩ := hw'; subst hw'')
    go_wp2
    go_ret
    exact ⟨rfl, hB.out.trans ((below_regrown w9 dq osq).mono hB.out.size)⟩
  · have N1 := eqR_no M a c1
    by_cases c2 : M = b
    · obtain rfl := q1.out c2
      subst c2
      (refine wp_region_quiet_below (by kernel_rfl) (by kernel_rfl) ?_; (repeat (go_big_quiet_step (first | with_reducible exact K3 _ _ | with_reducible exact K4 _ _ | with_reducible exact K5 _ _ | with_reducible exact K6 _ _ | with_reducible exact K7 _ _ | with_reducible exact K8 _ _ | with_reducible exact K9 _ _))); refine wpQuiet_nil ?_; intro _ hw'; obtain ⟨⟨dq, osq⟩, hw''⟩ := hw'; subst hw'')
      go_wp2
      go_ret
      exact ⟨rfl, hB.out.trans ((below_regrown w9 dq osq).mono hB.out.size)⟩
    · have N2 := eqR_no M b c2
      obtain rfl : M = c := by rcases hM with h | h | h
                               · exact (c1 h).elim
                               · exact (c2 h).elim
                               · exact h
      clear c1 c2
      (refine wp_region_quiet_below (by kernel_rfl) (by kernel_rfl) ?_; (repeat (go_big_quiet_step (first | with_reducible exact K3 _ _ | with_reducible exact K4 _ _ | with_reducible exact K5 _ _ | with_reducible exact K6 _ _ | with_reducible exact K7 _ _ | with_reducible exact K8 _ _ | with_reducible exact K9 _ _))); refine wpQuiet_nil ?_; intro _ hw'; obtain ⟨⟨dq, osq⟩, hw''⟩ := hw'; subst hw'')
      go_wp2
      go_ret
      exact ⟨rfl, hB.out.trans ((below_regrown w9 dq osq).mono hB.out.size)⟩

theorem recordJoins_run (i1 s1 n1 p1 q1 : Int) (o1 : Bool) (i2 s2 n2 p2 q2 : Int) (o2 : Bool) (i3 s3 n3 p3 q3 : Int) (o3 : Bool) (w : World) (_ : (Lit.int .i64 i1).wf = true) (_ : (Lit.int .i64 s1).wf = true) (h1 : (Lit.int .u32 n1).wf = true) (g1 : (Lit.int .u32 p1).wf = true) (k1 : (Lit.int .u16 q1).wf = true) (_ : (Lit.int .i64 i2).wf = true) (_ : (Lit.int .i64 s2).wf = true) (h2 : (Lit.int .u32 n2).wf = true) (g2 : (Lit.int .u32 p2).wf = true) (k2 : (Lit.int .u16 q2).wf = true) (_ : (Lit.int .i64 i3).wf = true) (_ : (Lit.int .i64 s3).wf = true) (h3 : (Lit.int .u32 n3).wf = true) (g3 : (Lit.int .u32 p3).wf = true) (k3 : (Lit.int .u16 q3).wf = true) (ht : Tab w) :
    Calls Tryd.prog 5 #[.agg #[.int .i64 i1, .int .i64 s1, .int .u32 n1, .int .u32 p1, .int .u16 q1, .bool o1], .agg #[.int .i64 i2, .int .i64 s2, .int .u32 n2, .int .u32 p2, .int .u16 q2, .bool o2], .agg #[.int .i64 i3, .int .i64 s3, .int .u32 n3, .int .u32 p3, .int .u16 q3, .bool o3]] w fun e w' => e = .returned (.bool true) ∧ Below w.heap.size w w' := by
  obtain ⟨t1, ht1, rfl, rfl, rfl, rfl, rfl⟩ := rec_of (i := i1) (st := s1) h1 g1 k1
  obtain ⟨t2, ht2, rfl, rfl, rfl, rfl, rfl⟩ := rec_of (i := i2) (st := s2) h2 g2 k2
  obtain ⟨t3, ht3, rfl, rfl, rfl, rfl, rfl⟩ := rec_of (i := i3) (st := s3) h3 g3 k3
  exact recordJoins_walk t1 o1 ht1 t2 o2 ht2 t3 o3 ht3 w ht


theorem recordJoins_own : ownKnob Tryd.prog.godebug = none := by kernel_rfl
theorem recordJoins_laid : laidOutB Tryd.prog = true := by kernel_rfl
set_option maxRecDepth 100000 in
theorem recordJoins_lifted (os : Os) (started : os.Started) (H : Type) (enc : TypeId × Value → H) :
    ReturnsInHanded {} Tryd.checked os 5 .any (fun w args => (Rows.recordJoinsSpec.pre enc Tryd.prog Tryd.f5 [] false w args ∧ laidMetH Tryd.prog seatLaid w) ∧ sizedMet enc Tryd.prog Tryd.f5 (OpenSpec.ofChange Rows.recordJoinsSpec) false w args) (Rows.recordJoinsSpec.post enc Tryd.prog Tryd.f5 false true false false) := by
  refine returnsInHanded_of_change_and (C := Tryd.checked) (X := fun w _ => laidMetH Tryd.prog seatLaid w) (fun _ _ _ hh h => h.of_heap hh) recordJoins_own started (by kernel_rfl) Tryd.func5
    (ChangeSpec.witness_shaped (enc := enc) (C := Tryd.checked) (os := os) (X := fun w _ => laidMetH Tryd.prog seatLaid w) false (World.doorLaid Tryd.prog seatSteps os) #[.agg #[.int .i64 0, .int .i64 0, .int .u32 0, .int .u32 0, .int .u16 0, .bool false], .agg #[.int .i64 0, .int .i64 0, .int .u32 0, .int .u32 0, .int .u16 0, .bool false], .agg #[.int .i64 0, .int .i64 0, .int .u32 0, .int .u32 0, .int .u16 0, .bool false]] 8 rfl (World.shaped_of_RefB (by kernel_rfl) (by kernel_rfl)) (by kernel_rfl) (by kernel_rfl) (by kernel_rfl) (door_met os _)) ?_
  intro W base args ds gs before hval0 hW hcnd hsz hL _
  have hval : ∀ (j : Nat) t v, Tryd.f5.params[j]? = some t → args[j]? = some v → Value.okWide Tryd.prog W .any base t v := hval0
  have hW' := hW
  obtain ⟨p, q, hA0, hV, rfl, hfz, hnd⟩ := hW
  have hA : DataW.TrodAll enc Tryd.prog W 0 (fun _ => true) true Tryd.f5.params.toList args.toList ds p := hA0
  rw [Tryd.params5] at hA hval
  obtain ⟨v0, vs0, d0, ds0, p0, q0, hargs, rfl, rfl, h0, r0⟩ := trodAll_cons hA
  obtain ⟨v1, vs1, d1, ds1, p1, q1, rfl, rfl, rfl, h1, r1⟩ := trodAll_cons r0
  obtain ⟨v2, vs2, d2, ds2, p2, q2, rfl, rfl, rfl, h2, r2⟩ := trodAll_cons r1
  obtain ⟨rfl, rfl, rfl⟩ := trodAll_nil r2
  obtain rfl : args = #[v0, v1, v2] := by cases args; simp_all
  obtain ⟨rfl, rfl⟩ := trodVars_none hV
  have k0 := h0
  have lt0 : ∀ x ∈ p0, x.block < W.heap.size := by obtain ⟨m, hm⟩ := k0; exact DataW.trod_lt m _ _ _ hm
  obtain ⟨a0_0, a0_1, a0_2, a0_3, a0_4, a0_5, rfl, w0_0, w0_1, w0_2, w0_3, w0_4⟩ := open_thing (hval 0 29 v0 rfl rfl) h0
  have k1 := h1
  have lt1 : ∀ x ∈ p1, x.block < W.heap.size := by obtain ⟨m, hm⟩ := k1; exact DataW.trod_lt m _ _ _ hm
  obtain ⟨a1_0, a1_1, a1_2, a1_3, a1_4, a1_5, rfl, w1_0, w1_1, w1_2, w1_3, w1_4⟩ := open_thing (hval 1 29 v1 rfl rfl) h1
  have k2 := h2
  have lt2 : ∀ x ∈ p2, x.block < W.heap.size := by obtain ⟨m, hm⟩ := k2; exact DataW.trod_lt m _ _ _ hm
  obtain ⟨a2_0, a2_1, a2_2, a2_3, a2_4, a2_5, rfl, w2_0, w2_1, w2_2, w2_3, w2_4⟩ := open_thing (hval 2 29 v2 rfl rfl) h2
  clear hA0 hval0
  refine (recordJoins_run a0_0 a0_1 a0_2 a0_3 a0_4 a0_5 a1_0 a1_1 a1_2 a1_3 a1_4 a1_5 a2_0 a2_1 a2_2 a2_3 a2_4 a2_5 W w0_0 w0_1 w0_2 w0_3 w0_4 w1_0 w1_1 w1_2 w1_3 w1_4 w2_0 w2_1 w2_2 w2_3 w2_4 (tab_of_laid hL)).mono fun e W' ⟨he, bel⟩ => ?_
  subst he
  exact ⟨_, rfl, _, _, _, [], _, [], hW', trodAll_mk1 (shut_bool Tryd.underlying4 _), (trodAll_cons_mk (Below.trod recordJoins_laid (by kernel_rfl) (of_decide_eq_true (by kernel_rfl)) k0 bel lt0) (trodAll_cons_mk (Below.trod recordJoins_laid (by kernel_rfl) (of_decide_eq_true (by kernel_rfl)) k1 bel lt1) (trodAll_cons_mk (Below.trod recordJoins_laid (by kernel_rfl) (of_decide_eq_true (by kernel_rfl)) k2 bel lt2) trodAll_mk0))), rfl, bel.frame _, fun h => by cases h⟩
theorem recordJoins_over : Rows.recordJoinsRow.holds Tryd.pinned (OpenSpec.ofChange Rows.recordJoinsSpec) :=
  OpenClaim.holds_of_wide 5 Tryd.f5 rfl rfl rfl rfl rfl rfl rfl ⟨rfl, rfl, rfl, rfl, rfl⟩ rfl rfl rfl rfl rfl (by kernel_rfl) Tryd.func5 (by kernel_rfl)
    (of_decide_eq_true (by kernel_rfl)) (by unfold Func.isWrapper; first | (rw [if_pos (by decide +kernel)]; kernel_rfl) | (rw [if_neg (by decide +kernel)]; exact ⟨rfl, rfl⟩))
    (fun os started H enc _ => recordJoins_lifted os started H enc)
theorem recordJoins_holds : Rows.RecordJoinsCardSaid :=
  Claim7.holds_tied_plain_at .later [] [.data] true Rows.recordJoinsCard.stood.harness false recordJoins_over (fun _ h => by cases h) (by kernel_rfl) (fun _ h => by cases h) recordJoins_row_tie rfl ⟨rfl, rfl⟩ (by kernel_rfl) rfl
    (fun f fn hf hfn => by
      obtain rfl : f = 5 := Option.some.inj ((show Tryd.prog.funcNamed "scuttlebutt/scuttlebuttlaw04.RecordJoins" = some 5 by kernel_rfl).symm.trans hf) |>.symm
      obtain rfl : fn = Tryd.f5 := (Option.some.inj (Tryd.func5.symm.trans hfn)).symm
      exact ⟨by kernel_rfl, fun j t ht => by
        rw [Tryd.params5] at ht
        have hm : t ∈ [29, 29, 29] := by simpa using Array.mem_of_getElem? ht
        have hall : ([29, 29, 29].all fun u => !Tryd.prog.wantsStandIn u) = true := by kernel_rfl
        exact (show Tryd.prog.wantsStandIn t = false by simpa using List.all_eq_true.1 hall t hm)⟩)
    (by kernel_rfl)
#print axioms recordJoins_holds
end Go.Proofs.YtnmnokmbnjdfoaaDoor
