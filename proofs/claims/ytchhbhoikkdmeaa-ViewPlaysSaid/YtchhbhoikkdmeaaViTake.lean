/- The program's view: Take. -/
import Derived.Test.YtchhbhoikkdmeaaViOps
namespace Go.Proofs.Ytchhbhoikkdmeaa
open Go.Sort Go.RowKit Go.BigFrame
set_option linter.unusedVariables false
set_option linter.unusedSimpArgs false

def TakePost (g : Nat) (v : Vw) (r : Rec) (w : World) (e : Ending) (w' : World) : Prop := e = .returned (.tuple #[.bool (turns v r), .int .i64 (errR r)]) ∧ VAft g (takeV v r) w w'
theorem err_ok {r : Rec} (h : r.right = true) : errR r = 0 := by unfold errR; rw [if_pos h]
theorem err_bad {r : Rec} (h : r.right = false) : errR r = 1 := by unfold errR; rw [if_neg (by simp [h])]
theorem right_st {r : Rec} (h : r.right = true) : 0 ≤ r.st ∧ r.st ≤ 3 := by
  unfold Rec.right rightI stI at h
  simp only [Bool.and_eq_true, decide_eq_true_eq] at h
  omega
theorem was_no {v : Vw} {i : Int} (h : knows v i = false) : wasV v i = -1 := by unfold wasV; rw [if_neg (by simp [h])]
theorem was_yes {v : Vw} {i : Int} (h : knows v i = true) : wasV v i = (v.k i.toNat).st := by unfold wasV; rw [if_pos h]
theorem note_no {v : Vw} {r : Rec} (h : r.st = wasV v r.id) : noteE v r = v.E := by unfold noteE; rw [if_pos h]
theorem note_yes {v : Vw} {r : Rec} (h : ¬ r.st = wasV v r.id) : noteE v r = v.E ++ [evV v r] := by unfold noteE; rw [if_neg h]
/-- the record is stored -/
theorem take_put {g : Nat} {v : Vw} {r : Rec} {w w1 : World} (h : Vs g v w1) (hb : Below w.heap.size w w1) (hr : r.Ok) (ht : turns v r = true) : VAft g ⟨upd v.k r.id.toNat r, v.E⟩ w ((w1.setCells g (r.id.toNat * 5) (rcs r)).drew) := by
  have hok := take_ok h.ok hr
  rw [take_yes ht] at hok
  have hi := right_in (turns_right ht)
  have P := h.put r.id.toNat (by omega) r ⟨hok.ok, hok.id⟩
  exact ⟨P.keep (Below.refl _ _).drew, ((Touch.of_below (fun k => k = g) hb).trans (Touch.sets (F := fun k => k = g) (Touch.refl _ w1) g (fun _ => rfl) _ _) (fun _ _ h => h)).drew⟩
def OfO (g : Nat) (v : Vw) (i : Int) (o : Rec) (q : Bool) : Prop := ∀ w, Vs g v w → Calls Try.prog 15 #[.pointer (some ⟨g, 0, none⟩), .int .i64 i] w fun e w' => e = .returned (.tuple #[.agg #[.int .i64 o.id, .int .i64 o.st, .int .u32 o.n, .int .u32 o.ip, .int .u16 o.port], .bool q]) ∧ Below w.heap.size w w'
def Res (g : Nat) (V : Vw) (t : Bool) (w : World) (e : Ending) (w' : World) : Prop := e = .returned (.tuple #[.bool t, .int .i64 0]) ∧ VAft g V w w'
set_option maxHeartbeats 3200000 in
theorem take_new (n : Nat) (st : Int) (rn ip port : Nat) (o : Rec) (hn1 : n < 33) (g : Nat) (v V1 V2 : Vw) (w : World) (h : Vs g v w) (K1 : ∀ w, Calls Try.prog 29 #[.agg #[.int .i64 n, .int .i64 st, .int .u32 rn, .int .u32 ip, .int .u16 port]] w fun e w' => e = .returned (.bool true) ∧ Below w.heap.size w w') (KO : OfO g v n o false) (PUT : ∀ wb, Vs g v wb → Below w.heap.size w wb → VAft g V1 w ((wb.setCells g (n * 5) (rcs ⟨n, st, rn, ip, port⟩)).drew)) (NOTE : ∀ w1, Vs g V1 w1 → Calls Try.prog 31 #[.pointer (some ⟨g, 0, none⟩), .agg #[.int .i64 n, .int .i64 (-1), .int .i64 st, .int .u32 rn]] w1 (NotePost g V2 w1)) (hne : ¬ st = (-1)) :
    Calls Try.prog 12 #[.pointer (some ⟨g, 0, none⟩), .agg #[.int .i64 n, .int .i64 st, .int .u32 rn, .int .u32 ip, .int .u16 port]] w (Res g V2 true w) := by
  unfold Res
  have X := Lib.hid (Cs.new w (rcs ⟨n, st, rn, ip, port⟩) 37)
  have hB : Hid (Below w.heap.size w (w.alloc (.cells #[.int .i64 n, .int .i64 st, .int .u32 rn, .int .u32 ip, .int .u16 port] 37))) := (Below.refl _ _).alloc (Nat.le_refl _) _
  have H := Lib.hid (h.keep hB.out)
  have gw := h.lt
  have hn2 : (n : Int) < 33 := by omega
  have hn0 : (0 : Int) ≤ n := by omega
  have c0 := X.out.cell 0 _ rfl
  have c1 := X.out.cell 1 _ rfl
  have c2 := X.out.cell 2 _ rfl
  have c3 := X.out.cell 3 _ rfl
  have c4 := X.out.cell 4 _ rfl
  have KO := Lib.hid KO
  clear h
  simp only at c0 c1 c2 c3 c4
  go_enter Try.func12, Try.ntmps12
  go_wp2_with fail
  refine (K1 _).mono ?_; rintro e w1 ⟨rfl, b1⟩
  replace H := Lib.hid (H.out.keep b1)
  have hb1 : Hid (Below w.heap.size w w1) := hB.out.trans (b1.mono hB.out.size)
  replace X := Lib.hid (X.out.keep b1)
  clear c0 c1 c2 c3 c4 K1 b1
  have c0 := X.out.cell 0 _ rfl
  have c1 := X.out.cell 1 _ rfl
  have c2 := X.out.cell 2 _ rfl
  have c3 := X.out.cell 3 _ rfl
  have c4 := X.out.cell 4 _ rfl
  simp only at c0 c1 c2 c3 c4
  have xl := X.out.lt
  have K := KO.out w1 H.out
  go_wp2_with fail
  refine K.mono ?_; rintro e w2 ⟨rfl, b2⟩
  have HB : Hid (Below w.heap.size w (w2.alloc (.cells #[.int .i64 o.id, .int .i64 o.st, .int .u32 o.n, .int .u32 o.ip, .int .u16 o.port] 37))) := (hb1.out.trans (b2.mono hb1.out.size)).alloc (by have := hb1.out.size; have := b2.size; omega) _
  replace H := Lib.hid ((H.out.keep b2).keep ((Below.refl _ w2).alloc (Nat.le_refl _) (.cells #[.int .i64 o.id, .int .i64 o.st, .int .u32 o.n, .int .u32 o.ip, .int .u16 o.port] 37)))
  replace X := Lib.hid ((X.out.keep b2).alloc (.cells #[.int .i64 o.id, .int .i64 o.st, .int .u32 o.n, .int .u32 o.ip, .int .u16 o.port] 37))
  have Y := Lib.hid (Cs.new w2 (rcs o) 37)
  change Hid (Cs w2.heap.size (rcs o) (w2.alloc (.cells #[.int .i64 o.id, .int .i64 o.st, .int .u32 o.n, .int .u32 o.ip, .int .u16 o.port] 37))) at Y
  clear c0 c1 c2 c3 c4 K b2 hb1 hB KO xl
  have c0 := X.out.cell 0 _ rfl
  have c1 := X.out.cell 1 _ rfl
  have c2 := X.out.cell 2 _ rfl
  have c3 := X.out.cell 3 _ rfl
  have c4 := X.out.cell 4 _ rfl
  have y0 := Y.out.cell 0 _ rfl
  have y1 := Y.out.cell 1 _ rfl
  have y2 := Y.out.cell 2 _ rfl
  have y3 := Y.out.cell 3 _ rfl
  have y4 := Y.out.cell 4 _ rfl
  simp only at c0 c1 c2 c3 c4
  have xl := X.out.lt
  have yl := Y.out.lt
  go_upto_region 9 with fail
  generalize (w2.alloc (.cells #[.int .i64 o.id, .int .i64 o.st, .int .u32 o.n, .int .u32 o.ip, .int .u16 o.port] 37)) = w3 at *
  have P := Lib.hid (PUT w3 H.out HB.out)
  have fr := fun o => H.out.free o
  have hx : w.heap.size ≠ g := fun e => by omega
  replace X := Lib.hid (X.out.touch (Touch.drew (Touch.sets (F := fun k => k = g) (Touch.refl _ w3) g (fun _ => rfl) (rcs ⟨n, st, rn, ip, port⟩) (n * 5))) hx)
  obtain ⟨u0, z0⟩ := H.out.has (n * 5) (by omega)
  obtain ⟨u1, z1⟩ := H.out.has (n * 5 + 1) (by omega)
  obtain ⟨u2, z2⟩ := H.out.has (n * 5 + 2) (by omega)
  obtain ⟨u3, z3⟩ := H.out.has (n * 5 + 3) (by omega)
  obtain ⟨u4, z4⟩ := H.out.has (n * 5 + 4) (by omega)
  go_region
  change Hid (VAft g V1 w (((((w3.setCell ⟨g, n * 5, none⟩ (.int .i64 n)).setCell ⟨g, n * 5 + 1, none⟩ (.int .i64 st)).setCell ⟨g, n * 5 + 2, none⟩ (.int .u32 rn)).setCell ⟨g, n * 5 + 3, none⟩ (.int .u32 ip)).setCell ⟨g, n * 5 + 4, none⟩ (.int .u16 port)).drew) at P
  change Hid (Cs w.heap.size (rcs ⟨n, st, rn, ip, port⟩) (((((w3.setCell ⟨g, n * 5, none⟩ (.int .i64 n)).setCell ⟨g, n * 5 + 1, none⟩ (.int .i64 st)).setCell ⟨g, n * 5 + 2, none⟩ (.int .u32 rn)).setCell ⟨g, n * 5 + 3, none⟩ (.int .u32 ip)).setCell ⟨g, n * 5 + 4, none⟩ (.int .u16 port)).drew) at X
  clear c0 c1 c2 c3 c4 y0 y1 y2 y3 y4 z0 z1 z2 z3 z4 xl yl fr PUT
  generalize (((((w3.setCell ⟨g, n * 5, none⟩ (.int .i64 n)).setCell ⟨g, n * 5 + 1, none⟩ (.int .i64 st)).setCell ⟨g, n * 5 + 2, none⟩ (.int .u32 rn)).setCell ⟨g, n * 5 + 3, none⟩ (.int .u32 ip)).setCell ⟨g, n * 5 + 4, none⟩ (.int .u16 port)).drew = w4 at *
  have c0 := X.out.cell 0 _ rfl
  have c1 := X.out.cell 1 _ rfl
  have c2 := X.out.cell 2 _ rfl
  simp only at c0 c1 c2
  have K := NOTE w4 P.out.1
  clear NOTE
  go_wp2_with fail
  refine K.mono ?_; rintro e w5 ⟨rfl, a5⟩
  have F := Lib.hid (P.out.trans a5)
  clear K a5 c0 c1 c2
  go_wp2
  refine bodyPost_ret (v := (.tuple #[.bool true, .int .i64 0])) (by simp [results, Try.results12, go_sem, *]) rfl ?_
  exact ⟨rfl, F.out⟩
set_option maxHeartbeats 3200000 in
theorem take_old (n : Nat) (st : Int) (rn ip port : Nat) (o : Rec) (hn1 : n < 33) (g : Nat) (v V1 V2 : Vw) (w : World) (h : Vs g v w) (K1 : ∀ w, Calls Try.prog 29 #[.agg #[.int .i64 n, .int .i64 st, .int .u32 rn, .int .u32 ip, .int .u16 port]] w fun e w' => e = .returned (.bool true) ∧ Below w.heap.size w w') (KO : OfO g v n o true) (KV : ∀ w, Calls Try.prog 30 #[.agg #[.int .i64 n, .int .i64 st, .int .u32 rn, .int .u32 ip, .int .u16 port], .agg #[.int .i64 o.id, .int .i64 o.st, .int .u32 o.n, .int .u32 o.ip, .int .u16 o.port]] w fun e w' => e = .returned (.bool false) ∧ Below w.heap.size w w') :
    Calls Try.prog 12 #[.pointer (some ⟨g, 0, none⟩), .agg #[.int .i64 n, .int .i64 st, .int .u32 rn, .int .u32 ip, .int .u16 port]] w (Res g v false w) := by
  unfold Res
  have X := Lib.hid (Cs.new w (rcs ⟨n, st, rn, ip, port⟩) 37)
  have hB : Hid (Below w.heap.size w (w.alloc (.cells #[.int .i64 n, .int .i64 st, .int .u32 rn, .int .u32 ip, .int .u16 port] 37))) := (Below.refl _ _).alloc (Nat.le_refl _) _
  have H := Lib.hid (h.keep hB.out)
  have gw := h.lt
  have hn2 : (n : Int) < 33 := by omega
  have hn0 : (0 : Int) ≤ n := by omega
  have c0 := X.out.cell 0 _ rfl
  have c1 := X.out.cell 1 _ rfl
  have c2 := X.out.cell 2 _ rfl
  have c3 := X.out.cell 3 _ rfl
  have c4 := X.out.cell 4 _ rfl
  have KO := Lib.hid KO
  clear h
  simp only at c0 c1 c2 c3 c4
  go_enter Try.func12, Try.ntmps12
  go_wp2_with fail
  refine (K1 _).mono ?_; rintro e w1 ⟨rfl, b1⟩
  replace H := Lib.hid (H.out.keep b1)
  have hb1 : Hid (Below w.heap.size w w1) := hB.out.trans (b1.mono hB.out.size)
  replace X := Lib.hid (X.out.keep b1)
  clear c0 c1 c2 c3 c4 K1 b1
  have c0 := X.out.cell 0 _ rfl
  have c1 := X.out.cell 1 _ rfl
  have c2 := X.out.cell 2 _ rfl
  have c3 := X.out.cell 3 _ rfl
  have c4 := X.out.cell 4 _ rfl
  simp only at c0 c1 c2 c3 c4
  have xl := X.out.lt
  have K := KO.out w1 H.out
  go_wp2_with fail
  refine K.mono ?_; rintro e w2 ⟨rfl, b2⟩
  have HB : Hid (Below w.heap.size w (w2.alloc (.cells #[.int .i64 o.id, .int .i64 o.st, .int .u32 o.n, .int .u32 o.ip, .int .u16 o.port] 37))) := (hb1.out.trans (b2.mono hb1.out.size)).alloc (by have := hb1.out.size; have := b2.size; omega) _
  replace H := Lib.hid ((H.out.keep b2).keep ((Below.refl _ w2).alloc (Nat.le_refl _) (.cells #[.int .i64 o.id, .int .i64 o.st, .int .u32 o.n, .int .u32 o.ip, .int .u16 o.port] 37)))
  replace X := Lib.hid ((X.out.keep b2).alloc (.cells #[.int .i64 o.id, .int .i64 o.st, .int .u32 o.n, .int .u32 o.ip, .int .u16 o.port] 37))
  have Y := Lib.hid (Cs.new w2 (rcs o) 37)
  change Hid (Cs w2.heap.size (rcs o) (w2.alloc (.cells #[.int .i64 o.id, .int .i64 o.st, .int .u32 o.n, .int .u32 o.ip, .int .u16 o.port] 37))) at Y
  clear c0 c1 c2 c3 c4 K b2 hb1 hB KO xl
  have c0 := X.out.cell 0 _ rfl
  have c1 := X.out.cell 1 _ rfl
  have c2 := X.out.cell 2 _ rfl
  have c3 := X.out.cell 3 _ rfl
  have c4 := X.out.cell 4 _ rfl
  have y0 := Y.out.cell 0 _ rfl
  have y1 := Y.out.cell 1 _ rfl
  have y2 := Y.out.cell 2 _ rfl
  have y3 := Y.out.cell 3 _ rfl
  have y4 := Y.out.cell 4 _ rfl
  simp only at c0 c1 c2 c3 c4
  have xl := X.out.lt
  have yl := Y.out.lt
  go_upto_region 6 with fail
  generalize (w2.alloc (.cells #[.int .i64 o.id, .int .i64 o.st, .int .u32 o.n, .int .u32 o.ip, .int .u16 o.port] 37)) = wb at *
  go_wp2_with fail
  refine (KV _).mono ?_; rintro e w3 ⟨rfl, b3⟩
  replace HB : Hid (Below w.heap.size w w3) := HB.out.trans (b3.mono HB.out.size)
  replace H := Lib.hid (H.out.keep b3)
  replace X := Lib.hid (X.out.keep b3)
  replace Y := Lib.hid (Y.out.keep b3)
  clear c0 c1 c2 c3 c4 y0 y1 y2 y3 y4 xl yl KV b3
  have c0 := X.out.cell 0 _ rfl
  have c1 := X.out.cell 1 _ rfl
  have c2 := X.out.cell 2 _ rfl
  have c3 := X.out.cell 3 _ rfl
  have c4 := X.out.cell 4 _ rfl
  have y1 := Y.out.cell 1 _ rfl
  simp only at c0 c1 c2 c3 c4
  have xl := X.out.lt
  have yl := Y.out.lt
  have F := Lib.hid (VAft.after HB.out (H.out.same (Below.refl _ _)))
  go_wp2
  refine bodyPost_ret (v := (.tuple #[.bool false, .int .i64 0])) (by simp [results, Try.results12, go_sem, *]) rfl ?_
  exact ⟨rfl, F.out⟩
set_option maxHeartbeats 3200000 in
theorem take_same (n : Nat) (st : Int) (rn ip port : Nat) (o : Rec) (hn1 : n < 33) (g : Nat) (v V1 V2 : Vw) (w : World) (h : Vs g v w) (K1 : ∀ w, Calls Try.prog 29 #[.agg #[.int .i64 n, .int .i64 st, .int .u32 rn, .int .u32 ip, .int .u16 port]] w fun e w' => e = .returned (.bool true) ∧ Below w.heap.size w w') (KO : OfO g v n o true) (KV : ∀ w, Calls Try.prog 30 #[.agg #[.int .i64 n, .int .i64 st, .int .u32 rn, .int .u32 ip, .int .u16 port], .agg #[.int .i64 o.id, .int .i64 o.st, .int .u32 o.n, .int .u32 o.ip, .int .u16 o.port]] w fun e w' => e = .returned (.bool true) ∧ Below w.heap.size w w') (PUT : ∀ wb, Vs g v wb → Below w.heap.size w wb → VAft g V1 w ((wb.setCells g (n * 5) (rcs ⟨n, st, rn, ip, port⟩)).drew)) (hse : st = o.st) :
    Calls Try.prog 12 #[.pointer (some ⟨g, 0, none⟩), .agg #[.int .i64 n, .int .i64 st, .int .u32 rn, .int .u32 ip, .int .u16 port]] w (Res g V1 true w) := by
  subst hse
  unfold Res
  have X := Lib.hid (Cs.new w (rcs ⟨n, o.st, rn, ip, port⟩) 37)
  have hB : Hid (Below w.heap.size w (w.alloc (.cells #[.int .i64 n, .int .i64 o.st, .int .u32 rn, .int .u32 ip, .int .u16 port] 37))) := (Below.refl _ _).alloc (Nat.le_refl _) _
  have H := Lib.hid (h.keep hB.out)
  have gw := h.lt
  have hn2 : (n : Int) < 33 := by omega
  have hn0 : (0 : Int) ≤ n := by omega
  have c0 := X.out.cell 0 _ rfl
  have c1 := X.out.cell 1 _ rfl
  have c2 := X.out.cell 2 _ rfl
  have c3 := X.out.cell 3 _ rfl
  have c4 := X.out.cell 4 _ rfl
  have KO := Lib.hid KO
  clear h
  simp only at c0 c1 c2 c3 c4
  go_enter Try.func12, Try.ntmps12
  go_wp2_with fail
  refine (K1 _).mono ?_; rintro e w1 ⟨rfl, b1⟩
  replace H := Lib.hid (H.out.keep b1)
  have hb1 : Hid (Below w.heap.size w w1) := hB.out.trans (b1.mono hB.out.size)
  replace X := Lib.hid (X.out.keep b1)
  clear c0 c1 c2 c3 c4 K1 b1
  have c0 := X.out.cell 0 _ rfl
  have c1 := X.out.cell 1 _ rfl
  have c2 := X.out.cell 2 _ rfl
  have c3 := X.out.cell 3 _ rfl
  have c4 := X.out.cell 4 _ rfl
  simp only at c0 c1 c2 c3 c4
  have xl := X.out.lt
  have K := KO.out w1 H.out
  go_wp2_with fail
  refine K.mono ?_; rintro e w2 ⟨rfl, b2⟩
  have HB : Hid (Below w.heap.size w (w2.alloc (.cells #[.int .i64 o.id, .int .i64 o.st, .int .u32 o.n, .int .u32 o.ip, .int .u16 o.port] 37))) := (hb1.out.trans (b2.mono hb1.out.size)).alloc (by have := hb1.out.size; have := b2.size; omega) _
  replace H := Lib.hid ((H.out.keep b2).keep ((Below.refl _ w2).alloc (Nat.le_refl _) (.cells #[.int .i64 o.id, .int .i64 o.st, .int .u32 o.n, .int .u32 o.ip, .int .u16 o.port] 37)))
  replace X := Lib.hid ((X.out.keep b2).alloc (.cells #[.int .i64 o.id, .int .i64 o.st, .int .u32 o.n, .int .u32 o.ip, .int .u16 o.port] 37))
  have Y := Lib.hid (Cs.new w2 (rcs o) 37)
  change Hid (Cs w2.heap.size (rcs o) (w2.alloc (.cells #[.int .i64 o.id, .int .i64 o.st, .int .u32 o.n, .int .u32 o.ip, .int .u16 o.port] 37))) at Y
  clear c0 c1 c2 c3 c4 K b2 hb1 hB KO xl
  have c0 := X.out.cell 0 _ rfl
  have c1 := X.out.cell 1 _ rfl
  have c2 := X.out.cell 2 _ rfl
  have c3 := X.out.cell 3 _ rfl
  have c4 := X.out.cell 4 _ rfl
  have y0 := Y.out.cell 0 _ rfl
  have y1 := Y.out.cell 1 _ rfl
  have y2 := Y.out.cell 2 _ rfl
  have y3 := Y.out.cell 3 _ rfl
  have y4 := Y.out.cell 4 _ rfl
  simp only at c0 c1 c2 c3 c4
  have xl := X.out.lt
  have yl := Y.out.lt
  go_upto_region 6 with fail
  generalize (w2.alloc (.cells #[.int .i64 o.id, .int .i64 o.st, .int .u32 o.n, .int .u32 o.ip, .int .u16 o.port] 37)) = wb at *
  go_wp2_with fail
  refine (KV _).mono ?_; rintro e w3 ⟨rfl, b3⟩
  replace HB : Hid (Below w.heap.size w w3) := HB.out.trans (b3.mono HB.out.size)
  replace H := Lib.hid (H.out.keep b3)
  replace X := Lib.hid (X.out.keep b3)
  replace Y := Lib.hid (Y.out.keep b3)
  clear c0 c1 c2 c3 c4 y0 y1 y2 y3 y4 xl yl KV b3
  have c0 := X.out.cell 0 _ rfl
  have c1 := X.out.cell 1 _ rfl
  have c2 := X.out.cell 2 _ rfl
  have c3 := X.out.cell 3 _ rfl
  have c4 := X.out.cell 4 _ rfl
  have y1 := Y.out.cell 1 _ rfl
  simp only at c0 c1 c2 c3 c4
  have xl := X.out.lt
  have yl := Y.out.lt
  go_upto_region 9 with fail
  have P := Lib.hid (PUT w3 H.out HB.out)
  have fr := fun o => H.out.free o
  have hx : w.heap.size ≠ g := fun e => by omega
  replace X := Lib.hid (X.out.touch (Touch.drew (Touch.sets (F := fun k => k = g) (Touch.refl _ w3) g (fun _ => rfl) (rcs ⟨n, o.st, rn, ip, port⟩) (n * 5))) hx)
  obtain ⟨u0, z0⟩ := H.out.has (n * 5) (by omega)
  obtain ⟨u1, z1⟩ := H.out.has (n * 5 + 1) (by omega)
  obtain ⟨u2, z2⟩ := H.out.has (n * 5 + 2) (by omega)
  obtain ⟨u3, z3⟩ := H.out.has (n * 5 + 3) (by omega)
  obtain ⟨u4, z4⟩ := H.out.has (n * 5 + 4) (by omega)
  go_region
  change Hid (VAft g V1 w (((((w3.setCell ⟨g, n * 5, none⟩ (.int .i64 n)).setCell ⟨g, n * 5 + 1, none⟩ (.int .i64 o.st)).setCell ⟨g, n * 5 + 2, none⟩ (.int .u32 rn)).setCell ⟨g, n * 5 + 3, none⟩ (.int .u32 ip)).setCell ⟨g, n * 5 + 4, none⟩ (.int .u16 port)).drew) at P
  change Hid (Cs w.heap.size (rcs ⟨n, o.st, rn, ip, port⟩) (((((w3.setCell ⟨g, n * 5, none⟩ (.int .i64 n)).setCell ⟨g, n * 5 + 1, none⟩ (.int .i64 o.st)).setCell ⟨g, n * 5 + 2, none⟩ (.int .u32 rn)).setCell ⟨g, n * 5 + 3, none⟩ (.int .u32 ip)).setCell ⟨g, n * 5 + 4, none⟩ (.int .u16 port)).drew) at X
  clear c0 c1 c2 c3 c4 y1 z0 z1 z2 z3 z4 xl yl fr PUT
  generalize (((((w3.setCell ⟨g, n * 5, none⟩ (.int .i64 n)).setCell ⟨g, n * 5 + 1, none⟩ (.int .i64 o.st)).setCell ⟨g, n * 5 + 2, none⟩ (.int .u32 rn)).setCell ⟨g, n * 5 + 3, none⟩ (.int .u32 ip)).setCell ⟨g, n * 5 + 4, none⟩ (.int .u16 port)).drew = w4 at *
  have c0 := X.out.cell 0 _ rfl
  have c1 := X.out.cell 1 _ rfl
  have c2 := X.out.cell 2 _ rfl
  simp only at c0 c1 c2
  go_wp2
  refine bodyPost_ret (v := (.tuple #[.bool true, .int .i64 0])) (by simp [results, Try.results12, go_sem, *]) rfl ?_
  exact ⟨rfl, P.out⟩
set_option maxHeartbeats 3200000 in
theorem take_turn (n : Nat) (st : Int) (rn ip port : Nat) (o : Rec) (hn1 : n < 33) (g : Nat) (v V1 V2 : Vw) (w : World) (h : Vs g v w) (K1 : ∀ w, Calls Try.prog 29 #[.agg #[.int .i64 n, .int .i64 st, .int .u32 rn, .int .u32 ip, .int .u16 port]] w fun e w' => e = .returned (.bool true) ∧ Below w.heap.size w w') (KO : OfO g v n o true) (KV : ∀ w, Calls Try.prog 30 #[.agg #[.int .i64 n, .int .i64 st, .int .u32 rn, .int .u32 ip, .int .u16 port], .agg #[.int .i64 o.id, .int .i64 o.st, .int .u32 o.n, .int .u32 o.ip, .int .u16 o.port]] w fun e w' => e = .returned (.bool true) ∧ Below w.heap.size w w') (PUT : ∀ wb, Vs g v wb → Below w.heap.size w wb → VAft g V1 w ((wb.setCells g (n * 5) (rcs ⟨n, st, rn, ip, port⟩)).drew)) (NOTE : ∀ w1, Vs g V1 w1 → Calls Try.prog 31 #[.pointer (some ⟨g, 0, none⟩), .agg #[.int .i64 n, .int .i64 o.st, .int .i64 st, .int .u32 rn]] w1 (NotePost g V2 w1)) (hne : ¬ st = o.st) :
    Calls Try.prog 12 #[.pointer (some ⟨g, 0, none⟩), .agg #[.int .i64 n, .int .i64 st, .int .u32 rn, .int .u32 ip, .int .u16 port]] w (Res g V2 true w) := by
  unfold Res
  have X := Lib.hid (Cs.new w (rcs ⟨n, st, rn, ip, port⟩) 37)
  have hB : Hid (Below w.heap.size w (w.alloc (.cells #[.int .i64 n, .int .i64 st, .int .u32 rn, .int .u32 ip, .int .u16 port] 37))) := (Below.refl _ _).alloc (Nat.le_refl _) _
  have H := Lib.hid (h.keep hB.out)
  have gw := h.lt
  have hn2 : (n : Int) < 33 := by omega
  have hn0 : (0 : Int) ≤ n := by omega
  have c0 := X.out.cell 0 _ rfl
  have c1 := X.out.cell 1 _ rfl
  have c2 := X.out.cell 2 _ rfl
  have c3 := X.out.cell 3 _ rfl
  have c4 := X.out.cell 4 _ rfl
  have KO := Lib.hid KO
  clear h
  simp only at c0 c1 c2 c3 c4
  go_enter Try.func12, Try.ntmps12
  go_wp2_with fail
  refine (K1 _).mono ?_; rintro e w1 ⟨rfl, b1⟩
  replace H := Lib.hid (H.out.keep b1)
  have hb1 : Hid (Below w.heap.size w w1) := hB.out.trans (b1.mono hB.out.size)
  replace X := Lib.hid (X.out.keep b1)
  clear c0 c1 c2 c3 c4 K1 b1
  have c0 := X.out.cell 0 _ rfl
  have c1 := X.out.cell 1 _ rfl
  have c2 := X.out.cell 2 _ rfl
  have c3 := X.out.cell 3 _ rfl
  have c4 := X.out.cell 4 _ rfl
  simp only at c0 c1 c2 c3 c4
  have xl := X.out.lt
  have K := KO.out w1 H.out
  go_wp2_with fail
  refine K.mono ?_; rintro e w2 ⟨rfl, b2⟩
  have HB : Hid (Below w.heap.size w (w2.alloc (.cells #[.int .i64 o.id, .int .i64 o.st, .int .u32 o.n, .int .u32 o.ip, .int .u16 o.port] 37))) := (hb1.out.trans (b2.mono hb1.out.size)).alloc (by have := hb1.out.size; have := b2.size; omega) _
  replace H := Lib.hid ((H.out.keep b2).keep ((Below.refl _ w2).alloc (Nat.le_refl _) (.cells #[.int .i64 o.id, .int .i64 o.st, .int .u32 o.n, .int .u32 o.ip, .int .u16 o.port] 37)))
  replace X := Lib.hid ((X.out.keep b2).alloc (.cells #[.int .i64 o.id, .int .i64 o.st, .int .u32 o.n, .int .u32 o.ip, .int .u16 o.port] 37))
  have Y := Lib.hid (Cs.new w2 (rcs o) 37)
  change Hid (Cs w2.heap.size (rcs o) (w2.alloc (.cells #[.int .i64 o.id, .int .i64 o.st, .int .u32 o.n, .int .u32 o.ip, .int .u16 o.port] 37))) at Y
  clear c0 c1 c2 c3 c4 K b2 hb1 hB KO xl
  have c0 := X.out.cell 0 _ rfl
  have c1 := X.out.cell 1 _ rfl
  have c2 := X.out.cell 2 _ rfl
  have c3 := X.out.cell 3 _ rfl
  have c4 := X.out.cell 4 _ rfl
  have y0 := Y.out.cell 0 _ rfl
  have y1 := Y.out.cell 1 _ rfl
  have y2 := Y.out.cell 2 _ rfl
  have y3 := Y.out.cell 3 _ rfl
  have y4 := Y.out.cell 4 _ rfl
  simp only at c0 c1 c2 c3 c4
  have xl := X.out.lt
  have yl := Y.out.lt
  go_upto_region 6 with fail
  generalize (w2.alloc (.cells #[.int .i64 o.id, .int .i64 o.st, .int .u32 o.n, .int .u32 o.ip, .int .u16 o.port] 37)) = wb at *
  go_wp2_with fail
  refine (KV _).mono ?_; rintro e w3 ⟨rfl, b3⟩
  replace HB : Hid (Below w.heap.size w w3) := HB.out.trans (b3.mono HB.out.size)
  replace H := Lib.hid (H.out.keep b3)
  replace X := Lib.hid (X.out.keep b3)
  replace Y := Lib.hid (Y.out.keep b3)
  clear c0 c1 c2 c3 c4 y0 y1 y2 y3 y4 xl yl KV b3
  have c0 := X.out.cell 0 _ rfl
  have c1 := X.out.cell 1 _ rfl
  have c2 := X.out.cell 2 _ rfl
  have c3 := X.out.cell 3 _ rfl
  have c4 := X.out.cell 4 _ rfl
  have y1 := Y.out.cell 1 _ rfl
  simp only at c0 c1 c2 c3 c4
  have xl := X.out.lt
  have yl := Y.out.lt
  go_upto_region 9 with fail
  have P := Lib.hid (PUT w3 H.out HB.out)
  have fr := fun o => H.out.free o
  have hx : w.heap.size ≠ g := fun e => by omega
  replace X := Lib.hid (X.out.touch (Touch.drew (Touch.sets (F := fun k => k = g) (Touch.refl _ w3) g (fun _ => rfl) (rcs ⟨n, st, rn, ip, port⟩) (n * 5))) hx)
  obtain ⟨u0, z0⟩ := H.out.has (n * 5) (by omega)
  obtain ⟨u1, z1⟩ := H.out.has (n * 5 + 1) (by omega)
  obtain ⟨u2, z2⟩ := H.out.has (n * 5 + 2) (by omega)
  obtain ⟨u3, z3⟩ := H.out.has (n * 5 + 3) (by omega)
  obtain ⟨u4, z4⟩ := H.out.has (n * 5 + 4) (by omega)
  go_region
  change Hid (VAft g V1 w (((((w3.setCell ⟨g, n * 5, none⟩ (.int .i64 n)).setCell ⟨g, n * 5 + 1, none⟩ (.int .i64 st)).setCell ⟨g, n * 5 + 2, none⟩ (.int .u32 rn)).setCell ⟨g, n * 5 + 3, none⟩ (.int .u32 ip)).setCell ⟨g, n * 5 + 4, none⟩ (.int .u16 port)).drew) at P
  change Hid (Cs w.heap.size (rcs ⟨n, st, rn, ip, port⟩) (((((w3.setCell ⟨g, n * 5, none⟩ (.int .i64 n)).setCell ⟨g, n * 5 + 1, none⟩ (.int .i64 st)).setCell ⟨g, n * 5 + 2, none⟩ (.int .u32 rn)).setCell ⟨g, n * 5 + 3, none⟩ (.int .u32 ip)).setCell ⟨g, n * 5 + 4, none⟩ (.int .u16 port)).drew) at X
  clear c0 c1 c2 c3 c4 y1 z0 z1 z2 z3 z4 xl yl fr PUT
  generalize (((((w3.setCell ⟨g, n * 5, none⟩ (.int .i64 n)).setCell ⟨g, n * 5 + 1, none⟩ (.int .i64 st)).setCell ⟨g, n * 5 + 2, none⟩ (.int .u32 rn)).setCell ⟨g, n * 5 + 3, none⟩ (.int .u32 ip)).setCell ⟨g, n * 5 + 4, none⟩ (.int .u16 port)).drew = w4 at *
  have c0 := X.out.cell 0 _ rfl
  have c1 := X.out.cell 1 _ rfl
  have c2 := X.out.cell 2 _ rfl
  simp only at c0 c1 c2
  have K := NOTE w4 P.out.1
  clear NOTE
  go_wp2_with fail
  refine K.mono ?_; rintro e w5 ⟨rfl, a5⟩
  have F := Lib.hid (P.out.trans a5)
  clear K a5 c0 c1 c2
  go_wp2
  refine bodyPost_ret (v := (.tuple #[.bool true, .int .i64 0])) (by simp [results, Try.results12, go_sem, *]) rfl ?_
  exact ⟨rfl, F.out⟩
set_option maxHeartbeats 1600000 in
theorem take_any (r : Rec) (hr : r.Ok) (g : Nat) (v : Vw) (w : World) (h : Vs g v w) (hl : v.E.length < 1000000) :
    Calls Try.prog 12 #[.pointer (some ⟨g, 0, none⟩), .agg #[.int .i64 r.id, .int .i64 r.st, .int .u32 r.n, .int .u32 r.ip, .int .u16 r.port]] w (TakePost g v r w) := by
  unfold TakePost
  have K1 := right_any r.id r.st r.n r.ip r.port hr.ip hr.port
  cases hR : r.right with
  | false =>
    have X := Lib.hid (Cs.new w (rcs r) 37)
    have hB : Hid (Below w.heap.size w (w.alloc (.cells #[.int .i64 r.id, .int .i64 r.st, .int .u32 r.n, .int .u32 r.ip, .int .u16 r.port] 37))) := (Below.refl _ w).alloc (Nat.le_refl _) _
    have H := Lib.hid (h.keep hB.out)
    have gw := h.lt
    rw [turns_bad hR, err_bad hR, take_no (turns_bad hR)]
    rw [show rightI r.id r.st r.ip r.port = false from hR] at K1
    clear hR h
    obtain ⟨r1, r2, r3, r4, r5⟩ := r
    have c0 := X.out.cell 0 _ rfl
    have c1 := X.out.cell 1 _ rfl
    have c2 := X.out.cell 2 _ rfl
    have c3 := X.out.cell 3 _ rfl
    have c4 := X.out.cell 4 _ rfl
    simp only at K1
    go_enter Try.func12, Try.ntmps12
    go_wp2_with fail
    refine (K1 _).mono ?_; rintro e w1 ⟨rfl, b1⟩
    have F := Lib.hid (VAft.after hB.out (H.out.same b1))
    go_wp2
    refine bodyPost_ret (v := (.tuple #[.bool false, .int .i64 1])) (by simp [results, Try.results12, go_sem, *]) rfl ?_
    exact ⟨rfl, F.out⟩
  | true =>
    have hin := right_in hR
    have hst := right_st hR
    rw [err_ok hR]
    rw [show rightI r.id r.st r.ip r.port = true from hR] at K1
    obtain ⟨i, st, rn, ip, port⟩ := r
    simp only at K1 hin hst
    obtain ⟨n, rfl⟩ : ∃ n : Nat, i = n := ⟨i.toNat, by omega⟩
    have KO : OfO g v n (ofV v n) (knows v n) := fun w hw => of_any n g v w hw
    have PUT : turns v ⟨n, st, rn, ip, port⟩ = true → ∀ wb, Vs g v wb → Below w.heap.size w wb → VAft g ⟨upd v.k n ⟨n, st, rn, ip, port⟩, v.E⟩ w ((wb.setCells g (n * 5) (rcs ⟨n, st, rn, ip, port⟩)).drew) := fun ht wb hw hb => by
      have := take_put hw hb hr ht
      simpa using this
    cases hk : knows v n with
    | false =>
      have ht := turns_new (v := v) hR hk
      have hwas : wasV v n = -1 := was_no hk
      have hne : ¬ st = -1 := by omega
      have he : noteE v ⟨n, st, rn, ip, port⟩ = v.E ++ [⟨n, -1, st, rn⟩] := by
        rw [note_yes (by show ¬ st = wasV v n; rw [hwas]; exact hne)]
        unfold evV; simp only [hwas]
      rw [ht, take_yes ht, he]
      rw [hk] at KO
      exact take_new n st rn ip port (ofV v n) (by omega) g v ⟨upd v.k n ⟨n, st, rn, ip, port⟩, v.E⟩ _ w h K1 KO (PUT ht) (fun w1 h1 => note_any ⟨n, -1, st, rn⟩ g _ w1 h1 hl) hne
    | true =>
      have hof : ofV v n = v.k n := by rw [of_yes hk]; rfl
      have hwas : wasV v n = (v.k n).st := by rw [was_yes hk]; rfl
      have ht := turns_old (v := v) hR hk
      simp only [Int.toNat_natCast] at ht
      have KV := over_rec ⟨n, st, rn, ip, port⟩ (v.k n) hr (h.ok.ok n)
      rw [← ht] at KV
      rw [hk, hof] at KO
      cases hq : turns v ⟨n, st, rn, ip, port⟩ with
      | false =>
        rw [take_no hq]
        rw [hq] at KV
        exact take_old n st rn ip port (v.k n) (by omega) g v v v w h K1 KO KV
      | true =>
        rw [hq] at KV
        rw [take_yes hq]
        by_cases hs : st = (v.k n).st
        · rw [note_no (by show st = wasV v n; rw [hwas]; exact hs)]
          exact take_same n st rn ip port (v.k n) (by omega) g v ⟨upd v.k n ⟨n, st, rn, ip, port⟩, v.E⟩ v w h K1 KO KV (PUT hq) hs
        · have he : noteE v ⟨n, st, rn, ip, port⟩ = v.E ++ [⟨n, (v.k n).st, st, rn⟩] := by
            rw [note_yes (by show ¬ st = wasV v n; rw [hwas]; exact hs)]
            unfold evV; simp only [hwas]
          rw [he]
          exact take_turn n st rn ip port (v.k n) (by omega) g v ⟨upd v.k n ⟨n, st, rn, ip, port⟩, v.E⟩ _ w h K1 KO KV (PUT hq) (fun w1 h1 => note_any ⟨n, (v.k n).st, st, rn⟩ g _ w1 h1 hl) hs
end Go.Proofs.Ytchhbhoikkdmeaa
