/- Contracts of the program's record.Get. -/
import Derived.Test.YtnmnokmbnjdfoaaDoorRecGetMath
import Derived.BigRegion
namespace Go.Proofs.YtnmnokmbnjdfoaaDoor
open Go.RowKit
set_option linter.unusedVariables false
set_option linter.unusedSimpArgs false

theorem getA_at {A B : ByteArray} {ip port : Nat} (h : Hid (getI A = some (ip, port))) (hs : A.size = 6) (hB : Hid (B = A)) (w : World) :
    Calls Tryd.prog 43 #[.string B] w fun e w' => e = .returned (.tuple #[.agg #[.int .u32 ip, .int .u16 port], .bool true]) ∧ Below w.heap.size w w' := by
  rw [hB.out]
  exact get_yes h.out (by omega) w
def zeroR : Rec := ⟨0, 0, 0, 0, 0⟩

set_option maxHeartbeats 1600000 in
theorem getrec_short (s : ByteArray) (h : s.size < 12) (w : World) :
    Calls Tryd.prog 27 #[.string s] w fun e w' => e = .returned (.tuple #[.agg #[.int .i64 0, .int .i64 0, .int .u32 0, .int .u32 0, .int .u16 0], .string ⟨#[]⟩, .bool false]) ∧ Below w.heap.size w w' := by
  obtain ⟨v1, s1, b1, v2, s2, b2, v3, s3, b3, h1, h2, h3, z1, z2, z3, l1, l2, l3⟩ := short_facts s h
  have c1 := IntWalk.i64_in (v1 : Int) ⟨by omega, by omega⟩
  have c2 := IntWalk.i64_in (v2 : Int) ⟨by omega, by omega⟩
  have c3 := IntWalk.u32_in (v3 : Int) ⟨by omega, by omega⟩
  have z4 : (s3.size : Int) < 6 := by omega
  go_enter Tryd.func27, Tryd.ntmps27
  have Z0 := Cs.new w (rcs zeroR) 27
  have hB0 : Hid (Below w.heap.size w (w.alloc (.cells (rcs zeroR).toArray 27))) := by show Below _ _ _; (repeat (first | with_reducible exact Below.refl _ _ | with_reducible refine Below.drew ?_ | with_reducible refine below_drewN ?_ _ | with_reducible refine Below.alloc ?_ (by first | omega | (simp; done) | (simp; omega)) _ | with_reducible refine Below.setCell ?_ (by first | omega | (simp; done) | (simp; omega)) _))
  go_wp2
  refine wp_scope_fwd 0 rfl ?_
  go_wp2_with fail
  refine (read_any _ _).mono ?_; rintro e w1 ⟨rfl, d1⟩
  have Z1 := Lib.hid (Z0.keep d1)
  have hB1 : Hid (Below w.heap.size w w1) := hB0.out.trans (d1.mono hB0.out.size)
  clear d1 Z0 hB0
  go_wp2_with fail
  refine (num_is h1 (by omega) _).mono ?_; rintro e w2 ⟨rfl, d2⟩
  have Z2 := Lib.hid (Z1.out.keep d2)
  have hB2 : Hid (Below w.heap.size w w2) := hB1.out.trans (d2.mono hB1.out.size)
  clear d2 Z1 hB1
  go_wp2_with fail
  refine (num_is h2 (by omega) _).mono ?_; rintro e w3 ⟨rfl, d3⟩
  have Z3 := Lib.hid ((Z2.out.alloc _).keep d3)
  have hB3 : Hid (Below w.heap.size w w3) := (hB2.out.alloc hB2.out.size _).trans (d3.mono (hB2.out.alloc hB2.out.size _).size)
  clear d3 Z2 hB2
  go_wp2_with fail
  refine (num_is h3 (by omega) _).mono ?_; rintro e w4 ⟨rfl, d4⟩
  have Z4 := (Z3.out.alloc _).keep d4
  have hB4 : Hid (Below w.heap.size w w4) := (hB3.out.alloc hB3.out.size _).trans (d4.mono (hB3.out.alloc hB3.out.size _).size)
  clear d4 Z3 hB3
  have f0 := Z4.free 0 _ rfl
  have f1 := Z4.free 1 _ rfl
  have f2 := Z4.free 2 _ rfl
  have f3 := Z4.free 3 _ rfl
  have f4 := Z4.free 4 _ rfl
  obtain ⟨k0, k1, k2, k3, k4⟩ := Rb.of Z4
  have lt4 := Z4.lt
  clear Z4
  go_wp2_with fail
  go_step3
  go_wp2
  refine ⟨rfl, ?_⟩
  go_wp2
  rw [Exit.noGoto_ret]
  refine bodyPost_ret (v := .tuple #[.agg #[.int .i64 0, .int .i64 0, .int .u32 0, .int .u32 0, .int .u16 0], .string ⟨#[]⟩, .bool false]) (by simp [results, Tryd.results27, go_sem, *]) rfl ⟨rfl, ?_⟩
  have hB := hB4.out
  (have zzh := Below.size hB; repeat (first | with_reducible exact hB | with_reducible refine Below.setCell ?_ (by first | omega | (simp; done) | (simp; omega)) _ | with_reducible refine Below.alloc ?_ (by first | omega | (simp; done) | (simp; omega)) _ | with_reducible refine Below.drew ?_))

def recL (a : Rec) : List Value := [.int .i64 a.id, .int .i64 a.st, .int .u32 a.n, .int .u32 0, .int .u16 0]
set_option maxHeartbeats 1600000 in
theorem getrec_no (s : ByteArray) (h : 12 ≤ s.size) (hr : (recB s).right = false) (hs : s.size ≤ 9223372036854775807) (w : World) :
    Calls Tryd.prog 27 #[.string s] w fun e w' => e = .returned (.tuple #[.agg #[.int .i64 0, .int .i64 0, .int .u32 0, .int .u32 0, .int .u16 0], .string ⟨#[]⟩, .bool false]) ∧ Below w.heap.size w w' := by
  obtain ⟨s1, s2, s3, A, h1, h2, h3, z1, z2, z3, hA, zA, hG, hR, l1, l2, n1, n2⟩ := long_facts s h
  have z4 : ¬ (s3.size : Int) < 6 := by omega
  have z5 : (6 : Int) ≤ s3.size := by omega
  have z6 : s3.size ≤ s.size := by omega
  have l3 := (recB_ok s).n
  have R := right_any (recB s).id (recB s).st (recB s).n (recB s).ip (recB s).port (recB_ok s).ip (recB_ok s).port
  have hr : rightI (recB s).id (recB s).st (recB s).ip (recB s).port = false := hr
  rw [hr] at R
  have HR := Lib.hid R
  generalize recB s = r at *
  have e1 : ((r.id.toNat : Nat) : Int) = r.id := by omega
  have e2 : ((r.st.toNat : Nat) : Int) = r.st := by omega
  have c1 := IntWalk.i64_in r.id ⟨by omega, by omega⟩
  have c2 := IntWalk.i64_in r.st ⟨by omega, by omega⟩
  have c3 := IntWalk.u32_in (r.n : Int) ⟨by omega, by omega⟩
  have GA := Lib.hid (fun w => getA_at hG zA hA w)
  have N1 := Lib.hid (fun w => num_is h1 hs w)
  have N2 := Lib.hid (fun w => num_is h2 (by omega) w)
  have N3 := Lib.hid (fun w => num_is h3 (by omega) w)
  rw [e1] at N1
  rw [e2] at N2
  clear z1 z2 z3 hr R hG hA zA h1 h2 h3 e1 e2 l1 l2 l3 n1 n2 h
  go_enter Tryd.func27, Tryd.ntmps27
  have Z0 := Cs.new w (rcs zeroR) 27
  have hB0 : Hid (Below w.heap.size w (w.alloc (.cells (rcs zeroR).toArray 27))) := by show Below _ _ _; (repeat (first | with_reducible exact Below.refl _ _ | with_reducible refine Below.drew ?_ | with_reducible refine below_drewN ?_ _ | with_reducible refine Below.alloc ?_ (by first | omega | (simp; done) | (simp; omega)) _ | with_reducible refine Below.setCell ?_ (by first | omega | (simp; done) | (simp; omega)) _))
  go_wp2
  refine wp_scope_fwd 0 rfl ?_
  go_wp2_with fail
  refine (read_any _ _).mono ?_; rintro e w1 ⟨rfl, d1⟩
  have Z1 := Lib.hid (Z0.keep d1)
  have hB1 : Hid (Below w.heap.size w w1) := hB0.out.trans (d1.mono hB0.out.size)
  clear d1 Z0 hB0
  go_wp2_with fail
  refine (N1.out _).mono ?_; rintro e w2 ⟨rfl, d2⟩
  have Z2 := Lib.hid (Z1.out.keep d2)
  have hB2 : Hid (Below w.heap.size w w2) := hB1.out.trans (d2.mono hB1.out.size)
  clear d2 Z1 hB1
  go_wp2_with fail
  refine (N2.out _).mono ?_; rintro e w3 ⟨rfl, d3⟩
  have Z3 := Lib.hid ((Z2.out.alloc _).keep d3)
  have hB3 : Hid (Below w.heap.size w w3) := (hB2.out.alloc hB2.out.size _).trans (d3.mono (hB2.out.alloc hB2.out.size _).size)
  clear d3 Z2 hB2
  go_wp2_with fail
  refine (N3.out _).mono ?_; rintro e w4 ⟨rfl, d4⟩
  have Z4 := Lib.hid ((Z3.out.alloc _).keep d4)
  have hB4 : Hid (Below w.heap.size w w4) := (hB3.out.alloc hB3.out.size _).trans (d4.mono (hB3.out.alloc hB3.out.size _).size)
  have lt4 : w.heap.size < w4.heap.size := Z4.out.lt
  clear d4 Z3 hB3 N1 N2 N3
  have L4 := Lib.hid ((Cs.new w4 [.string s3, .bool false] 72).alloc (.cells (recL r).toArray 27))
  have G4 : Hid (Cs (w4.heap.size + 1) (recL r) ((w4.alloc (.cells #[.string s3, .bool false] 72)).alloc (.cells (recL r).toArray 27))) := by
    have := Cs.new (w4.alloc (.cells #[.string s3, .bool false] 72)) (recL r) 27
    simp only [World.size_alloc] at this
    exact this
  have Z5 := Lib.hid ((Z4.out.alloc (.cells #[.string s3, .bool false] 72)).alloc (.cells (recL r).toArray 27))
  have hB5 : Hid (Below w.heap.size w ((w4.alloc (.cells #[.string s3, .bool false] 72)).alloc (.cells (recL r).toArray 27))) := by have hB := hB4.out; show Below _ _ _; (have zzh := Below.size hB; repeat (first | with_reducible exact hB | with_reducible refine Below.setCell ?_ (by first | omega | (simp; done) | (simp; omega)) _ | with_reducible refine Below.alloc ?_ (by first | omega | (simp; done) | (simp; omega)) _ | with_reducible refine Below.drew ?_))
  go_wp2_with fail
  refine (GA.out _).mono ?_; rintro e w5 ⟨rfl, d5⟩
  have L6 : Hid (Cs w4.heap.size [.string s3, .bool false] w5) := L4.out.keep d5
  have G6 : Cs (w4.heap.size + 1) (recL r) w5 := G4.out.keep d5
  have Z6 : Hid (Cs w.heap.size (rcs zeroR) w5) := Z5.out.keep d5
  have hB6 : Hid (Below w.heap.size w w5) := hB5.out.trans (d5.mono hB5.out.size)
  clear d5 L4 G4 Z5 hB5 hB4 Z4 GA
  have HG6 := Lib.hid G6
  have f3 := G6.free 3 _ rfl
  have f4 := G6.free 4 _ rfl
  have g0 := G6.cell 0 _ rfl
  have g1 := G6.cell 1 _ rfl
  have g2 := G6.cell 2 _ rfl
  have g3 := G6.cell 3 _ rfl
  have g4 := G6.cell 4 _ rfl
  clear G6
  go_wp2_with fail
  refine (HR.out _).mono ?_; rintro e w6 ⟨rfl, d6⟩
  have G7 : Cs (w4.heap.size + 1) (rcs r) w6 := ((HG6.out.set 3 (.int .u32 r.ip) (by simp [recL])).set 4 (.int .u16 r.port) (by simp [recL])).keep d6
  have L7 : Cs w4.heap.size [.string s3, .bool false] w6 := ((L6.out.far ⟨w4.heap.size + 1, 3, none⟩ (.int .u32 r.ip) (by simp)).far ⟨w4.heap.size + 1, 4, none⟩ (.int .u16 r.port) (by simp)).keep d6
  have n41 : w4.heap.size + 1 ≠ w.heap.size := by omega
  have n40 : w4.heap.size ≠ w.heap.size := by omega
  have Z7 : Cs w.heap.size (rcs zeroR) w6 := ((Z6.out.far ⟨w4.heap.size + 1, 3, none⟩ (.int .u32 r.ip) n41).far ⟨w4.heap.size + 1, 4, none⟩ (.int .u16 r.port) n41).keep d6
  have hB7 : Hid (Below w.heap.size w w6) := by
    have b0 := hB6.out
    have b1 := (b0.setCell (p := ⟨w4.heap.size + 1, 3, none⟩) (show w.heap.size ≤ w4.heap.size + 1 by omega) (.int .u32 r.ip)).setCell (p := ⟨w4.heap.size + 1, 4, none⟩) (show w.heap.size ≤ w4.heap.size + 1 by omega) (.int .u16 r.port)
    exact b1.trans (d6.mono b1.size)
  clear f3 f4 g0 g1 g2 g3 g4 d6 HG6 L6 Z6 hB6 HR
  have f0 := Z7.free 0 _ rfl
  have f1 := Z7.free 1 _ rfl
  have f2 := Z7.free 2 _ rfl
  have f3 := Z7.free 3 _ rfl
  have f4 := Z7.free 4 _ rfl
  obtain ⟨k0, k1, k2, k3, k4⟩ := Rb.of Z7
  clear Z7 G7 L7
  go_wp2_with fail
  go_step3
  go_wp2
  refine ⟨rfl, ?_⟩
  go_wp2
  rw [Exit.noGoto_ret]
  refine bodyPost_ret (v := .tuple #[.agg #[.int .i64 0, .int .i64 0, .int .u32 0, .int .u32 0, .int .u16 0], .string ⟨#[]⟩, .bool false]) (by simp [results, Tryd.results27, go_sem, k0, k1, k2, k3, k4]) rfl ⟨rfl, ?_⟩
  have hB := hB7.out
  (have zzh := Below.size hB; repeat (first | with_reducible exact hB | with_reducible refine Below.setCell ?_ (by first | omega | (simp; done) | (simp; omega)) _ | with_reducible refine Below.alloc ?_ (by first | omega | (simp; done) | (simp; omega)) _ | with_reducible refine Below.drew ?_))

set_option maxHeartbeats 1600000 in
theorem getrec_yes (s : ByteArray) (h : 12 ≤ s.size) (hr : (recB s).right = true) (hs : s.size ≤ 9223372036854775807) (w : World) :
    Calls Tryd.prog 27 #[.string s] w fun e w' => e = .returned (.tuple #[.agg #[.int .i64 (recB s).id, .int .i64 (recB s).st, .int .u32 (recB s).n, .int .u32 (recB s).ip, .int .u16 (recB s).port], .string (dr s 12), .bool true]) ∧ Below w.heap.size w w' := by
  obtain ⟨s1, s2, s3, A, h1, h2, h3, z1, z2, z3, hA, zA, hG, hR, l1, l2, n1, n2⟩ := long_facts s h
  have z4 : ¬ (s3.size : Int) < 6 := by omega
  have z5 : (6 : Int) ≤ s3.size := by omega
  have z6 : s3.size ≤ s.size := by omega
  have l3 := (recB_ok s).n
  have R := right_any (recB s).id (recB s).st (recB s).n (recB s).ip (recB s).port (recB_ok s).ip (recB_ok s).port
  have hr : rightI (recB s).id (recB s).st (recB s).ip (recB s).port = true := hr
  rw [hr] at R
  have HR := Lib.hid R
  generalize recB s = r at *
  have e1 : ((r.id.toNat : Nat) : Int) = r.id := by omega
  have e2 : ((r.st.toNat : Nat) : Int) = r.st := by omega
  have c1 := IntWalk.i64_in r.id ⟨by omega, by omega⟩
  have c2 := IntWalk.i64_in r.st ⟨by omega, by omega⟩
  have c3 := IntWalk.u32_in (r.n : Int) ⟨by omega, by omega⟩
  have GA := Lib.hid (fun w => getA_at hG zA hA w)
  have N1 := Lib.hid (fun w => num_is h1 hs w)
  have N2 := Lib.hid (fun w => num_is h2 (by omega) w)
  have N3 := Lib.hid (fun w => num_is h3 (by omega) w)
  rw [e1] at N1
  rw [e2] at N2
  clear z1 z2 z3 hr R hG hA zA h1 h2 h3 e1 e2 l1 l2 l3 n1 n2 h
  go_enter Tryd.func27, Tryd.ntmps27
  have Z0 := Cs.new w (rcs zeroR) 27
  have hB0 : Hid (Below w.heap.size w (w.alloc (.cells (rcs zeroR).toArray 27))) := by show Below _ _ _; (repeat (first | with_reducible exact Below.refl _ _ | with_reducible refine Below.drew ?_ | with_reducible refine below_drewN ?_ _ | with_reducible refine Below.alloc ?_ (by first | omega | (simp; done) | (simp; omega)) _ | with_reducible refine Below.setCell ?_ (by first | omega | (simp; done) | (simp; omega)) _))
  go_wp2
  refine wp_scope_fwd 0 rfl ?_
  go_wp2_with fail
  refine (read_any _ _).mono ?_; rintro e w1 ⟨rfl, d1⟩
  have Z1 := Lib.hid (Z0.keep d1)
  have hB1 : Hid (Below w.heap.size w w1) := hB0.out.trans (d1.mono hB0.out.size)
  clear d1 Z0 hB0
  go_wp2_with fail
  refine (N1.out _).mono ?_; rintro e w2 ⟨rfl, d2⟩
  have Z2 := Lib.hid (Z1.out.keep d2)
  have hB2 : Hid (Below w.heap.size w w2) := hB1.out.trans (d2.mono hB1.out.size)
  clear d2 Z1 hB1
  go_wp2_with fail
  refine (N2.out _).mono ?_; rintro e w3 ⟨rfl, d3⟩
  have Z3 := Lib.hid ((Z2.out.alloc _).keep d3)
  have hB3 : Hid (Below w.heap.size w w3) := (hB2.out.alloc hB2.out.size _).trans (d3.mono (hB2.out.alloc hB2.out.size _).size)
  clear d3 Z2 hB2
  go_wp2_with fail
  refine (N3.out _).mono ?_; rintro e w4 ⟨rfl, d4⟩
  have Z4 := Lib.hid ((Z3.out.alloc _).keep d4)
  have hB4 : Hid (Below w.heap.size w w4) := (hB3.out.alloc hB3.out.size _).trans (d4.mono (hB3.out.alloc hB3.out.size _).size)
  have lt4 : w.heap.size < w4.heap.size := Z4.out.lt
  clear d4 Z3 hB3 N1 N2 N3
  have L4 := Lib.hid ((Cs.new w4 [.string s3, .bool false] 72).alloc (.cells (recL r).toArray 27))
  have G4 : Hid (Cs (w4.heap.size + 1) (recL r) ((w4.alloc (.cells #[.string s3, .bool false] 72)).alloc (.cells (recL r).toArray 27))) := by
    have := Cs.new (w4.alloc (.cells #[.string s3, .bool false] 72)) (recL r) 27
    simp only [World.size_alloc] at this
    exact this
  have Z5 := Lib.hid ((Z4.out.alloc (.cells #[.string s3, .bool false] 72)).alloc (.cells (recL r).toArray 27))
  have hB5 : Hid (Below w.heap.size w ((w4.alloc (.cells #[.string s3, .bool false] 72)).alloc (.cells (recL r).toArray 27))) := by have hB := hB4.out; show Below _ _ _; (have zzh := Below.size hB; repeat (first | with_reducible exact hB | with_reducible refine Below.setCell ?_ (by first | omega | (simp; done) | (simp; omega)) _ | with_reducible refine Below.alloc ?_ (by first | omega | (simp; done) | (simp; omega)) _ | with_reducible refine Below.drew ?_))
  go_wp2_with fail
  refine (GA.out _).mono ?_; rintro e w5 ⟨rfl, d5⟩
  have L6 : Hid (Cs w4.heap.size [.string s3, .bool false] w5) := L4.out.keep d5
  have G6 : Cs (w4.heap.size + 1) (recL r) w5 := G4.out.keep d5
  have Z6 : Hid (Cs w.heap.size (rcs zeroR) w5) := Z5.out.keep d5
  have hB6 : Hid (Below w.heap.size w w5) := hB5.out.trans (d5.mono hB5.out.size)
  clear d5 L4 G4 Z5 hB5 hB4 Z4 GA
  have HG6 := Lib.hid G6
  have f3 := G6.free 3 _ rfl
  have f4 := G6.free 4 _ rfl
  have g0 := G6.cell 0 _ rfl
  have g1 := G6.cell 1 _ rfl
  have g2 := G6.cell 2 _ rfl
  have g3 := G6.cell 3 _ rfl
  have g4 := G6.cell 4 _ rfl
  clear G6
  go_wp2_with fail
  refine (HR.out _).mono ?_; rintro e w6 ⟨rfl, d6⟩
  have G7 : Cs (w4.heap.size + 1) (rcs r) w6 := ((HG6.out.set 3 (.int .u32 r.ip) (by simp [recL])).set 4 (.int .u16 r.port) (by simp [recL])).keep d6
  have L7 : Cs w4.heap.size [.string s3, .bool false] w6 := ((L6.out.far ⟨w4.heap.size + 1, 3, none⟩ (.int .u32 r.ip) (by simp)).far ⟨w4.heap.size + 1, 4, none⟩ (.int .u16 r.port) (by simp)).keep d6
  have n41 : w4.heap.size + 1 ≠ w.heap.size := by omega
  have n40 : w4.heap.size ≠ w.heap.size := by omega
  have Z7 : Cs w.heap.size (rcs zeroR) w6 := ((Z6.out.far ⟨w4.heap.size + 1, 3, none⟩ (.int .u32 r.ip) n41).far ⟨w4.heap.size + 1, 4, none⟩ (.int .u16 r.port) n41).keep d6
  have hB7 : Hid (Below w.heap.size w w6) := by
    have b0 := hB6.out
    have b1 := (b0.setCell (p := ⟨w4.heap.size + 1, 3, none⟩) (show w.heap.size ≤ w4.heap.size + 1 by omega) (.int .u32 r.ip)).setCell (p := ⟨w4.heap.size + 1, 4, none⟩) (show w.heap.size ≤ w4.heap.size + 1 by omega) (.int .u16 r.port)
    exact b1.trans (d6.mono b1.size)
  clear f3 f4 g0 g1 g2 g3 g4 d6 HG6 L6 Z6 hB6 HR
  have f0 := Z7.free 0 _ rfl
  have f1 := Z7.free 1 _ rfl
  have f2 := Z7.free 2 _ rfl
  have f3 := Z7.free 3 _ rfl
  have f4 := Z7.free 4 _ rfl
  obtain ⟨k0, k1, k2, k3, k4⟩ := Rb.of Z7
  obtain ⟨g0, g1, g2, g3, g4⟩ := Rb.of G7
  have q0 := L7.cell 0 _ rfl
  clear Z7 G7 L7
  have n42 : w.heap.size ≠ w4.heap.size + 1 := by omega
  have n43 : w.heap.size ≠ w4.heap.size := by omega
  go_upto_region 8 with fail
  go_region
  all_goals go_wp2
  all_goals simp only [Exit.jump]
  all_goals (refine bodyPost_ret (v := .tuple #[.agg #[.int .i64 r.id, .int .i64 r.st, .int .u32 r.n, .int .u32 r.ip, .int .u16 r.port], .string (s3.extract 6 s3.size), .bool true]) (by simp [results, Tryd.results27, go_sem, k0, k1, k2, k3, k4]) rfl ⟨?_, ?_⟩)
  all_goals first | (rw [hR.out]; done) | rfl | (have hB := hB7.out; (have zzh := Below.size hB; repeat (first | with_reducible exact hB | with_reducible refine Below.setCell ?_ (by first | omega | (simp; done) | (simp; omega)) _ | with_reducible refine Below.alloc ?_ (by first | omega | (simp; done) | (simp; omega)) _ | with_reducible refine Below.drew ?_)))
end Go.Proofs.YtnmnokmbnjdfoaaDoor
