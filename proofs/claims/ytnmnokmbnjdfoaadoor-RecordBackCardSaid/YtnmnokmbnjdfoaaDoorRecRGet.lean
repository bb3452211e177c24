/- Contracts of the reference's Get of a record. -/
import Derived.Test.YtnmnokmbnjdfoaaDoorRecGet
namespace Go.Proofs.YtnmnokmbnjdfoaaDoor
open Go.RowKit
set_option linter.unusedVariables false
set_option linter.unusedSimpArgs false

theorem rgetrec_short (s : ByteArray) (h : s.size < 12) (w : World) :
    Calls Tryd.prog 28 #[.string s] w fun e w' => e = .returned (.tuple #[.agg #[.int .i64 0, .int .i64 0, .int .u32 0, .int .u32 0, .int .u16 0], .string ⟨#[]⟩, .bool false]) ∧ Below w.heap.size w w' := by
  have z4 : (s.size : Int) < 12 := by omega
  go_enter Tryd.func28, Tryd.ntmps28
  go_wp2
  refine bodyPost_ret (v := .tuple #[.agg #[.int .i64 0, .int .i64 0, .int .u32 0, .int .u32 0, .int .u16 0], .string ⟨#[]⟩, .bool false]) (by simp [results, Tryd.results28, go_sem]) rfl ⟨rfl, ?_⟩
  have hB := Below.refl w.heap.size w
  (have zzh := Below.size hB; repeat (first | with_reducible exact hB | with_reducible refine Below.setCell ?_ (by first | omega | (simp; done) | (simp; omega)) _ | with_reducible refine Below.alloc ?_ (by first | omega | (simp; done) | (simp; omega)) _ | with_reducible refine Below.drew ?_))

set_option maxHeartbeats 1600000 in
theorem rgetrec_no (s : ByteArray) (h : 12 ≤ s.size) (hr : (recB s).right = false) (hs : s.size ≤ 9223372036854775807) (w : World) :
    Calls Tryd.prog 28 #[.string s] w fun e w' => e = .returned (.tuple #[.agg #[.int .i64 0, .int .i64 0, .int .u32 0, .int .u32 0, .int .u16 0], .string ⟨#[]⟩, .bool false]) ∧ Below w.heap.size w w' := by
  have z4 : ¬ (s.size : Int) < 12 := by omega
  have z5 : (12 : Int) ≤ s.size := by omega
  have z6 : (6 : Int) ≤ s.size := by omega
  have z7 : (0 : Int) < s.size := by omega
  have z8 : (1 : Int) < s.size := by omega
  obtain ⟨s', hI, zI⟩ := inc_rdn s h
  have l3 := (recB_ok s).n
  have q0 : 0 < s.size := by omega
  have q1 : 1 < s.size := by omega
  have b0 : s[0].toNat = (recB s).id.toNat := by rw [at_zero s q0]; simp [recB]
  have b1 : s[1].toNat = (recB s).st.toNat := by rw [at_one s q1]; simp [recB]
  have n1 : 0 ≤ (recB s).id := by simp [recB]
  have n2 : 0 ≤ (recB s).st := by simp [recB]
  have e1 : (((s[0]'q0).toNat : Nat) : Int) = (recB s).id := by omega
  have e2 : (((s[1]'q1).toNat : Nat) : Int) = (recB s).st := by omega
  have R := rright_any (recB s).id (recB s).st (recB s).n (recB s).ip (recB s).port (recB_ok s).ip (recB_ok s).port
  have hr : rightI (recB s).id (recB s).st (recB s).ip (recB s).port = false := hr
  rw [hr] at R
  have HR := Lib.hid R
  have hn : valB (dr s 2) 4 = (recB s).n := rfl
  rw [hn] at hI
  have HI := Lib.hid hI
  have hG : getI (s.extract 6 12) = some ((recB s).ip, (recB s).port) := by rw [addr_same]; exact addr_get s h
  have zA : (s.extract 6 12).size ≤ s.size := extract_le s 6 12 h
  have z2 : (s.extract 2 6).size ≤ s.size := extract_le s 2 6 (by omega)
  have l1 : (s[0]'q0).toNat < 256 := (s[0]'q0).toNat_lt
  have l2 : (s[1]'q1).toNat < 256 := (s[1]'q1).toNat_lt
  generalize recB s = r at *
  have c1 := IntWalk.i64_in r.id ⟨by omega, by omega⟩
  have c2 := IntWalk.i64_in r.st ⟨by omega, by omega⟩
  have c3 := IntWalk.u32_in (r.n : Int) ⟨by omega, by omega⟩
  have GA := Lib.hid (fun w => rget_yes hG (by omega) w)
  have N4 := Lib.hid (fun w => rnum_is HI (by omega) w)
  clear zI hr R hG zA hI l1 l2 l3 n1 n2 h b0 b1 HI z2 hs hn
  go_enter Tryd.func28, Tryd.ntmps28
  have Z0 := Lib.hid (Cs.new w (rcs zeroR) 34)
  have hB0 : Hid (Below w.heap.size w (w.alloc (.cells (rcs zeroR).toArray 34))) := by show Below _ _ _; (repeat (first | with_reducible exact Below.refl _ _ | with_reducible refine Below.drew ?_ | with_reducible refine below_drewN ?_ _ | with_reducible refine Below.alloc ?_ (by first | omega | (simp; done) | (simp; omega)) _ | with_reducible refine Below.setCell ?_ (by first | omega | (simp; done) | (simp; omega)) _))
  go_wp2_with fail
  refine (GA.out _).mono ?_; rintro e w1 ⟨rfl, d1⟩
  have Z1 := Lib.hid (Z0.out.keep d1)
  have hB1 : Hid (Below w.heap.size w w1) := hB0.out.trans (d1.mono hB0.out.size)
  have lt1 : w.heap.size < w1.heap.size := Z1.out.lt
  clear d1 Z0 hB0 GA
  have A2 := Lib.hid ((Cs.new w1 [.int .u32 r.ip, .int .u16 r.port] 32).alloc (.cells #[.string (s.extract 2 6), .bool false] 80))
  have Z2 := Lib.hid ((Z1.out.alloc (.cells #[.int .u32 r.ip, .int .u16 r.port] 32)).alloc (.cells #[.string (s.extract 2 6), .bool false] 80))
  have hB2 : Hid (Below w.heap.size w ((w1.alloc (.cells #[.int .u32 r.ip, .int .u16 r.port] 32)).alloc (.cells #[.string (s.extract 2 6), .bool false] 80))) := by have hB := hB1.out; show Below _ _ _; (have zzh := Below.size hB; repeat (first | with_reducible exact hB | with_reducible refine Below.setCell ?_ (by first | omega | (simp; done) | (simp; omega)) _ | with_reducible refine Below.alloc ?_ (by first | omega | (simp; done) | (simp; omega)) _ | with_reducible refine Below.drew ?_))
  go_wp2_with fail
  refine (N4.out _).mono ?_; rintro e w2 ⟨rfl, d2⟩
  have A3 : Cs w1.heap.size [.int .u32 r.ip, .int .u16 r.port] w2 := A2.out.keep d2
  have Z3 : Hid (Cs w.heap.size (rcs zeroR) w2) := Z2.out.keep d2
  have hB3 : Hid (Below w.heap.size w w2) := hB2.out.trans (d2.mono hB2.out.size)
  clear d2 A2 Z2 hB2 N4 Z1 hB1
  go_upto_region 6 with fail
  have Z4 := Lib.hid (Z3.out.alloc (.cells #[.string s', .bool false] 80))
  have hB4 : Hid (Below w.heap.size w (w2.alloc (.cells #[.string s', .bool false] 80))) := by have hB := hB3.out; show Below _ _ _; (have zzh := Below.size hB; repeat (first | with_reducible exact hB | with_reducible refine Below.setCell ?_ (by first | omega | (simp; done) | (simp; omega)) _ | with_reducible refine Below.alloc ?_ (by first | omega | (simp; done) | (simp; omega)) _ | with_reducible refine Below.drew ?_))
  have A4 := A3.alloc (.cells #[.string s', .bool false] 80)
  have a0 := A4.cell 0 _ rfl
  have a1 := A4.cell 1 _ rfl
  have lt3 := A4.lt
  clear A3 A4 Z3 hB3
  generalize (w2.alloc (.cells #[.string s', .bool false] 80)) = w3 at *
  go_region
  go_wp2_with fail
  refine (HR.out _).mono ?_; rintro e w4 ⟨rfl, d5⟩
  have G5 : Cs w3.heap.size (rcs r) w4 := (Cs.new w3 (rcs r) 34).drew.keep d5
  have lt30 := Z4.out.lt
  have Z5 : Cs w.heap.size (rcs zeroR) w4 := (Z4.out.alloc (.cells (rcs r).toArray 34)).drew.keep d5
  have hB5 : Hid (Below w.heap.size w w4) := by
    have hB := ((hB4.out.alloc hB4.out.size (.cells (rcs r).toArray 34))).drew
    exact hB.trans (d5.mono hB.size)
  clear Z4 hB4 a0 a1 d5 HR
  have f0 := Z5.free 0 _ rfl
  have f1 := Z5.free 1 _ rfl
  have f2 := Z5.free 2 _ rfl
  have f3 := Z5.free 3 _ rfl
  have f4 := Z5.free 4 _ rfl
  obtain ⟨k0, k1, k2, k3, k4⟩ := Rb.of Z5
  obtain ⟨g0, g1, g2, g3, g4⟩ := Rb.of G5
  clear Z5 G5
  go_wp2
  refine bodyPost_ret (v := .tuple #[.agg #[.int .i64 0, .int .i64 0, .int .u32 0, .int .u32 0, .int .u16 0], .string ⟨#[]⟩, .bool false]) (by simp [results, Tryd.results28, go_sem, k0, k1, k2, k3, k4]) rfl ⟨rfl, ?_⟩
  have hB := hB5.out
  (have zzh := Below.size hB; repeat (first | with_reducible exact hB | with_reducible refine Below.setCell ?_ (by first | omega | (simp; done) | (simp; omega)) _ | with_reducible refine Below.alloc ?_ (by first | omega | (simp; done) | (simp; omega)) _ | with_reducible refine Below.drew ?_))

set_option maxHeartbeats 1600000 in
theorem rgetrec_yes (s : ByteArray) (h : 12 ≤ s.size) (hr : (recB s).right = true) (hs : s.size ≤ 9223372036854775807) (w : World) :
    Calls Tryd.prog 28 #[.string s] w fun e w' => e = .returned (.tuple #[.agg #[.int .i64 (recB s).id, .int .i64 (recB s).st, .int .u32 (recB s).n, .int .u32 (recB s).ip, .int .u16 (recB s).port], .string (dr s 12), .bool true]) ∧ Below w.heap.size w w' := by
  have z4 : ¬ (s.size : Int) < 12 := by omega
  have z5 : (12 : Int) ≤ s.size := by omega
  have z6 : (6 : Int) ≤ s.size := by omega
  have z7 : (0 : Int) < s.size := by omega
  have z8 : (1 : Int) < s.size := by omega
  obtain ⟨s', hI, zI⟩ := inc_rdn s h
  have l3 := (recB_ok s).n
  have q0 : 0 < s.size := by omega
  have q1 : 1 < s.size := by omega
  have b0 : s[0].toNat = (recB s).id.toNat := by rw [at_zero s q0]; simp [recB]
  have b1 : s[1].toNat = (recB s).st.toNat := by rw [at_one s q1]; simp [recB]
  have n1 : 0 ≤ (recB s).id := by simp [recB]
  have n2 : 0 ≤ (recB s).st := by simp [recB]
  have e1 : (((s[0]'q0).toNat : Nat) : Int) = (recB s).id := by omega
  have e2 : (((s[1]'q1).toNat : Nat) : Int) = (recB s).st := by omega
  have R := rright_any (recB s).id (recB s).st (recB s).n (recB s).ip (recB s).port (recB_ok s).ip (recB_ok s).port
  have hr : rightI (recB s).id (recB s).st (recB s).ip (recB s).port = true := hr
  rw [hr] at R
  have HR := Lib.hid R
  have hn : valB (dr s 2) 4 = (recB s).n := rfl
  rw [hn] at hI
  have HI := Lib.hid hI
  have hG : getI (s.extract 6 12) = some ((recB s).ip, (recB s).port) := by rw [addr_same]; exact addr_get s h
  have zA : (s.extract 6 12).size ≤ s.size := extract_le s 6 12 h
  have z2 : (s.extract 2 6).size ≤ s.size := extract_le s 2 6 (by omega)
  have l1 : (s[0]'q0).toNat < 256 := (s[0]'q0).toNat_lt
  have l2 : (s[1]'q1).toNat < 256 := (s[1]'q1).toNat_lt
  generalize recB s = r at *
  have c1 := IntWalk.i64_in r.id ⟨by omega, by omega⟩
  have c2 := IntWalk.i64_in r.st ⟨by omega, by omega⟩
  have c3 := IntWalk.u32_in (r.n : Int) ⟨by omega, by omega⟩
  have GA := Lib.hid (fun w => rget_yes hG (by omega) w)
  have N4 := Lib.hid (fun w => rnum_is HI (by omega) w)
  clear zI hr R hG zA hI l1 l2 l3 n1 n2 h b0 b1 HI z2 hs hn
  go_enter Tryd.func28, Tryd.ntmps28
  have Z0 := Lib.hid (Cs.new w (rcs zeroR) 34)
  have hB0 : Hid (Below w.heap.size w (w.alloc (.cells (rcs zeroR).toArray 34))) := by show Below _ _ _; (repeat (first | with_reducible exact Below.refl _ _ | with_reducible refine Below.drew ?_ | with_reducible refine below_drewN ?_ _ | with_reducible refine Below.alloc ?_ (by first | omega | (simp; done) | (simp; omega)) _ | with_reducible refine Below.setCell ?_ (by first | omega | (simp; done) | (simp; omega)) _))
  go_wp2_with fail
  refine (GA.out _).mono ?_; rintro e w1 ⟨rfl, d1⟩
  have Z1 := Lib.hid (Z0.out.keep d1)
  have hB1 : Hid (Below w.heap.size w w1) := hB0.out.trans (d1.mono hB0.out.size)
  have lt1 : w.heap.size < w1.heap.size := Z1.out.lt
  clear d1 Z0 hB0 GA
  have A2 := Lib.hid ((Cs.new w1 [.int .u32 r.ip, .int .u16 r.port] 32).alloc (.cells #[.string (s.extract 2 6), .bool false] 80))
  have Z2 := Lib.hid ((Z1.out.alloc (.cells #[.int .u32 r.ip, .int .u16 r.port] 32)).alloc (.cells #[.string (s.extract 2 6), .bool false] 80))
  have hB2 : Hid (Below w.heap.size w ((w1.alloc (.cells #[.int .u32 r.ip, .int .u16 r.port] 32)).alloc (.cells #[.string (s.extract 2 6), .bool false] 80))) := by have hB := hB1.out; show Below _ _ _; (have zzh := Below.size hB; repeat (first | with_reducible exact hB | with_reducible refine Below.setCell ?_ (by first | omega | (simp; done) | (simp; omega)) _ | with_reducible refine Below.alloc ?_ (by first | omega | (simp; done) | (simp; omega)) _ | with_reducible refine Below.drew ?_))
  go_wp2_with fail
  refine (N4.out _).mono ?_; rintro e w2 ⟨rfl, d2⟩
  have A3 : Cs w1.heap.size [.int .u32 r.ip, .int .u16 r.port] w2 := A2.out.keep d2
  have Z3 : Hid (Cs w.heap.size (rcs zeroR) w2) := Z2.out.keep d2
  have hB3 : Hid (Below w.heap.size w w2) := hB2.out.trans (d2.mono hB2.out.size)
  clear d2 A2 Z2 hB2 N4 Z1 hB1
  go_upto_region 6 with fail
  have Z4 := Lib.hid (Z3.out.alloc (.cells #[.string s', .bool false] 80))
  have hB4 : Hid (Below w.heap.size w (w2.alloc (.cells #[.string s', .bool false] 80))) := by have hB := hB3.out; show Below _ _ _; (have zzh := Below.size hB; repeat (first | with_reducible exact hB | with_reducible refine Below.setCell ?_ (by first | omega | (simp; done) | (simp; omega)) _ | with_reducible refine Below.alloc ?_ (by first | omega | (simp; done) | (simp; omega)) _ | with_reducible refine Below.drew ?_))
  have A4 := A3.alloc (.cells #[.string s', .bool false] 80)
  have a0 := A4.cell 0 _ rfl
  have a1 := A4.cell 1 _ rfl
  have lt3 := A4.lt
  clear A3 A4 Z3 hB3
  generalize (w2.alloc (.cells #[.string s', .bool false] 80)) = w3 at *
  go_region
  go_wp2_with fail
  refine (HR.out _).mono ?_; rintro e w4 ⟨rfl, d5⟩
  have G5 : Cs w3.heap.size (rcs r) w4 := (Cs.new w3 (rcs r) 34).drew.keep d5
  have lt30 := Z4.out.lt
  have Z5 : Cs w.heap.size (rcs zeroR) w4 := (Z4.out.alloc (.cells (rcs r).toArray 34)).drew.keep d5
  have hB5 : Hid (Below w.heap.size w w4) := by
    have hB := ((hB4.out.alloc hB4.out.size (.cells (rcs r).toArray 34))).drew
    exact hB.trans (d5.mono hB.size)
  clear Z4 hB4 a0 a1 d5 HR
  have f0 := Z5.free 0 _ rfl
  have f1 := Z5.free 1 _ rfl
  have f2 := Z5.free 2 _ rfl
  have f3 := Z5.free 3 _ rfl
  have f4 := Z5.free 4 _ rfl
  obtain ⟨k0, k1, k2, k3, k4⟩ := Rb.of Z5
  obtain ⟨g0, g1, g2, g3, g4⟩ := Rb.of G5
  clear Z5 G5
  have n13 : w.heap.size ≠ w3.heap.size := by omega
  go_upto_region 10 with fail
  go_region
  all_goals go_wp2
  all_goals (refine bodyPost_ret (v := .tuple #[.agg #[.int .i64 r.id, .int .i64 r.st, .int .u32 r.n, .int .u32 r.ip, .int .u16 r.port], .string (s.extract 12 s.size), .bool true]) (by simp [results, Tryd.results28, go_sem, k0, k1, k2, k3, k4]) rfl ⟨?_, ?_⟩)
  all_goals first | rfl | (have hB := hB5.out; (have zzh := Below.size hB; repeat (first | with_reducible exact hB | with_reducible refine Below.setCell ?_ (by first | omega | (simp; done) | (simp; omega)) _ | with_reducible refine Below.alloc ?_ (by first | omega | (simp; done) | (simp; omega)) _ | with_reducible refine Below.drew ?_)))
end Go.Proofs.YtnmnokmbnjdfoaaDoor
