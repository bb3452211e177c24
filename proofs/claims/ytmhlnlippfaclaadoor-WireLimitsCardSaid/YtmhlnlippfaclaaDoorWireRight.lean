/- The contract of a datagram's being right. -/
import Derived.Test.YtmhlnlippfaclaaDoorWireField
namespace Go.Proofs.YtmhlnlippfaclaaDoor
open Go.Sort Go.RowKit Go.BigFrame
set_option linter.unusedVariables false
set_option linter.unusedSimpArgs false

/-- the cells of a datagram's box -/
def Ms.cells (m : Ms) : Array Value := #[.int .i64 (m.k : Nat), .int .i64 m.f, .int .u32 (m.q : Nat), .int .i64 m.n, .int .u32 (m.ip : Nat), .int .u16 (m.port : Nat), .complex .f64 m.re m.im, .bool m.fl, .string m.b, .slice m.a m.rs.length m.cap]
def Ms.list (m : Ms) : List Value := [.int .i64 (m.k : Nat), .int .i64 m.f, .int .u32 (m.q : Nat), .int .i64 m.n, .int .u32 (m.ip : Nat), .int .u16 (m.port : Nat), .complex .f64 m.re m.im, .bool m.fl, .string m.b, .slice m.a m.rs.length m.cap]
theorem right_nokind (m : Ms) (h : kindB m.k = false) (w : World) : Calls Tryd.prog 10 #[.agg #[.int .i64 (m.k : Nat), .int .i64 m.f, .int .u32 (m.q : Nat), .int .i64 m.n, .int .u32 (m.ip : Nat), .int .u16 (m.port : Nat), .complex .f64 m.re m.im, .bool m.fl, .string m.b, .slice m.a m.rs.length m.cap]] w fun e w' => e = .returned (.bool false) ∧ Below w.heap.size w w' := by
  have K := isKind_any m.k
  rw [h] at K
  go_enter Tryd.func10, Tryd.ntmps10
  go_wp2
  refine wp_scope_fwd 0 rfl ?_
  go_wp2_with fail
  refine (K _).mono ?_; rintro e w1 ⟨rfl, rfl⟩
  go_wp2_with fail
  go_step3
  go_wp2
  refine ⟨rfl, ?_⟩
  go_wp2
  rw [Exit.noGoto_ret]
  refine bodyPost_ret (v := .bool false) (by simp [results, Tryd.results10, go_sem]) rfl ⟨rfl, ?_⟩
  (repeat (first | with_reducible exact Below.refl _ _ | with_reducible refine Below.drew ?_ | with_reducible refine below_drewN ?_ _ | with_reducible refine Below.alloc ?_ (by first | omega | (simp; done) | (simp; omega)) _ | with_reducible refine Below.setCell ?_ (by first | omega | (simp; done) | (simp; omega)) _))
theorem right_nonode (m : Ms) (h : kindB m.k = true) (h2 : nodeB m.f = false) (w : World) : Calls Tryd.prog 10 #[.agg #[.int .i64 (m.k : Nat), .int .i64 m.f, .int .u32 (m.q : Nat), .int .i64 m.n, .int .u32 (m.ip : Nat), .int .u16 (m.port : Nat), .complex .f64 m.re m.im, .bool m.fl, .string m.b, .slice m.a m.rs.length m.cap]] w fun e w' => e = .returned (.bool false) ∧ Below w.heap.size w w' := by
  have K := isKind_any m.k
  rw [h] at K
  have N := isNode_any m.f
  rw [h2] at N
  go_enter Tryd.func10, Tryd.ntmps10
  go_wp2
  refine wp_scope_fwd 0 rfl ?_
  go_wp2_with fail
  refine (K _).mono ?_; rintro e w1 ⟨rfl, rfl⟩
  go_wp2_with fail
  refine (N _).mono ?_; rintro e w1 ⟨rfl, rfl⟩
  go_wp2_with fail
  go_step3
  go_wp2
  refine ⟨rfl, ?_⟩
  go_wp2
  rw [Exit.noGoto_ret]
  refine bodyPost_ret (v := .bool false) (by simp [results, Tryd.results10, go_sem]) rfl ⟨rfl, ?_⟩
  (repeat (first | with_reducible exact Below.refl _ _ | with_reducible refine Below.drew ?_ | with_reducible refine below_drewN ?_ _ | with_reducible refine Below.alloc ?_ (by first | omega | (simp; done) | (simp; omega)) _ | with_reducible refine Below.setCell ?_ (by first | omega | (simp; done) | (simp; omega)) _))
def RightJ (m : Ms) (w0 : World) (i : Value) (wr : World) : Prop := ∃ j : Nat, j ≤ 6 ∧ i = .int .i64 j ∧ m.fitsUp j = true ∧ Below w0.heap.size w0 wr
theorem Cs.below {g : Nat} {vs : List Value} {w w' : World} (h : Cs g vs w) (hb : Below w.heap.size w w') : Cs g vs w' := h.keep hb
set_option maxHeartbeats 800000 in
theorem right_loop (m : Ms) (hm : m.Ok) (h : kindB m.k = true) (h2 : nodeB m.f = true) (w : World) (ha : m.At w) : Calls Tryd.prog 10 #[.agg #[.int .i64 (m.k : Nat), .int .i64 m.f, .int .u32 (m.q : Nat), .int .i64 m.n, .int .u32 (m.ip : Nat), .int .u16 (m.port : Nat), .complex .f64 m.re m.im, .bool m.fl, .string m.b, .slice m.a m.rs.length m.cap]] w fun e w' => e = .returned (.bool (m.fitsUp 6)) ∧ Below w.heap.size w w' := by
  have K := isKind_any m.k
  rw [h] at K
  have N := isNode_any m.f
  rw [h2] at N
  have F := Lib.hid (fun j hj w ha => fits_any m hm j hj w ha)
  clear hm h h2
  go_enter Tryd.func10, Tryd.ntmps10
  have X : Hid (Cs w.heap.size m.list (w.alloc (.cells #[.int .i64 (m.k : Nat), .int .i64 m.f, .int .u32 (m.q : Nat), .int .i64 m.n, .int .u32 (m.ip : Nat), .int .u16 (m.port : Nat), .complex .f64 m.re m.im, .bool m.fl, .string m.b, .slice m.a m.rs.length m.cap] 35))) := Cs.new w m.list 35
  have hB : Hid (Below w.heap.size w (w.alloc (.cells #[.int .i64 (m.k : Nat), .int .i64 m.f, .int .u32 (m.q : Nat), .int .i64 m.n, .int .u32 (m.ip : Nat), .int .u16 (m.port : Nat), .complex .f64 m.re m.im, .bool m.fl, .string m.b, .slice m.a m.rs.length m.cap] 35))) := by show Below _ _ _; (repeat (first | with_reducible exact Below.refl _ _ | with_reducible refine Below.drew ?_ | with_reducible refine below_drewN ?_ _ | with_reducible refine Below.alloc ?_ (by first | omega | (simp; done) | (simp; omega)) _ | with_reducible refine Below.setCell ?_ (by first | omega | (simp; done) | (simp; omega)) _))
  have HA : Hid (m.At (w.alloc (.cells #[.int .i64 (m.k : Nat), .int .i64 m.f, .int .u32 (m.q : Nat), .int .i64 m.n, .int .u32 (m.ip : Nat), .int .u16 (m.port : Nat), .complex .f64 m.re m.im, .bool m.fl, .string m.b, .slice m.a m.rs.length m.cap] 35))) := ha.keep hB.out
  clear ha
  go_wp2
  refine wp_scope_fwd 0 rfl ?_
  go_wp2_with fail
  refine (K _).mono ?_; rintro e w1 ⟨rfl, rfl⟩
  go_wp2_with fail
  refine (N _).mono ?_; rintro e w1 ⟨rfl, rfl⟩
  generalize (w.alloc (.cells #[.int .i64 (m.k : Nat), .int .i64 m.f, .int .u32 (m.q : Nat), .int .i64 m.n, .int .u32 (m.ip : Nat), .int .u16 (m.port : Nat), .complex .f64 m.re m.im, .bool m.fl, .string m.b, .slice m.a m.rs.length m.cap] 35)) = w0 at *
  go_wp2_with fail
  go_loopw [3, 14] (fun _ i wr => RightJ m w0 i wr) (fun _ i _ => 6 - (intOf i).toNat)
  case atStart => exact ⟨0, Nat.zero_le _, rfl, rfl, Below.refl _ _⟩
  case round =>
    obtain ⟨j, hj, rfl, hf, hb⟩ := hrel
    have X1 := Lib.hid (X.out.keep hb)
    have HA1 := Lib.hid (HA.out.keep hb)
    have hB1 : Hid (Below w.heap.size w wr) := hB.out.trans (hb.mono hB.out.size)
    clear X HA hB K N
    have x0 := X1.out.cell 0 _ rfl
    have x1 := X1.out.cell 1 _ rfl
    have x2 := X1.out.cell 2 _ rfl
    have x3 := X1.out.cell 3 _ rfl
    have x4 := X1.out.cell 4 _ rfl
    have x5 := X1.out.cell 5 _ rfl
    have x6 := X1.out.cell 6 _ rfl
    have x7 := X1.out.cell 7 _ rfl
    have x8 := X1.out.cell 8 _ rfl
    have x9 := X1.out.cell 9 _ rfl
    by_cases hlt : j < 6
    · have hlt' : (j : Int) < 6 := by omega
      have FJ := F.out j hlt wr HA1.out
      cases hfj : m.fits j
      · rw [hfj] at FJ
        have E6 : Hid (m.fitsUp 6 = false) := fitsUp_false hfj 6 hlt
        clear F hf hfj
        go_wp2_with fail
        refine FJ.mono ?_; rintro e w2 ⟨rfl, b2⟩
        go_wp2_with fail
        go_step3
        go_wp2
        refine ⟨rfl, ?_⟩
        go_wp2
        rw [Exit.noGoto_ret]
        refine bodyPost_ret (v := .bool false) (by simp [results, Tryd.results10, go_sem]) rfl ⟨by rw [E6.out], ?_⟩
        exact hB1.out.trans (b2.mono hB1.out.size)
      · rw [hfj] at FJ
        have Hj : Hid (m.fitsUp (j + 1) = true) := by show _ = _; rw [Ms.fitsUp, hf, hfj]; rfl
        clear F hf hfj
        go_wp2_with fail
        refine FJ.mono ?_; rintro e w2 ⟨rfl, b2⟩
        go_wp2
        go_roundw
        case rel => exact ⟨j + 1, by omega, by go_num, Hj.out, hb.trans (b2.mono hb.size)⟩
        case measure => simp [intOf]; omega
    · obtain rfl : j = 6 := by omega
      have hf := Lib.hid hf
      clear F HA1 X1 x0 x1 x2 x3 x4 x5 x6 x7 x8 x9
      go_wp2
      simp only [Exit.jump]
      refine bodyPost_ret (v := .bool true) (by simp [results, Tryd.results10, go_sem]) rfl ⟨by rw [hf.out], ?_⟩
      exact hB1.out
theorem right_ms (m : Ms) (hm : m.Ok) (w : World) (ha : m.At w) : Calls Tryd.prog 10 #[.agg #[.int .i64 (m.k : Nat), .int .i64 m.f, .int .u32 (m.q : Nat), .int .i64 m.n, .int .u32 (m.ip : Nat), .int .u16 (m.port : Nat), .complex .f64 m.re m.im, .bool m.fl, .string m.b, .slice m.a m.rs.length m.cap]] w fun e w' => e = .returned (.bool m.right) ∧ Below w.heap.size w w' := by
  unfold Ms.right
  cases h : kindB m.k
  · exact right_nokind m h w
  · cases h2 : nodeB m.f
    · exact right_nonode m h h2 w
    · exact right_loop m hm h h2 w ha
end Go.Proofs.YtmhlnlippfaclaaDoor
