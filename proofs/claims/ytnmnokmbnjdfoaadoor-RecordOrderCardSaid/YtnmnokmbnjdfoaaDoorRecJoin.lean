/- Contracts of a record's Over, Join, both programs. -/
import Derived.Test.YtnmnokmbnjdfoaaDoorRecOrder
namespace Go.Proofs.YtnmnokmbnjdfoaaDoor
open Go.RowKit
set_option linter.unusedVariables false
set_option linter.unusedSimpArgs false

def overR (a b : Rec) : Bool := decide (ordR a b > 0)
theorem over_rec (a b : Rec) (ha : a.Ok) (hb : b.Ok) (w : World) :
    Calls Tryd.prog 18 #[.agg #[.int .i64 a.id, .int .i64 a.st, .int .u32 a.n, .int .u32 a.ip, .int .u16 a.port], .agg #[.int .i64 b.id, .int .i64 b.st, .int .u32 b.n, .int .u32 b.ip, .int .u16 b.port]] w fun e w' => e = .returned (.bool (overR a b)) ∧ Below w.heap.size w w' := by
  have O := Lib.hid (order_rec a b ha hb)
  have H : Hid (overR a b = decide (ordR a b > 0)) := rfl
  clear ha hb
  generalize ordR a b = o at *
  generalize overR a b = v at *
  go_enter Tryd.func18, Tryd.ntmps18
  go_wp2_with fail
  refine (O.out _).mono ?_; rintro e w1 ⟨rfl, b1⟩
  go_wp2
  go_ret
  exact ⟨bool_ret (by rw [H.out]), by (have zz0 := Below.size b1; (try simp at zz0); repeat (first | with_reducible exact Below.refl _ _ | with_reducible refine Below.drew ?_ | with_reducible refine below_drewN ?_ _ | with_reducible refine Below.alloc ?_ (by first | omega | (simp; done) | (simp; omega)) _ | with_reducible refine Below.setCell ?_ (by first | omega | (simp; done) | (simp; omega)) _ | (with_reducible refine Below.trans ?_ (Below.mono b1 (by first | omega | (simp; done) | (simp; omega))))))⟩
theorem rover_rec (a b : Rec) (ha : a.Ok) (hb : b.Ok) (w : World) :
    Calls Tryd.prog 19 #[.agg #[.int .i64 a.id, .int .i64 a.st, .int .u32 a.n, .int .u32 a.ip, .int .u16 a.port], .agg #[.int .i64 b.id, .int .i64 b.st, .int .u32 b.n, .int .u32 b.ip, .int .u16 b.port]] w fun e w' => e = .returned (.bool (overR a b)) ∧ Below w.heap.size w w' := by
  have O := Lib.hid (rorder_rec a b ha hb)
  have H : Hid (overR a b = decide (ordR a b > 0)) := rfl
  clear ha hb
  generalize ordR a b = o at *
  generalize overR a b = v at *
  go_enter Tryd.func19, Tryd.ntmps19
  go_wp2_with fail
  refine (O.out _).mono ?_; rintro e w1 ⟨rfl, b1⟩
  go_wp2
  go_ret
  exact ⟨bool_ret (by rw [H.out]), by (have zz0 := Below.size b1; (try simp at zz0); repeat (first | with_reducible exact Below.refl _ _ | with_reducible refine Below.drew ?_ | with_reducible refine below_drewN ?_ _ | with_reducible refine Below.alloc ?_ (by first | omega | (simp; done) | (simp; omega)) _ | with_reducible refine Below.setCell ?_ (by first | omega | (simp; done) | (simp; omega)) _ | (with_reducible refine Below.trans ?_ (Below.mono b1 (by first | omega | (simp; done) | (simp; omega))))))⟩
theorem joinR_over (a b : Rec) : joinR a b = if overR a b = true then a else b := by unfold joinR overR; simp
theorem boxes3 (w : World) (a b c : List Value) (T : TypeId) : Cs w.heap.size a (((w.alloc (.cells a.toArray T)).alloc (.cells b.toArray T)).alloc (.cells c.toArray T)) ∧
    Cs (w.heap.size + 1) b (((w.alloc (.cells a.toArray T)).alloc (.cells b.toArray T)).alloc (.cells c.toArray T)) ∧ Cs (w.heap.size + 2) c (((w.alloc (.cells a.toArray T)).alloc (.cells b.toArray T)).alloc (.cells c.toArray T)) ∧
    Below w.heap.size w (((w.alloc (.cells a.toArray T)).alloc (.cells b.toArray T)).alloc (.cells c.toArray T)) := by
  refine ⟨((Cs.new w a T).alloc _).alloc _, ?_, ?_, ?_⟩
  · have := (Cs.new (w.alloc (.cells a.toArray T)) b T).alloc (.cells c.toArray T)
    simp only [World.size_alloc] at this
    exact this
  · have := Cs.new ((w.alloc (.cells a.toArray T)).alloc (.cells b.toArray T)) c T
    simp only [World.size_alloc] at this
    exact this
  · (repeat (first | with_reducible exact Below.refl _ _ | with_reducible refine Below.drew ?_ | with_reducible refine below_drewN ?_ _ | with_reducible refine Below.alloc ?_ (by first | omega | (simp; done) | (simp; omega)) _ | with_reducible refine Below.setCell ?_ (by first | omega | (simp; done) | (simp; omega)) _))
theorem join_rec (a b : Rec) (ha : a.Ok) (hb : b.Ok) (w : World) :
    Calls Tryd.prog 20 #[.agg #[.int .i64 a.id, .int .i64 a.st, .int .u32 a.n, .int .u32 a.ip, .int .u16 a.port], .agg #[.int .i64 b.id, .int .i64 b.st, .int .u32 b.n, .int .u32 b.ip, .int .u16 b.port]] w fun e w' => e = .returned (.agg #[.int .i64 (joinR a b).id, .int .i64 (joinR a b).st, .int .u32 (joinR a b).n, .int .u32 (joinR a b).ip, .int .u16 (joinR a b).port]) ∧ Below w.heap.size w w' := by
  have O := Lib.hid (over_rec a b ha hb)
  clear ha hb
  rw [joinR_over]
  generalize overR a b = v at *
  obtain ⟨X, Y, Z, hB⟩ := boxes3 w (rcs a) (rcs b) (rcs ⟨0, 0, 0, 0, 0⟩) 27
  have X : Cs w.heap.size (rcs a) (((w.alloc (.cells #[.int .i64 a.id, .int .i64 a.st, .int .u32 a.n, .int .u32 a.ip, .int .u16 a.port] 27)).alloc (.cells #[.int .i64 b.id, .int .i64 b.st, .int .u32 b.n, .int .u32 b.ip, .int .u16 b.port] 27)).alloc (.cells #[.int .i64 0, .int .i64 0, .int .u32 0, .int .u32 0, .int .u16 0] 27)) := X
  have Y : Cs (w.heap.size + 1) (rcs b) (((w.alloc (.cells #[.int .i64 a.id, .int .i64 a.st, .int .u32 a.n, .int .u32 a.ip, .int .u16 a.port] 27)).alloc (.cells #[.int .i64 b.id, .int .i64 b.st, .int .u32 b.n, .int .u32 b.ip, .int .u16 b.port] 27)).alloc (.cells #[.int .i64 0, .int .i64 0, .int .u32 0, .int .u32 0, .int .u16 0] 27)) := Y
  have Z : Cs (w.heap.size + 2) (rcs ⟨0, 0, 0, 0, 0⟩) (((w.alloc (.cells #[.int .i64 a.id, .int .i64 a.st, .int .u32 a.n, .int .u32 a.ip, .int .u16 a.port] 27)).alloc (.cells #[.int .i64 b.id, .int .i64 b.st, .int .u32 b.n, .int .u32 b.ip, .int .u16 b.port] 27)).alloc (.cells #[.int .i64 0, .int .i64 0, .int .u32 0, .int .u32 0, .int .u16 0] 27)) := Z
  have hB : Hid (Below w.heap.size w (((w.alloc (.cells #[.int .i64 a.id, .int .i64 a.st, .int .u32 a.n, .int .u32 a.ip, .int .u16 a.port] 27)).alloc (.cells #[.int .i64 b.id, .int .i64 b.st, .int .u32 b.n, .int .u32 b.ip, .int .u16 b.port] 27)).alloc (.cells #[.int .i64 0, .int .i64 0, .int .u32 0, .int .u32 0, .int .u16 0] 27))) := hB
  have HX := Lib.hid X
  have HY := Lib.hid Y
  have HZ := Lib.hid Z
  clear X Y Z
  cases v
  · rw [if_neg (by decide)]
    go_enter Tryd.func20, Tryd.ntmps20
    go_upto_region 1 with fail
    generalize (((w.alloc (.cells #[.int .i64 a.id, .int .i64 a.st, .int .u32 a.n, .int .u32 a.ip, .int .u16 a.port] 27)).alloc (.cells #[.int .i64 b.id, .int .i64 b.st, .int .u32 b.n, .int .u32 b.ip, .int .u16 b.port] 27)).alloc (.cells #[.int .i64 0, .int .i64 0, .int .u32 0, .int .u32 0, .int .u16 0] 27)) = wb at *
    obtain ⟨x0, x1, x2, x3, x4⟩ := Rb.of HX.out
    obtain ⟨y0, y1, y2, y3, y4⟩ := Rb.of HY.out
    go_wp2_with fail
    refine (O.out _).mono ?_; rintro e w1 ⟨rfl, b1⟩
    clear x0 x1 x2 x3 x4 y0 y1 y2 y3 y4
    have hB1 : Hid (Below w.heap.size w w1) := hB.out.trans (b1.mono hB.out.size)
    obtain ⟨x0, x1, x2, x3, x4⟩ := Rb.of (HY.out.keep b1)
    have Z1 := HZ.out.keep b1
    clear b1 HX HY HZ hB O
    have f0 := Z1.free 0 _ rfl
    have f1 := Z1.free 1 _ rfl
    have f2 := Z1.free 2 _ rfl
    have f3 := Z1.free 3 _ rfl
    have f4 := Z1.free 4 _ rfl
    obtain ⟨z0, z1, z2, z3, z4⟩ := Rb.of Z1
    clear Z1
    go_wp2
    refine bodyPost_ret (v := .agg #[.int .i64 b.id, .int .i64 b.st, .int .u32 b.n, .int .u32 b.ip, .int .u16 b.port]) (by simp [results, Tryd.results20, go_sem, z0, z1, z2, z3, z4]) rfl ⟨rfl, ?_⟩
    have hB1 := hB1.out
    exact (((((hB1.setCell (Nat.le_add_right _ 2) _).setCell (Nat.le_add_right _ 2) _).setCell (Nat.le_add_right _ 2) _).setCell (Nat.le_add_right _ 2) _).setCell (Nat.le_add_right _ 2) _)
  · rw [if_pos rfl]
    go_enter Tryd.func20, Tryd.ntmps20
    go_upto_region 1 with fail
    generalize (((w.alloc (.cells #[.int .i64 a.id, .int .i64 a.st, .int .u32 a.n, .int .u32 a.ip, .int .u16 a.port] 27)).alloc (.cells #[.int .i64 b.id, .int .i64 b.st, .int .u32 b.n, .int .u32 b.ip, .int .u16 b.port] 27)).alloc (.cells #[.int .i64 0, .int .i64 0, .int .u32 0, .int .u32 0, .int .u16 0] 27)) = wb at *
    obtain ⟨x0, x1, x2, x3, x4⟩ := Rb.of HX.out
    obtain ⟨y0, y1, y2, y3, y4⟩ := Rb.of HY.out
    go_wp2_with fail
    refine (O.out _).mono ?_; rintro e w1 ⟨rfl, b1⟩
    clear x0 x1 x2 x3 x4 y0 y1 y2 y3 y4
    have hB1 : Hid (Below w.heap.size w w1) := hB.out.trans (b1.mono hB.out.size)
    obtain ⟨x0, x1, x2, x3, x4⟩ := Rb.of (HX.out.keep b1)
    have Z1 := HZ.out.keep b1
    clear b1 HX HY HZ hB O
    have f0 := Z1.free 0 _ rfl
    have f1 := Z1.free 1 _ rfl
    have f2 := Z1.free 2 _ rfl
    have f3 := Z1.free 3 _ rfl
    have f4 := Z1.free 4 _ rfl
    obtain ⟨z0, z1, z2, z3, z4⟩ := Rb.of Z1
    clear Z1
    go_wp2
    refine bodyPost_ret (v := .agg #[.int .i64 a.id, .int .i64 a.st, .int .u32 a.n, .int .u32 a.ip, .int .u16 a.port]) (by simp [results, Tryd.results20, go_sem, z0, z1, z2, z3, z4]) rfl ⟨rfl, ?_⟩
    have hB1 := hB1.out
    exact (((((hB1.setCell (Nat.le_add_right _ 2) _).setCell (Nat.le_add_right _ 2) _).setCell (Nat.le_add_right _ 2) _).setCell (Nat.le_add_right _ 2) _).setCell (Nat.le_add_right _ 2) _)
theorem rjoin_rec (a b : Rec) (ha : a.Ok) (hb : b.Ok) (w : World) :
    Calls Tryd.prog 21 #[.agg #[.int .i64 a.id, .int .i64 a.st, .int .u32 a.n, .int .u32 a.ip, .int .u16 a.port], .agg #[.int .i64 b.id, .int .i64 b.st, .int .u32 b.n, .int .u32 b.ip, .int .u16 b.port]] w fun e w' => e = .returned (.agg #[.int .i64 (joinR a b).id, .int .i64 (joinR a b).st, .int .u32 (joinR a b).n, .int .u32 (joinR a b).ip, .int .u16 (joinR a b).port]) ∧ Below w.heap.size w w' := by
  have O := Lib.hid (rover_rec a b ha hb)
  clear ha hb
  rw [joinR_over]
  generalize overR a b = v at *
  obtain ⟨X, Y, Z, hB⟩ := boxes3 w (rcs a) (rcs b) (rcs ⟨0, 0, 0, 0, 0⟩) 34
  have X : Cs w.heap.size (rcs a) (((w.alloc (.cells #[.int .i64 a.id, .int .i64 a.st, .int .u32 a.n, .int .u32 a.ip, .int .u16 a.port] 34)).alloc (.cells #[.int .i64 b.id, .int .i64 b.st, .int .u32 b.n, .int .u32 b.ip, .int .u16 b.port] 34)).alloc (.cells #[.int .i64 0, .int .i64 0, .int .u32 0, .int .u32 0, .int .u16 0] 34)) := X
  have Y : Cs (w.heap.size + 1) (rcs b) (((w.alloc (.cells #[.int .i64 a.id, .int .i64 a.st, .int .u32 a.n, .int .u32 a.ip, .int .u16 a.port] 34)).alloc (.cells #[.int .i64 b.id, .int .i64 b.st, .int .u32 b.n, .int .u32 b.ip, .int .u16 b.port] 34)).alloc (.cells #[.int .i64 0, .int .i64 0, .int .u32 0, .int .u32 0, .int .u16 0] 34)) := Y
  have Z : Cs (w.heap.size + 2) (rcs ⟨0, 0, 0, 0, 0⟩) (((w.alloc (.cells #[.int .i64 a.id, .int .i64 a.st, .int .u32 a.n, .int .u32 a.ip, .int .u16 a.port] 34)).alloc (.cells #[.int .i64 b.id, .int .i64 b.st, .int .u32 b.n, .int .u32 b.ip, .int .u16 b.port] 34)).alloc (.cells #[.int .i64 0, .int .i64 0, .int .u32 0, .int .u32 0, .int .u16 0] 34)) := Z
  have hB : Hid (Below w.heap.size w (((w.alloc (.cells #[.int .i64 a.id, .int .i64 a.st, .int .u32 a.n, .int .u32 a.ip, .int .u16 a.port] 34)).alloc (.cells #[.int .i64 b.id, .int .i64 b.st, .int .u32 b.n, .int .u32 b.ip, .int .u16 b.port] 34)).alloc (.cells #[.int .i64 0, .int .i64 0, .int .u32 0, .int .u32 0, .int .u16 0] 34))) := hB
  have HX := Lib.hid X
  have HY := Lib.hid Y
  have HZ := Lib.hid Z
  clear X Y Z
  cases v
  · rw [if_neg (by decide)]
    go_enter Tryd.func21, Tryd.ntmps21
    go_upto_region 1 with fail
    generalize (((w.alloc (.cells #[.int .i64 a.id, .int .i64 a.st, .int .u32 a.n, .int .u32 a.ip, .int .u16 a.port] 34)).alloc (.cells #[.int .i64 b.id, .int .i64 b.st, .int .u32 b.n, .int .u32 b.ip, .int .u16 b.port] 34)).alloc (.cells #[.int .i64 0, .int .i64 0, .int .u32 0, .int .u32 0, .int .u16 0] 34)) = wb at *
    obtain ⟨x0, x1, x2, x3, x4⟩ := Rb.of HX.out
    obtain ⟨y0, y1, y2, y3, y4⟩ := Rb.of HY.out
    go_wp2_with fail
    refine (O.out _).mono ?_; rintro e w1 ⟨rfl, b1⟩
    clear x0 x1 x2 x3 x4 y0 y1 y2 y3 y4
    have hB1 : Hid (Below w.heap.size w w1) := hB.out.trans (b1.mono hB.out.size)
    obtain ⟨x0, x1, x2, x3, x4⟩ := Rb.of (HY.out.keep b1)
    have Z1 := HZ.out.keep b1
    clear b1 HX HY HZ hB O
    have f0 := Z1.free 0 _ rfl
    have f1 := Z1.free 1 _ rfl
    have f2 := Z1.free 2 _ rfl
    have f3 := Z1.free 3 _ rfl
    have f4 := Z1.free 4 _ rfl
    obtain ⟨z0, z1, z2, z3, z4⟩ := Rb.of Z1
    clear Z1
    go_wp2
    refine bodyPost_ret (v := .agg #[.int .i64 b.id, .int .i64 b.st, .int .u32 b.n, .int .u32 b.ip, .int .u16 b.port]) (by simp [results, Tryd.results21, go_sem, z0, z1, z2, z3, z4]) rfl ⟨rfl, ?_⟩
    have hB1 := hB1.out
    exact (((((hB1.setCell (Nat.le_add_right _ 2) _).setCell (Nat.le_add_right _ 2) _).setCell (Nat.le_add_right _ 2) _).setCell (Nat.le_add_right _ 2) _).setCell (Nat.le_add_right _ 2) _)
  · rw [if_pos rfl]
    go_enter Tryd.func21, Tryd.ntmps21
    go_upto_region 1 with fail
    generalize (((w.alloc (.cells #[.int .i64 a.id, .int .i64 a.st, .int .u32 a.n, .int .u32 a.ip, .int .u16 a.port] 34)).alloc (.cells #[.int .i64 b.id, .int .i64 b.st, .int .u32 b.n, .int .u32 b.ip, .int .u16 b.port] 34)).alloc (.cells #[.int .i64 0, .int .i64 0, .int .u32 0, .int .u32 0, .int .u16 0] 34)) = wb at *
    obtain ⟨x0, x1, x2, x3, x4⟩ := Rb.of HX.out
    obtain ⟨y0, y1, y2, y3, y4⟩ := Rb.of HY.out
    go_wp2_with fail
    refine (O.out _).mono ?_; rintro e w1 ⟨rfl, b1⟩
    clear x0 x1 x2 x3 x4 y0 y1 y2 y3 y4
    have hB1 : Hid (Below w.heap.size w w1) := hB.out.trans (b1.mono hB.out.size)
    obtain ⟨x0, x1, x2, x3, x4⟩ := Rb.of (HX.out.keep b1)
    have Z1 := HZ.out.keep b1
    clear b1 HX HY HZ hB O
    have f0 := Z1.free 0 _ rfl
    have f1 := Z1.free 1 _ rfl
    have f2 := Z1.free 2 _ rfl
    have f3 := Z1.free 3 _ rfl
    have f4 := Z1.free 4 _ rfl
    obtain ⟨z0, z1, z2, z3, z4⟩ := Rb.of Z1
    clear Z1
    go_wp2
    refine bodyPost_ret (v := .agg #[.int .i64 a.id, .int .i64 a.st, .int .u32 a.n, .int .u32 a.ip, .int .u16 a.port]) (by simp [results, Tryd.results21, go_sem, z0, z1, z2, z3, z4]) rfl ⟨rfl, ?_⟩
    have hB1 := hB1.out
    exact (((((hB1.setCell (Nat.le_add_right _ 2) _).setCell (Nat.le_add_right _ 2) _).setCell (Nat.le_add_right _ 2) _).setCell (Nat.le_add_right _ 2) _).setCell (Nat.le_add_right _ 2) _)
end Go.Proofs.YtnmnokmbnjdfoaaDoor
