/- Regions that draw their order, with calls of inner, outer, Out or In: what is carried from call to call. -/
import Derived.Test.YtelnfhbccbinlaaBoxLaw
namespace Go.Proofs.Ytelnfhbccbinlaa
open Go.Sort Go.RowKit Go.BigFrame
set_option linter.unusedVariables false
set_option linter.unusedSimpArgs false

theorem bl_alloc {w0 w wN : World} {o : Obj} (h : Below w0.heap.size w0 w) (d : Below (w.alloc o).heap.size (w.alloc o) wN) : Below w0.heap.size w0 wN := (h.alloc h.size o).trans (d.mono (h.alloc h.size o).size)
theorem bl_allocd {w0 wN : World} {o : Obj} (d : Below ((w0.alloc o).drew).heap.size ((w0.alloc o).drew) wN) : Below w0.heap.size w0 wN :=
  (((Below.refl w0.heap.size w0).alloc (Nat.le_refl _) o).drew).trans (d.mono (((Below.refl w0.heap.size w0).alloc (Nat.le_refl _) o).drew).size)
theorem z_newd {w0 wN : World} (d : Below ((w0.alloc (.cells #[.int .u32 0, .int .u16 0] 38)).drew).heap.size ((w0.alloc (.cells #[.int .u32 0, .int .u16 0] 38)).drew) wN) : Cs w0.heap.size [.int .u32 0, .int .u16 0] wN ∧ w0.heap.size ≤ w0.heap.size :=
  ⟨((Cs.new w0 [.int .u32 0, .int .u16 0] 38).keep ((Below.refl _ _).drew)).keep d, Nat.le_refl _⟩
theorem bl_same {w0 w wN : World} (h : Below w0.heap.size w0 w) (d : Below w.heap.size w wN) : Below w0.heap.size w0 wN := h.trans (d.mono h.size)
theorem z_new {w0 w wN : World} (h : Below w0.heap.size w0 w) (d : Below (w.alloc (.cells #[.int .u32 0, .int .u16 0] 38)).heap.size (w.alloc (.cells #[.int .u32 0, .int .u16 0] 38)) wN) : Cs w.heap.size [.int .u32 0, .int .u16 0] wN ∧ w0.heap.size ≤ w.heap.size :=
  ⟨(Cs.new w [.int .u32 0, .int .u16 0] 38).keep d, h.size⟩
theorem z_keep {w0 w wN : World} {z : Nat} {vs : List Value} (h : Cs z vs w ∧ w0.heap.size ≤ z) (d : Below w.heap.size w wN) : Cs z vs wN ∧ w0.heap.size ≤ z := ⟨h.1.keep d, h.2⟩
theorem z_now {w0 w : World} (h : Below w0.heap.size w0 w) : Cs w.heap.size [.int .u32 0, .int .u16 0] (w.alloc (.cells #[.int .u32 0, .int .u16 0] 38)) ∧ w0.heap.size ≤ w.heap.size := ⟨Cs.new w [.int .u32 0, .int .u16 0] 38, h.size⟩
theorem bl_now {w0 w : World} (h : Below w0.heap.size w0 w) (o : Obj) : Below w0.heap.size w0 (w.alloc o) := h.alloc h.size o
theorem L1.add {B g z : Nat} {lo : List (Nat × List Value)} {x : Bx} {vs : List Value} {w0 w : World} (h : L1 B lo g x w0) (b : Below w0.heap.size w0 w) (hz : Cs z vs w ∧ w0.heap.size ≤ z) : L1 B ((z, vs) :: lo) g x w := by
  obtain ⟨hB, hr, S, v, L, h1, h2, h3⟩ := h.t
  refine ⟨⟨Nat.le_trans hB b.size, fun k hk => ?_, S, v, L, h1.keep b, h2, fun k hk => ⟨(h3 k hk).1, Nat.lt_of_lt_of_le (h3 k hk).2.1 b.size, fun e => ?_⟩⟩, fun y hy => ?_⟩
  · rcases List.mem_cons.1 hk with rfl | hk
    · exact hz.1.lt
    · exact Nat.lt_of_lt_of_le (hr k hk) b.size
  · rcases List.mem_cons.1 e with rfl | e
    · exact Nat.lt_irrefl _ (Nat.lt_of_lt_of_le (h3 _ hk).2.1 hz.2)
    · exact (h3 k hk).2.2 e
  · rcases List.mem_cons.1 hy with rfl | hy
    · exact hz.1
    · exact (h.c y hy).keep b
/-- the answer is laid into its box -/
theorem L1.laid {B g z : Nat} {lo : List (Nat × List Value)} {x y : Bx} {a b p q : Value} {w0 w : World} (h0 : L1 B lo g y w0) (hz : w0.heap.size ≤ z) (h : L1 B ((z, [a, b]) :: lo) g x w) : L1 B ((z, [p, q]) :: lo) g x ((w.setCell ⟨z, 0, none⟩ p).setCell ⟨z, 1, none⟩ q) := by
  refine ⟨(h.t.set (p := ⟨z, 0, none⟩) (by simp) p).set (p := ⟨z, 1, none⟩) (by simp) q, fun y hy => ?_⟩
  rcases List.mem_cons.1 hy with rfl | hy
  · exact ((h.c.at z [a, b] (by simp)).set 0 p (by simp)).set 1 q (by simp)
  · have hlt := (h0.c y hy).lt
    exact (((h.c y (List.mem_cons_of_mem _ hy)).far _ _ (by simp; omega)).far _ _ (by simp; omega))
def OutJ (B : Nat) (lo : List (Nat × List Value)) (g : Nat) (x : Bx) (ip p c : Int) (w : World) (pv ev : Value) (wx : World) : Prop :=
  ∃ z, pv = .pointer (some ⟨z, 0, none⟩) ∧ ev = .int .i64 c ∧ L1 B ((z, [.int .u32 ip, .int .u16 p]) :: lo) g x wx ∧ Below B w wx
theorem outj_before {B g z : Nat} {lo : List (Nat × List Value)} {x y : Bx} {ip p c : Int} {w w0 wO : World} {a b : Value} (h0 : L1 B lo g y w0) (hb : Below B w wO) (hz : w0.heap.size ≤ z) (h : L1 B ((z, [a, b]) :: lo) g x wO) (hlo : B ≤ w0.heap.size) :
    OutJ B lo g x ip p c w (.pointer (some ⟨z, 0, none⟩)) (.int .i64 c) ((wO.setCell ⟨z, 0, none⟩ (.int .u32 ip)).setCell ⟨z, 1, none⟩ (.int .u16 p)) :=
  ⟨z, rfl, rfl, L1.laid h0 hz h, (hb.setCell (Nat.le_trans hlo hz) _).setCell (Nat.le_trans hlo hz) _⟩
theorem outj_after {B g : Nat} {lo : List (Nat × List Value)} {x : Bx} {ip p c : Int} {w wO : World} (hb : Below B w wO) (h : L1 B lo g x wO) :
    OutJ B lo g x ip p c w (.pointer (some ⟨wO.heap.size, 0, none⟩)) (.int .i64 c) (wO.alloc (.cells #[.int .u32 ip, .int .u16 p] 38)) :=
  ⟨wO.heap.size, rfl, rfl, h.alloc [.int .u32 ip, .int .u16 p] 38, hb.alloc h.t.1 _⟩
/-- behind Out or In, where the answer's box was made ahead of it -/
theorem after_a {B g z : Nat} {lo : List (Nat × List Value)} {x y : Bx} {w w0 w1 wO : World} {a b : Value} (h0 : L1 B lo g y w0) (hw : Below B w w0) (b1 : Below w0.heap.size w0 w1) (hz : w0.heap.size ≤ z) (h : L1 B ((z, [a, b]) :: lo) g x wO) (bO : Below B w1 wO) (ip p c : Int) :
    OutJ B lo g x ip p c w (.pointer (some ⟨z, 0, none⟩)) (.int .i64 c) ((wO.setCell ⟨z, 0, none⟩ (.int .u32 ip)).setCell ⟨z, 1, none⟩ (.int .u16 p)) ∧ Cs z [a, b] wO :=
  ⟨outj_before h0 ((hw.trans (b1.mono h0.t.1)).trans bO) hz h h0.t.1, h.c.at z [a, b] (by simp)⟩
theorem after_b {B g : Nat} {lo : List (Nat × List Value)} {x y : Bx} {w w0 w1 wO : World} (h0 : L1 B lo g y w0) (hw : Below B w w0) (b1 : Below w0.heap.size w0 w1) (h : L1 B lo g x wO) (bO : Below B w1 wO) (ip p c : Int) :
    OutJ B lo g x ip p c w (.pointer (some ⟨wO.heap.size, 0, none⟩)) (.int .i64 c) (wO.alloc (.cells #[.int .u32 ip, .int .u16 p] 38)) :=
  outj_after ((hw.trans (b1.mono h0.t.1)).trans bO) h
end Go.Proofs.Ytelnfhbccbinlaa
