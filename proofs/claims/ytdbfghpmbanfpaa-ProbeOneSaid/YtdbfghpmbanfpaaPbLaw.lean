/- Probes: what a law holds: boxes of probes; its calls. -/
import Derived.Test.YtdbfghpmbanfpaaPbStart
import Derived.Test.YtdbfghpmbanfpaaHold
namespace Go.Proofs.Ytdbfghpmbanfpaa
open Go.Sort Go.RowKit Go.BigFrame
set_option linter.unusedVariables false
set_option linter.unusedSimpArgs false
def pcs (p : Pr) : List Value := [.int .i64 p.st, .int .i64 p.tg, .int .i64 p.nk, .int .u32 p.sq, .int .u64 p.un, .int .u64 p.fi, .int .u64 p.se]
def hP (b : Nat) (p : Pr) : Hl := hC b (pcs p)
section
variable {w0 w w' : World} {H H1 H2 : List Hl} {p q : Pr}
theorem new_l (a b : Int) {p : Pr} {e : Int} (h : newP a b = (p, e)) (s : St w0 H w) : Calls Try.prog 8 #[.int .u64 a, .int .u64 b] w fun x w' => x = .returned (.tuple #[.agg #[.int .i64 p.st, .int .i64 p.tg, .int .i64 p.nk, .int .u32 p.sq, .int .u64 p.un, .int .u64 p.fi, .int .u64 p.se], .int .i64 e]) ∧ St w0 H w' :=
  (new_any a b w).mono fun x w' ⟨hx, hb⟩ => ⟨by rw [hx, h], s.keep hb⟩
theorem start_l (p : Pr) (tg sq now : Int) {q : Pr} {e : Int} (h : startP p tg sq now = (q, e)) (s : St w0 H w) : Calls Try.prog 9 #[.agg #[.int .i64 p.st, .int .i64 p.tg, .int .i64 p.nk, .int .u32 p.sq, .int .u64 p.un, .int .u64 p.fi, .int .u64 p.se], .int .i64 tg, .int .u32 sq, .int .u64 now] w fun x w' => x = .returned (.tuple #[.agg #[.int .i64 q.st, .int .i64 q.tg, .int .i64 q.nk, .int .u32 q.sq, .int .u64 q.un, .int .u64 q.fi, .int .u64 q.se], .int .i64 e]) ∧ St w0 H w' :=
  (start_any p tg sq now w).mono fun x w' ⟨hx, hb⟩ => ⟨by rw [hx, h], s.keep hb⟩
theorem ack_l (p : Pr) (sq : Int) {q : Pr} {e : Bool} (h : ackP p sq = (q, e)) (s : St w0 H w) : Calls Try.prog 10 #[.agg #[.int .i64 p.st, .int .i64 p.tg, .int .i64 p.nk, .int .u32 p.sq, .int .u64 p.un, .int .u64 p.fi, .int .u64 p.se], .int .u32 sq] w fun x w' => x = .returned (.tuple #[.agg #[.int .i64 q.st, .int .i64 q.tg, .int .i64 q.nk, .int .u32 q.sq, .int .u64 q.un, .int .u64 q.fi, .int .u64 q.se], .bool e]) ∧ St w0 H w' :=
  (ack_any p sq w).mono fun x w' ⟨hx, hb⟩ => ⟨by rw [hx, h], s.keep hb⟩
theorem nack_l (p : Pr) (sq : Int) {q : Pr} {e : Bool} (h : nackP p sq = (q, e)) (s : St w0 H w) : Calls Try.prog 12 #[.agg #[.int .i64 p.st, .int .i64 p.tg, .int .i64 p.nk, .int .u32 p.sq, .int .u64 p.un, .int .u64 p.fi, .int .u64 p.se], .int .u32 sq] w fun x w' => x = .returned (.tuple #[.agg #[.int .i64 q.st, .int .i64 q.tg, .int .i64 q.nk, .int .u32 q.sq, .int .u64 q.un, .int .u64 q.fi, .int .u64 q.se], .bool e]) ∧ St w0 H w' :=
  (nack_any p sq w).mono fun x w' ⟨hx, hb⟩ => ⟨by rw [hx, h], s.keep hb⟩
theorem tick_l (p : Pr) (now : Int) {q : Pr} {e : Int} (h : tickP p now = (q, e)) (s : St w0 H w) : Calls Try.prog 11 #[.agg #[.int .i64 p.st, .int .i64 p.tg, .int .i64 p.nk, .int .u32 p.sq, .int .u64 p.un, .int .u64 p.fi, .int .u64 p.se], .int .u64 now] w fun x w' => x = .returned (.tuple #[.agg #[.int .i64 q.st, .int .i64 q.tg, .int .i64 q.nk, .int .u32 q.sq, .int .u64 q.un, .int .u64 q.fi, .int .u64 q.se], .int .i64 e]) ∧ St w0 H w' :=
  (tick_any p now w).mono fun x w' ⟨hx, hb⟩ => ⟨by rw [hx, h], s.keep hb⟩
/-- a box of a probe is made -/
theorem St.pbox (s : St w0 H w) (p : Pr) : St w0 (hP w.heap.size p :: H) (w.alloc (.cells #[.int .i64 p.st, .int .i64 p.tg, .int .i64 p.nk, .int .u32 p.sq, .int .u64 p.un, .int .u64 p.fi, .int .u64 p.se] 26)) := s.box (pcs p) _
/-- a box of a probe is written -/
theorem St.pset {b : Nat} (H1 H2 : List Hl) (s : St w0 (H1 ++ hP b p :: H2) w) (q : Pr) :
    St w0 (H1 ++ hP b q :: H2) (((((((w.setCell ⟨b, 0, none⟩ (.int .i64 q.st)).setCell ⟨b, 1, none⟩ (.int .i64 q.tg)).setCell ⟨b, 2, none⟩ (.int .i64 q.nk)).setCell ⟨b, 3, none⟩ (.int .u32 q.sq)).setCell ⟨b, 4, none⟩ (.int .u64 q.un)).setCell ⟨b, 5, none⟩ (.int .u64 q.fi)).setCell ⟨b, 6, none⟩ (.int .u64 q.se)) :=
  St.setn H1 H2 (pcs q) [] (pcs p) rfl s
/-- the cells of a probe's box, and that they can be written -/
theorem St.pc {b : Nat} (s : St w0 H w) (hm : hP b p ∈ H) : w.cell? ⟨b, 0, none⟩ = some (.int .i64 p.st) ∧ w.cell? ⟨b, 1, none⟩ = some (.int .i64 p.tg) ∧ w.cell? ⟨b, 2, none⟩ = some (.int .i64 p.nk) ∧ w.cell? ⟨b, 3, none⟩ = some (.int .u32 p.sq) ∧ w.cell? ⟨b, 4, none⟩ = some (.int .u64 p.un) ∧ w.cell? ⟨b, 5, none⟩ = some (.int .u64 p.fi) ∧ w.cell? ⟨b, 6, none⟩ = some (.int .u64 p.se) := by
  have h : Cs b (pcs p) w := s.get hm
  exact ⟨h.cell 0 _ rfl, h.cell 1 _ rfl, h.cell 2 _ rfl, h.cell 3 _ rfl, h.cell 4 _ rfl, h.cell 5 _ rfl, h.cell 6 _ rfl⟩
theorem St.pf {b : Nat} (s : St w0 H w) (hm : hP b p ∈ H) : w.frozen? ⟨b, 0, none⟩ = false ∧ w.frozen? ⟨b, 1, none⟩ = false ∧ w.frozen? ⟨b, 2, none⟩ = false ∧ w.frozen? ⟨b, 3, none⟩ = false ∧ w.frozen? ⟨b, 4, none⟩ = false ∧ w.frozen? ⟨b, 5, none⟩ = false ∧ w.frozen? ⟨b, 6, none⟩ = false := by
  have h : Cs b (pcs p) w := s.get hm
  exact ⟨h.free 0 _ rfl, h.free 1 _ rfl, h.free 2 _ rfl, h.free 3 _ rfl, h.free 4 _ rfl, h.free 5 _ rfl, h.free 6 _ rfl⟩
theorem St.pl {b : Nat} (s : St w0 H w) (hm : hP b p ∈ H) : b < w.heap.size := (show Cs b (pcs p) w from s.get hm).lt
end
end Go.Proofs.Ytdbfghpmbanfpaa
