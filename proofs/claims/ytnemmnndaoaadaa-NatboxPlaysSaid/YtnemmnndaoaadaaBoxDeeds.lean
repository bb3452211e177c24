/- A slice of deeds that came in, opened to its cells (NatboxHolds, NatboxPlays). -/
import Derived.Test.YtnemmnndaoaadaaBoxDeed
import Derived.Deep.Slices
import Derived.ChangeSame
import Derived.ChangeOld
namespace Go.Proofs.Ytnemmnndaoaadaa
open Go.Sort Go.RowKit Go.BigFrame Go.ChangeShapes Go.WideShapes Go.Deep
set_option linter.unusedVariables false
set_option linter.unusedSimpArgs false

structure Deed8 where
  k : Int
  i : Int
  o : Int
  p : Int
  b : Int
  a : Int
  c : Int
  r : Int
def Deed8.cells (d : Deed8) : List Value := [.int .u8 d.k, .int .u8 d.i, .int .u8 d.o, .int .u8 d.p, .int .u8 d.b, .int .u32 d.a, .int .u16 d.c, .int .u64 d.r]
structure Deed8.Fits (d : Deed8) : Prop where
  k : (Lit.int .u8 d.k).wf = true
  i : (Lit.int .u8 d.i).wf = true
  o : (Lit.int .u8 d.o).wf = true
  p : (Lit.int .u8 d.p).wf = true
  b : (Lit.int .u8 d.b).wf = true
  a : (Lit.int .u32 d.a).wf = true
  c : (Lit.int .u16 d.c).wf = true
  r : (Lit.int .u64 d.r).wf = true
section
variable {H : Type} {enc : TypeId × Value → H} {w : World} {base : Nat} {spare : Nat → Bool} {held : Bool}
theorem cells_u8 : Try.prog.cellsOf 5 = 1 := by kernel_rfl
theorem cells_u64 : Try.prog.cellsOf 25 = 1 := by kernel_rfl
theorem cells_u32 : Try.prog.cellsOf 24 = 1 := by kernel_rfl
theorem cells_u16 : Try.prog.cellsOf 36 = 1 := by kernel_rfl
theorem cells_addr : Try.prog.cellsOf 38 = 2 := by kernel_rfl
theorem cells_deed : Try.prog.cellsOf 40 = 8 := by kernel_rfl
set_option maxRecDepth 100000 in
theorem deed_open {n : Nat} {cs : List Value} {x : DataW H × List MemPlace} (h : DataW.trod enc Try.prog w base spare held n 40 cs = some x) : ∃ d : Deed8, cs = d.cells ∧ d.Fits := by
  obtain ⟨ys, m, _, _, hl, hyl, hf⟩ := DataW.trod_struct Try.underlying40 h
  have hl8 : cs.length = 8 := hl.trans cells_deed
  clear hl
  match cs, hl8 with
  | [c0, c1, c2, c3, c4, c5, c6, c7], _ =>
    match ys, hyl with
    | [y0, y1, y2, y3, y4, y5, y6], _ =>
      have g0 : DataW.trod enc Try.prog w base spare held m 5 (([c0, c1, c2, c3, c4, c5, c6, c7].drop 0).take (Try.prog.cellsOf 5)) = some y0 := hf 0 _ rfl
      have g1 : DataW.trod enc Try.prog w base spare held m 5 (([c0, c1, c2, c3, c4, c5, c6, c7].drop 1).take (Try.prog.cellsOf 5)) = some y1 := hf 1 _ rfl
      have g2 : DataW.trod enc Try.prog w base spare held m 5 (([c0, c1, c2, c3, c4, c5, c6, c7].drop 2).take (Try.prog.cellsOf 5)) = some y2 := hf 2 _ rfl
      have g3 : DataW.trod enc Try.prog w base spare held m 5 (([c0, c1, c2, c3, c4, c5, c6, c7].drop 3).take (Try.prog.cellsOf 5)) = some y3 := hf 3 _ rfl
      have g4 : DataW.trod enc Try.prog w base spare held m 5 (([c0, c1, c2, c3, c4, c5, c6, c7].drop 4).take (Try.prog.cellsOf 5)) = some y4 := hf 4 _ rfl
      have g5 : DataW.trod enc Try.prog w base spare held m 38 (([c0, c1, c2, c3, c4, c5, c6, c7].drop 5).take (Try.prog.cellsOf 38)) = some y5 := hf 5 _ rfl
      have g6 : DataW.trod enc Try.prog w base spare held m 25 (([c0, c1, c2, c3, c4, c5, c6, c7].drop 7).take (Try.prog.cellsOf 25)) = some y6 := hf 6 _ rfl
      rw [cells_u8] at g0 g1 g2 g3 g4
      rw [cells_addr] at g5
      rw [cells_u64] at g6
      obtain ⟨z0, e0, _, w0⟩ := DataW.trod_int Try.underlying5 g0
      obtain ⟨z1, e1, _, w1⟩ := DataW.trod_int Try.underlying5 g1
      obtain ⟨z2, e2, _, w2⟩ := DataW.trod_int Try.underlying5 g2
      obtain ⟨z3, e3, _, w3⟩ := DataW.trod_int Try.underlying5 g3
      obtain ⟨z4, e4, _, w4⟩ := DataW.trod_int Try.underlying5 g4
      obtain ⟨z7, e7, _, w7⟩ := DataW.trod_int Try.underlying25 g6
      obtain ⟨u0, u1, m2, _, _, a0', a1'⟩ := trod_struct2 Try.underlying38 g5
      have a0 : DataW.trod enc Try.prog w base spare held m2 24 ((([c5, c6]).drop 0).take (Try.prog.cellsOf 24)) = some u0 := a0'
      have a1 : DataW.trod enc Try.prog w base spare held m2 36 ((([c5, c6]).drop 1).take (Try.prog.cellsOf 36)) = some u1 := a1'
      rw [cells_u32] at a0
      rw [cells_u16] at a1
      obtain ⟨z5, e5, _, w5⟩ := DataW.trod_int Try.underlying24 a0
      obtain ⟨z6, e6, _, w6⟩ := DataW.trod_int Try.underlying36 a1
      simp at e0 e1 e2 e3 e4 e5 e6 e7
      subst e0 e1 e2 e3 e4 e5 e6 e7
      exact ⟨⟨z0, z1, z2, z3, z4, z5, z6, z7⟩, rfl, ⟨w0, w1, w2, w3, w4, w5, w6, w7⟩⟩
end
/-- the deeds lie there -/
def DeedRow (w : World) (a : Option Addr) (len cap : Nat) : Prop :=
  (a = none ∧ len = 0 ∧ cap = 0) ∨
  ∃ x, a = some x ∧ len ≤ cap ∧ cap ≤ maxLen ∧ ∀ i, i < len → ∃ d : Deed8, d.Fits ∧ ∀ j v, d.cells[j]? = some v → w.cell? ((x.add (i * 8)).add j) = some v
theorem deeds_open {H : Type} {enc : TypeId × Value → H} {w : World} {base fuel : Nat} {held : Bool} {a : Option Addr} {len cap : Nat} {x : DataW H × List MemPlace}
    (h : DataW.trod enc Try.prog w base (fun _ => true) held fuel 26 [.slice a len cap] = some x) : DeedRow w a len cap := by
  rcases open_slice Try.underlying26 h with ⟨hcs, _⟩ | ⟨y, l, c, m, n, D, Pl, hcs, _, hl, hm, hmm, _, hi⟩
  · simp at hcs
    obtain ⟨rfl, rfl, rfl⟩ := hcs
    exact .inl ⟨rfl, rfl, rfl⟩
  · simp at hcs
    obtain ⟨rfl, rfl, rfl⟩ := hcs
    refine .inr ⟨_, rfl, hl, hm, fun i h1 => ?_⟩
    obtain ⟨cs', hc, ht⟩ := hi i (by rw [hmm]; simp; omega)
    rw [cells_deed] at hc
    obtain ⟨d, rfl, hd⟩ := deed_open ht
    obtain ⟨_, hcl, hat⟩ := World.cells?_some hc
    refine ⟨d, hd, fun j v hj => ?_⟩
    have hj8 : j < 8 := by
      have := (List.getElem?_eq_some_iff.1 hj).1
      exact this
    rw [hat j hj8, hj]
theorem DeedRow.at_ {w : World} {a : Option Addr} {len cap : Nat} (h : DeedRow w a len cap) (hp : 0 < len) :
    ∃ b off, a = some ⟨b, off, none⟩ ∧ b < w.heap.size ∧ ∀ i, i < len → ∃ d : Deed8, d.Fits ∧ ∀ j v, d.cells[j]? = some v → w.cell? ⟨b, off + i * 8 + j, none⟩ = some v := by
  rcases h with ⟨_, h0, _⟩ | ⟨x, rfl, hl, hm, hc⟩
  · omega
  · obtain ⟨d, _, h0⟩ := hc 0 hp
    have h0 := h0 0 _ rfl
    obtain ⟨b, off, spot⟩ := x
    have hs : spot = none := by simpa [Addr.add] using World.cell?_spot h0
    subst hs
    refine ⟨b, off, rfl, by simpa [Addr.add] using World.block_lt_of_cell? _ _ h0, fun i hi => ?_⟩
    obtain ⟨d, hd, h1⟩ := hc i hi
    refine ⟨d, hd, fun j v hj => ?_⟩
    have h2 := h1 j v hj
    rw [add_at, add_at] at h2
    exact h2
theorem DeedRow.len {w : World} {a : Option Addr} {len cap : Nat} (h : DeedRow w a len cap) : len ≤ 9223372036854775807 := by
  rcases h with ⟨_, h0, _⟩ | ⟨x, rfl, hl, hm, hc⟩
  · omega
  · unfold maxLen at hm; omega
end Go.Proofs.Ytnemmnndaoaadaa
