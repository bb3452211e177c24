/- A slice of deeds that came in, opened to its cells. -/
import Derived.Test.YtpeoallhbbleaaaPaPair
import Derived.Deep.DeepCutAuto
import Derived.Deep.Slices
import Derived.ChangeOld
import Derived.ChangeMaps5
import Derived.ShutString
import Derived.OpenShut
import Derived.SizedLaws
namespace Go.Proofs.Ytpeoallhbbleaaa
open Go.Sort Go.RowKit Go.BigFrame Go.ChangeShapes Go.WideShapes Go.Deep
set_option maxRecDepth 100000
set_option linter.unusedVariables false
set_option linter.unusedSimpArgs false

structure Deed where
  k : Int
  who : Int
  ip : Int
  pt : Int
  now : Int
  near : Bool
def cd (d : Deed) : List Value := [.int .u8 d.k, .int .i64 d.who, .int .u32 d.ip, .int .u16 d.pt, .int .u64 d.now, .bool d.near]
structure Deed.Fits (d : Deed) : Prop where
  k : (Lit.int .u8 d.k).wf = true
  who : (Lit.int .i64 d.who).wf = true
  ip : (Lit.int .u32 d.ip).wf = true
  pt : (Lit.int .u16 d.pt).wf = true
  now : (Lit.int .u64 d.now).wf = true
section
variable {H : Type} {enc : TypeId × Value → H} {w : World} {base : Nat} {spare : Nat → Bool} {held : Bool}
theorem cells_u8 : Try.prog.cellsOf 5 = 1 := by kernel_rfl
theorem cells_int : Try.prog.cellsOf 3 = 1 := by kernel_rfl
theorem cells_u16 : Try.prog.cellsOf 33 = 1 := by kernel_rfl
theorem cells_u32 : Try.prog.cellsOf 32 = 1 := by kernel_rfl
theorem cells_u64 : Try.prog.cellsOf 22 = 1 := by kernel_rfl
theorem cells_bool : Try.prog.cellsOf 4 = 1 := by kernel_rfl
theorem cells_addr : Try.prog.cellsOf 35 = 2 := by kernel_rfl
theorem cells_deed : Try.prog.cellsOf 37 = 6 := by kernel_rfl
theorem deed_open {n : Nat} {cs : List Value} {x : DataW H × List MemPlace} (h : DataW.trod enc Try.prog w base spare held n 37 cs = some x) : ∃ d : Deed, cs = cd d ∧ d.Fits := by
  obtain ⟨ys, m, _, _, hl, hyl, hf⟩ := DataW.trod_struct Try.underlying37 h
  have hl8 : cs.length = 6 := hl.trans cells_deed
  clear hl
  match cs, hl8 with
  | [c0, c1, c2, c3, c4, c5], _ =>
    match ys, hyl with
    | [y0, y1, y2, y3, y4], _ =>
      have g0 : DataW.trod enc Try.prog w base spare held m 5 (([c0, c1, c2, c3, c4, c5].drop 0).take (Try.prog.cellsOf 5)) = some y0 := hf 0 _ rfl
      have g1 : DataW.trod enc Try.prog w base spare held m 3 (([c0, c1, c2, c3, c4, c5].drop 1).take (Try.prog.cellsOf 3)) = some y1 := hf 1 _ rfl
      have g2 : DataW.trod enc Try.prog w base spare held m 35 (([c0, c1, c2, c3, c4, c5].drop 2).take (Try.prog.cellsOf 35)) = some y2 := hf 2 _ rfl
      have g3 : DataW.trod enc Try.prog w base spare held m 22 (([c0, c1, c2, c3, c4, c5].drop 4).take (Try.prog.cellsOf 22)) = some y3 := hf 3 _ rfl
      have g5 : DataW.trod enc Try.prog w base spare held m 4 (([c0, c1, c2, c3, c4, c5].drop 5).take (Try.prog.cellsOf 4)) = some y4 := hf 4 _ rfl
      rw [cells_u8] at g0
      rw [cells_int] at g1
      rw [cells_addr] at g2
      rw [cells_u64] at g3
      rw [cells_bool] at g5
      obtain ⟨zs, m2, _, _, _, hzl, hf2⟩ := DataW.trod_struct Try.underlying35 g2
      match zs, hzl with
      | [v0, v1], _ =>
        have k0 : DataW.trod enc Try.prog w base spare held m2 32 ([c2].take (Try.prog.cellsOf 32)) = some v0 := hf2 0 _ rfl
        have k1 : DataW.trod enc Try.prog w base spare held m2 33 ([c3].take (Try.prog.cellsOf 33)) = some v1 := hf2 1 _ rfl
        rw [cells_u32] at k0
        rw [cells_u16] at k1
        obtain ⟨z0, e0, _, w0⟩ := DataW.trod_int Try.underlying5 g0
        obtain ⟨z1, e1, _, w1⟩ := DataW.trod_int Try.underlying3 g1
        obtain ⟨z2, e2, _, w2⟩ := DataW.trod_int Try.underlying32 k0
        obtain ⟨z3, e3, _, w3⟩ := DataW.trod_int Try.underlying33 k1
        obtain ⟨z4, e4, _, w4⟩ := DataW.trod_int Try.underlying22 g3
        obtain ⟨z5, e5, _⟩ := DataW.trod_bool Try.underlying4 g5
        simp at e0 e1 e2 e3 e4 e5
        subst e0 e1 e2 e3 e4 e5
        exact ⟨⟨z0, z1, z2, z3, z4, z5⟩, rfl, ⟨w0, w1, w2, w3, w4⟩⟩
end
/-- the deeds lie there -/
def DeedRow (w : World) (a : Option Addr) (len cap : Nat) : Prop :=
  (a = none ∧ len = 0 ∧ cap = 0) ∨
  ∃ x, a = some x ∧ len ≤ cap ∧ cap ≤ maxLen ∧ ∀ i, i < len → ∃ d : Deed, d.Fits ∧ ∀ j v, (cd d)[j]? = some v → w.cell? ((x.add (i * 6)).add j) = some v
theorem deeds_open {H : Type} {enc : TypeId × Value → H} {w : World} {base fuel : Nat} {held : Bool} {a : Option Addr} {len cap : Nat} {x : DataW H × List MemPlace}
    (h : DataW.trod enc Try.prog w base (fun _ => true) held fuel 23 [.slice a len cap] = some x) : DeedRow w a len cap := by
  rcases open_slice Try.underlying23 h with ⟨hcs, _⟩ | ⟨y, l, c, m, n, D, Pl, hcs, _, hl, hm, hmm, _, hi⟩
  · simp at hcs
    obtain ⟨rfl, rfl, rfl⟩ := hcs
    exact .inl ⟨rfl, rfl, rfl⟩
  · simp at hcs
    obtain ⟨rfl, rfl, rfl⟩ := hcs
    refine .inr ⟨_, rfl, hl, hm, fun i h1 => ?_⟩
    obtain ⟨cs', hc, ht⟩ := hi i (by rw [hmm]; simp; omega)
    rw [cells_deed] at hc
    obtain ⟨d, rfl, hd⟩ := deed_open ht
    obtain ⟨_, hcl, hat⟩ := World.cells?_some hc
    refine ⟨d, hd, fun j v hj => ?_⟩
    have hj8 : j < 6 := by
      have := (List.getElem?_eq_some_iff.1 hj).1
      exact this
    rw [hat j hj8, hj]
theorem DeedRow.at_ {w : World} {a : Option Addr} {len cap : Nat} (h : DeedRow w a len cap) (hp : 0 < len) :
    ∃ b off, a = some ⟨b, off, none⟩ ∧ b < w.heap.size ∧ ∀ i, i < len → ∃ t : Deed, t.Fits ∧ ∀ j v, (cd t)[j]? = some v → w.cell? ⟨b, off + i * 6 + j, none⟩ = some v := by
  rcases h with ⟨_, h0, _⟩ | ⟨x, rfl, hl, hm, hc⟩
  · omega
  · obtain ⟨d, _, h0⟩ := hc 0 hp
    have h0 := h0 0 _ rfl
    obtain ⟨b, off, spot⟩ := x
    have hs : spot = none := by simpa [Addr.add] using World.cell?_spot h0
    subst hs
    refine ⟨b, off, rfl, by simpa [Addr.add] using World.block_lt_of_cell? _ _ h0, fun i hi => ?_⟩
    obtain ⟨d, hd, h1⟩ := hc i hi
    refine ⟨d, hd, fun j v hj => ?_⟩
    have h2 := h1 j v hj
    rw [add_at, add_at] at h2
    exact h2
theorem DeedRow.len {w : World} {a : Option Addr} {len cap : Nat} (h : DeedRow w a len cap) : len ≤ 9223372036854775807 := by
  rcases h with ⟨_, h0, _⟩ | ⟨x, rfl, hl, hm, hc⟩
  · omega
  · unfold maxLen at hm; omega
end Go.Proofs.Ytpeoallhbbleaaa
