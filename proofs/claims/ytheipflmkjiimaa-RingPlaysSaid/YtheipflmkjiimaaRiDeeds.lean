/- A slice of deeds that came in, each with a slice of bytes of its own. -/
import Derived.Test.YtheipflmkjiimaaRiEx
import Derived.Deep.Slices
import Derived.ChangeSame
import Derived.ChangeOld
import Derived.ChangeMaps5
import Derived.ShutString
import Derived.OpenShut
import Derived.SizedLaws
namespace Go.Proofs.Ytheipflmkjiimaa
open Go.Sort Go.RowKit Go.BigFrame Go.ChangeShapes Go.WideShapes Go.Deep
set_option maxRecDepth 100000
set_option linter.unusedVariables false
set_option linter.unusedSimpArgs false

structure Dd where
  so : Bool
  a : Option Addr
  n : Nat
  cap : Nat
  k : Int
def cd (d : Dd) : List Value := [.bool d.so, .slice d.a d.n d.cap, .int .i64 d.k]
structure Dd.Fits (w : World) (d : Dd) : Prop where
  k : (Lit.int .i64 d.k).wf = true
  l : ∃ zs, ArgRow .u8 w d.a d.n d.cap zs
section
variable {H : Type} {enc : TypeId × Value → H} {w : World} {base : Nat} {held : Bool}
theorem cells_int : Try.prog.cellsOf 3 = 1 := by kernel_rfl
theorem cells_bool : Try.prog.cellsOf 4 = 1 := by kernel_rfl
theorem cells_bytes : Try.prog.cellsOf 29 = 1 := by kernel_rfl
theorem cells_deed : Try.prog.cellsOf 31 = 3 := by kernel_rfl
theorem bytes_open {n : Nat} {v : Value} {x : DataW H × List MemPlace} (h : DataW.trod enc Try.prog w base (fun _ => true) held n 29 [v] = some x) : ∃ a m c, v = .slice a m c ∧ ∃ zs, ArgRow .u8 w a m c zs := by
  rcases open_ints Try.underlying29 Try.underlying5 (by kernel_rfl) h with ⟨hcs, _⟩ | ⟨x, l, c, zs, hcs, _, hl, hm, hz, _, hcell, hwz⟩
  · simp [Value.cells] at hcs
    subst hcs
    exact ⟨_, _, _, rfl, [], .inl ⟨rfl, rfl, rfl, rfl⟩⟩
  · simp [Value.cells] at hcs
    subst hcs
    exact ⟨_, _, _, rfl, zs, .inr ⟨_, rfl, hl, hm, by simpa using hz, hcell, hwz⟩⟩
theorem deed_open {n : Nat} {cs : List Value} {x : DataW H × List MemPlace} (h : DataW.trod enc Try.prog w base (fun _ => true) held n 31 cs = some x) : ∃ d : Dd, cs = cd d ∧ d.Fits w := by
  obtain ⟨ys, m, _, _, hl, hyl, hf⟩ := DataW.trod_struct Try.underlying31 h
  have hl8 : cs.length = 3 := hl.trans cells_deed
  clear hl
  match cs, hl8 with
  | [c0, c1, c2], _ =>
    match ys, hyl with
    | [y0, y1, y2], _ =>
      have g0 : DataW.trod enc Try.prog w base (fun _ => true) held m 4 (([c0, c1, c2].drop 0).take (Try.prog.cellsOf 4)) = some y0 := hf 0 _ rfl
      have g1 : DataW.trod enc Try.prog w base (fun _ => true) held m 29 (([c0, c1, c2].drop 1).take (Try.prog.cellsOf 29)) = some y1 := hf 1 _ rfl
      have g2 : DataW.trod enc Try.prog w base (fun _ => true) held m 3 (([c0, c1, c2].drop 2).take (Try.prog.cellsOf 3)) = some y2 := hf 2 _ rfl
      rw [cells_bool] at g0
      rw [cells_bytes] at g1
      rw [cells_int] at g2
      obtain ⟨z0, e0, _⟩ := DataW.trod_bool Try.underlying4 g0
      obtain ⟨a, q, c, e1, w1⟩ := bytes_open (v := c1) g1
      obtain ⟨z2, e2, _, w2⟩ := DataW.trod_int Try.underlying3 g2
      simp at e0 e2
      subst e0 e1 e2
      exact ⟨⟨z0, a, q, c, z2⟩, rfl, ⟨w2, w1⟩⟩
/-- the deeds lie there -/
def DeedRow (w : World) (a : Option Addr) (len cap : Nat) : Prop :=
  (a = none ∧ len = 0 ∧ cap = 0) ∨
  ∃ x, a = some x ∧ len ≤ cap ∧ cap ≤ maxLen ∧ ∀ i, i < len → ∃ d : Dd, d.Fits w ∧ ∀ j v, (cd d)[j]? = some v → w.cell? ((x.add (i * 3)).add j) = some v
theorem deeds_open {fuel : Nat} {a : Option Addr} {len cap : Nat} {x : DataW H × List MemPlace}
    (h : DataW.trod enc Try.prog w base (fun _ => true) held fuel 23 [.slice a len cap] = some x) : DeedRow w a len cap := by
  rcases open_slice Try.underlying23 h with ⟨hcs, _⟩ | ⟨y, l, c, m, n, D, Pl, hcs, _, hl, hm, hmm, _, hi⟩
  · simp at hcs
    obtain ⟨rfl, rfl, rfl⟩ := hcs
    exact .inl ⟨rfl, rfl, rfl⟩
  · simp at hcs
    obtain ⟨rfl, rfl, rfl⟩ := hcs
    refine .inr ⟨_, rfl, hl, hm, fun i h1 => ?_⟩
    obtain ⟨cs', hc, ht⟩ := hi i (by rw [hmm]; simp; omega)
    rw [cells_deed] at hc
    obtain ⟨d, rfl, hd⟩ := deed_open ht
    obtain ⟨_, hcl, hat⟩ := World.cells?_some hc
    refine ⟨d, hd, fun j v hj => ?_⟩
    have hj8 : j < 3 := by
      have := (List.getElem?_eq_some_iff.1 hj).1
      exact this
    rw [hat j hj8, hj]
theorem DeedRow.at_ {a : Option Addr} {len cap : Nat} (h : DeedRow w a len cap) (hp : 0 < len) :
    ∃ b off, a = some ⟨b, off, none⟩ ∧ b < w.heap.size ∧ ∀ i, i < len → ∃ t : Dd, t.Fits w ∧ ∀ j v, (cd t)[j]? = some v → w.cell? ⟨b, off + i * 3 + j, none⟩ = some v := by
  rcases h with ⟨_, h0, _⟩ | ⟨x, rfl, hl, hm, hc⟩
  · omega
  · obtain ⟨d, _, h0⟩ := hc 0 hp
    have h0 := h0 0 _ rfl
    obtain ⟨b, off, spot⟩ := x
    have hs : spot = none := by simpa [Addr.add] using World.cell?_spot h0
    subst hs
    refine ⟨b, off, rfl, by simpa [Addr.add] using World.block_lt_of_cell? _ _ h0, fun i hi => ?_⟩
    obtain ⟨d, hd, h1⟩ := hc i hi
    refine ⟨d, hd, fun j v hj => ?_⟩
    have h2 := h1 j v hj
    rw [add_at, add_at] at h2
    exact h2
theorem DeedRow.len {a : Option Addr} {len cap : Nat} (h : DeedRow w a len cap) : len ≤ 9223372036854775807 := by
  rcases h with ⟨_, h0, _⟩ | ⟨x, rfl, hl, hm, hc⟩
  · omega
  · unfold maxLen at hm; omega
end
end Go.Proofs.Ytheipflmkjiimaa
