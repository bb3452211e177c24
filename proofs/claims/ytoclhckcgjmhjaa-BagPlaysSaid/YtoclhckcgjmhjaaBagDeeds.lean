/- A slice of deeds that came in, opened to its cells; the law's own small calls: ref, item. -/
import Derived.Test.YtoclhckcgjmhjaaBagPair
import Derived.Deep.Slices
import Derived.ChangeSame
import Derived.ChangeOld
namespace Go.Proofs.Ytoclhckcgjmhjaa
open Go.Sort Go.RowKit Go.BigFrame Go.ChangeShapes Go.WideShapes Go.Deep
set_option linter.unusedVariables false
set_option linter.unusedSimpArgs false

structure Deed10 where
  k : Int
  x : Pi
  pick : Int
  now : Int
  near : Bool
def Deed10.cells (d : Deed10) : List Value := [.int .u8 d.k, .int .u32 d.x.fi, .int .u16 d.x.fp, .int .u32 d.x.ti, .int .u16 d.x.tp, .string d.x.b, .int .u64 d.x.t, .int .i64 d.pick, .int .u64 d.now, .bool d.near]
structure Deed10.Fits (d : Deed10) : Prop where
  k : (Lit.int .u8 d.k).wf = true
  b : d.x.b.size ≤ maxLen
  t : (Lit.int .u64 d.x.t).wf = true
  pick : (Lit.int .i64 d.pick).wf = true
  now : (Lit.int .u64 d.now).wf = true
section
variable {H : Type} {enc : TypeId × Value → H} {w : World} {base : Nat} {spare : Nat → Bool} {held : Bool}
theorem cells_u8 : Try.prog.cellsOf 5 = 1 := by kernel_rfl
theorem cells_u64 : Try.prog.cellsOf 25 = 1 := by kernel_rfl
theorem cells_u32 : Try.prog.cellsOf 24 = 1 := by kernel_rfl
theorem cells_u16 : Try.prog.cellsOf 36 = 1 := by kernel_rfl
theorem cells_int : Try.prog.cellsOf 3 = 1 := by kernel_rfl
theorem cells_bool : Try.prog.cellsOf 4 = 1 := by kernel_rfl
theorem cells_string : Try.prog.cellsOf 9 = 1 := by kernel_rfl
theorem cells_addr : Try.prog.cellsOf 38 = 2 := by kernel_rfl
theorem cells_item : Try.prog.cellsOf 62 = 6 := by kernel_rfl
theorem cells_deed : Try.prog.cellsOf 64 = 10 := by kernel_rfl
set_option maxRecDepth 100000 in
theorem addr_open {n : Nat} {c0 c1 : Value} {x : DataW H × List MemPlace} (h : DataW.trod enc Try.prog w base spare held n 38 [c0, c1] = some x) : ∃ a b : Int, c0 = .int .u32 a ∧ c1 = .int .u16 b := by
  obtain ⟨u0, u1, m2, _, _, a0', a1'⟩ := trod_struct2 Try.underlying38 h
  have a0 : DataW.trod enc Try.prog w base spare held m2 24 ((([c0, c1]).drop 0).take (Try.prog.cellsOf 24)) = some u0 := a0'
  have a1 : DataW.trod enc Try.prog w base spare held m2 36 ((([c0, c1]).drop 1).take (Try.prog.cellsOf 36)) = some u1 := a1'
  rw [cells_u32] at a0
  rw [cells_u16] at a1
  obtain ⟨z5, e5, _, w5⟩ := DataW.trod_int Try.underlying24 a0
  obtain ⟨z6, e6, _, w6⟩ := DataW.trod_int Try.underlying36 a1
  simp at e5 e6
  exact ⟨z5, z6, e5, e6⟩
set_option maxRecDepth 100000 in
theorem item_open {n : Nat} {cs : List Value} {x : DataW H × List MemPlace} (h : DataW.trod enc Try.prog w base spare held n 62 cs = some x) : ∃ y : Pi, cs = ci y ∧ y.b.size ≤ maxLen ∧ (Lit.int .u64 y.t).wf = true := by
  obtain ⟨ys, m, _, _, hl, hyl, hf⟩ := DataW.trod_struct Try.underlying62 h
  have hl8 : cs.length = 6 := hl.trans cells_item
  clear hl
  match cs, hl8 with
  | [c0, c1, c2, c3, c4, c5], _ =>
    match ys, hyl with
    | [y0, y1, y2, y3], _ =>
      have g0 : DataW.trod enc Try.prog w base spare held m 38 (([c0, c1, c2, c3, c4, c5].drop 0).take (Try.prog.cellsOf 38)) = some y0 := hf 0 _ rfl
      have g1 : DataW.trod enc Try.prog w base spare held m 38 (([c0, c1, c2, c3, c4, c5].drop 2).take (Try.prog.cellsOf 38)) = some y1 := hf 1 _ rfl
      have g2 : DataW.trod enc Try.prog w base spare held m 9 (([c0, c1, c2, c3, c4, c5].drop 4).take (Try.prog.cellsOf 9)) = some y2 := hf 2 _ rfl
      have g3 : DataW.trod enc Try.prog w base spare held m 25 (([c0, c1, c2, c3, c4, c5].drop 5).take (Try.prog.cellsOf 25)) = some y3 := hf 3 _ rfl
      rw [cells_addr] at g0 g1
      rw [cells_string] at g2
      rw [cells_u64] at g3
      obtain ⟨a, b, rfl, rfl⟩ := addr_open g0
      obtain ⟨a2, b2, rfl, rfl⟩ := addr_open g1
      obtain ⟨s, e4, _, w4⟩ := DataW.trod_string Try.underlying9 g2
      obtain ⟨t, e5, _, w5⟩ := DataW.trod_int Try.underlying25 g3
      simp at e4 e5
      subst e4 e5
      exact ⟨⟨a, b, a2, b2, s, t⟩, rfl, w4, w5⟩
set_option maxRecDepth 100000 in
theorem deed_open {n : Nat} {cs : List Value} {x : DataW H × List MemPlace} (h : DataW.trod enc Try.prog w base spare held n 64 cs = some x) : ∃ d : Deed10, cs = d.cells ∧ d.Fits := by
  obtain ⟨ys, m, _, _, hl, hyl, hf⟩ := DataW.trod_struct Try.underlying64 h
  have hl8 : cs.length = 10 := hl.trans cells_deed
  clear hl
  match cs, hl8 with
  | [c0, c1, c2, c3, c4, c5, c6, c7, c8, c9], _ =>
    match ys, hyl with
    | [y0, y1, y2, y3, y4], _ =>
      have g0 : DataW.trod enc Try.prog w base spare held m 5 (([c0, c1, c2, c3, c4, c5, c6, c7, c8, c9].drop 0).take (Try.prog.cellsOf 5)) = some y0 := hf 0 _ rfl
      have g1 : DataW.trod enc Try.prog w base spare held m 62 (([c0, c1, c2, c3, c4, c5, c6, c7, c8, c9].drop 1).take (Try.prog.cellsOf 62)) = some y1 := hf 1 _ rfl
      have g2 : DataW.trod enc Try.prog w base spare held m 3 (([c0, c1, c2, c3, c4, c5, c6, c7, c8, c9].drop 7).take (Try.prog.cellsOf 3)) = some y2 := hf 2 _ rfl
      have g3 : DataW.trod enc Try.prog w base spare held m 25 (([c0, c1, c2, c3, c4, c5, c6, c7, c8, c9].drop 8).take (Try.prog.cellsOf 25)) = some y3 := hf 3 _ rfl
      have g4 : DataW.trod enc Try.prog w base spare held m 4 (([c0, c1, c2, c3, c4, c5, c6, c7, c8, c9].drop 9).take (Try.prog.cellsOf 4)) = some y4 := hf 4 _ rfl
      rw [cells_u8] at g0
      rw [cells_item] at g1
      rw [cells_int] at g2
      rw [cells_u64] at g3
      rw [cells_bool] at g4
      obtain ⟨z0, e0, _, w0⟩ := DataW.trod_int Try.underlying5 g0
      obtain ⟨y, e1, wb, wt⟩ := item_open g1
      obtain ⟨z2, e2, _, w2⟩ := DataW.trod_int Try.underlying3 g2
      obtain ⟨z3, e3, _, w3⟩ := DataW.trod_int Try.underlying25 g3
      obtain ⟨z4, e4, _⟩ := DataW.trod_bool Try.underlying4 g4
      simp [ci] at e0 e1 e2 e3 e4
      obtain ⟨q1, q2, q3, q4, q5, q6⟩ := e1
      subst e0 e2 e3 e4 q1 q2 q3 q4 q5 q6
      exact ⟨⟨z0, y, z2, z3, z4⟩, rfl, ⟨w0, wb, wt, w2, w3⟩⟩
end
/-- the deeds lie there -/
def DeedRow (w : World) (a : Option Addr) (len cap : Nat) : Prop :=
  (a = none ∧ len = 0 ∧ cap = 0) ∨
  ∃ x, a = some x ∧ len ≤ cap ∧ cap ≤ maxLen ∧ ∀ i, i < len → ∃ d : Deed10, d.Fits ∧ ∀ j v, d.cells[j]? = some v → w.cell? ((x.add (i * 10)).add j) = some v
theorem deeds_open {H : Type} {enc : TypeId × Value → H} {w : World} {base fuel : Nat} {held : Bool} {a : Option Addr} {len cap : Nat} {x : DataW H × List MemPlace}
    (h : DataW.trod enc Try.prog w base (fun _ => true) held fuel 55 [.slice a len cap] = some x) : DeedRow w a len cap := by
  rcases open_slice Try.underlying55 h with ⟨hcs, _⟩ | ⟨y, l, c, m, n, D, Pl, hcs, _, hl, hm, hmm, _, hi⟩
  · simp at hcs
    obtain ⟨rfl, rfl, rfl⟩ := hcs
    exact .inl ⟨rfl, rfl, rfl⟩
  · simp at hcs
    obtain ⟨rfl, rfl, rfl⟩ := hcs
    refine .inr ⟨_, rfl, hl, hm, fun i h1 => ?_⟩
    obtain ⟨cs', hc, ht⟩ := hi i (by rw [hmm]; simp; omega)
    rw [cells_deed] at hc
    obtain ⟨d, rfl, hd⟩ := deed_open ht
    obtain ⟨_, hcl, hat⟩ := World.cells?_some hc
    refine ⟨d, hd, fun j v hj => ?_⟩
    have hj8 : j < 10 := by
      have := (List.getElem?_eq_some_iff.1 hj).1
      exact this
    rw [hat j hj8, hj]
theorem DeedRow.at_ {w : World} {a : Option Addr} {len cap : Nat} (h : DeedRow w a len cap) (hp : 0 < len) :
    ∃ b off, a = some ⟨b, off, none⟩ ∧ b < w.heap.size ∧ ∀ i, i < len → ∃ d : Deed10, d.Fits ∧ ∀ j v, d.cells[j]? = some v → w.cell? ⟨b, off + i * 10 + j, none⟩ = some v := by
  rcases h with ⟨_, h0, _⟩ | ⟨x, rfl, hl, hm, hc⟩
  · omega
  · obtain ⟨d, _, h0⟩ := hc 0 hp
    have h0 := h0 0 _ rfl
    obtain ⟨b, off, spot⟩ := x
    have hs : spot = none := by simpa [Addr.add] using World.cell?_spot h0
    subst hs
    refine ⟨b, off, rfl, by simpa [Addr.add] using World.block_lt_of_cell? _ _ h0, fun i hi => ?_⟩
    obtain ⟨d, hd, h1⟩ := hc i hi
    refine ⟨d, hd, fun j v hj => ?_⟩
    have h2 := h1 j v hj
    rw [add_at, add_at] at h2
    exact h2
theorem DeedRow.len {w : World} {a : Option Addr} {len cap : Nat} (h : DeedRow w a len cap) : len ≤ 9223372036854775807 := by
  rcases h with ⟨_, h0, _⟩ | ⟨x, rfl, hl, hm, hc⟩
  · omega
  · unfold maxLen at hm; omega
theorem ref_any (x1 x2 x3 x4 : Int) (x5 : ByteArray) (x6 : Int) (w : World) : Calls Try.prog 25 #[.agg #[.int .u32 x1, .int .u16 x2, .int .u32 x3, .int .u16 x4, .string x5, .int .u64 x6]] w fun e w' => e = .returned (.agg #[.int .u32 x1, .int .u16 x2, .int .u32 x3, .int .u16 x4, .string x5, .int .u64 x6]) ∧ Below w.heap.size w w' := by
  have hB := Below.refl w.heap.size w
  go_enter Try.func25, Try.ntmps25
  go_wp2
  refine bodyPost_ret (v := .agg #[.int .u32 x1, .int .u16 x2, .int .u32 x3, .int .u16 x4, .string x5, .int .u64 x6]) (by simp [results, Try.results25, go_sem]) rfl ⟨rfl, ?_⟩
  (have zzh := Below.size hB; repeat (first | with_reducible exact hB | with_reducible refine Below.setCell ?_ (by first | omega | (simp; done) | (simp; omega)) _ | with_reducible refine Below.alloc ?_ (by first | omega | (simp; done) | (simp; omega)) _ | with_reducible refine Below.drew ?_))
/-- the item that a deed puts -/
def itemP (d : Deed10) : Pi := if d.near then ⟨1, 1, 2, 2, (⟨#[109]⟩ : ByteArray) ++ d.x.b.extract 0 (min d.x.b.size 9), d.x.t % 9⟩ else d.x
def itV (k fi fp ti tp : Int) (b : ByteArray) (t pick now : Int) (near : Bool) (x : Pi) (w : World) (e : Ending) (w' : World) : Prop := e = .returned (.agg #[.int .u32 x.fi, .int .u16 x.fp, .int .u32 x.ti, .int .u16 x.tp, .string x.b, .int .u64 x.t]) ∧ Below w.heap.size w w'
theorem item_any (k fi fp ti tp : Int) (b : ByteArray) (t pick now : Int) (near : Bool) (hb : b.size ≤ 9223372036854775807) (ht : 0 ≤ t) (x : Pi) (hx : itemP ⟨k, ⟨fi, fp, ti, tp, b, t⟩, pick, now, near⟩ = x) (w : World) :
    Calls Try.prog 33 #[.agg #[.int .u8 k, .int .u32 fi, .int .u16 fp, .int .u32 ti, .int .u16 tp, .string b, .int .u64 t, .int .i64 pick, .int .u64 now, .bool near]] w (itV k fi fp ti tp b t pick now near x w) := by
  have hB := Below.refl w.heap.size w
  subst hx
  unfold itV
  cases near
  · show Calls _ _ _ _ fun e w' => e = .returned (.agg #[.int .u32 fi, .int .u16 fp, .int .u32 ti, .int .u16 tp, .string b, .int .u64 t]) ∧ Below w.heap.size w w'
    go_enter Try.func33, Try.ntmps33
    go_wp2
    refine bodyPost_ret (v := .agg #[.int .u32 fi, .int .u16 fp, .int .u32 ti, .int .u16 tp, .string b, .int .u64 t]) (by simp [results, Try.results33, go_sem]) rfl ⟨rfl, ?_⟩
    (have zzh := Below.size hB; repeat (first | with_reducible exact hB | with_reducible refine Below.setCell ?_ (by first | omega | (simp; done) | (simp; omega)) _ | with_reducible refine Below.alloc ?_ (by first | omega | (simp; done) | (simp; omega)) _ | with_reducible refine Below.drew ?_))
  · obtain ⟨s, hs⟩ : ∃ s, (⟨#[109]⟩ : ByteArray) ++ b.extract 0 (min b.size 9) = s := ⟨_, rfl⟩
    have hm := tmod_pos t 9 ht
    obtain ⟨n, hn⟩ : ∃ n : Nat, min b.size 9 = n := ⟨_, rfl⟩
    have hmin : min (b.size : Int) 9 = (n : Int) := by omega
    have hnb : n ≤ b.size := by omega
    rw [hn] at hs
    show Calls _ _ _ _ fun e w' => e = .returned (.agg #[.int .u32 1, .int .u16 1, .int .u32 2, .int .u16 2, .string ((⟨#[109]⟩ : ByteArray) ++ b.extract 0 (min b.size 9)), .int .u64 (t % 9)]) ∧ Below w.heap.size w w'
    rw [hn, hs]
    go_enter Try.func33, Try.ntmps33
    go_wp2_with fail
    go_region
    go_wp2
    refine bodyPost_ret (v := .agg #[.int .u32 1, .int .u16 1, .int .u32 2, .int .u16 2, .string s, .int .u64 (t % 9)]) (by simp [results, Try.results33, go_sem, *]) rfl ⟨rfl, ?_⟩
    (have zzh := Below.size hB; repeat (first | with_reducible exact hB | with_reducible refine Below.setCell ?_ (by first | omega | (simp; done) | (simp; omega)) _ | with_reducible refine Below.alloc ?_ (by first | omega | (simp; done) | (simp; omega)) _ | with_reducible refine Below.drew ?_))
end Go.Proofs.Ytoclhckcgjmhjaa
