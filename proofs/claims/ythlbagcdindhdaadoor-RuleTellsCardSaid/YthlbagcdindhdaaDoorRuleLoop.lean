/- The law's loop: a slice of addresses that grows; what the world holds in it. -/
import Derived.Test.YthlbagcdindhdaaDoorRuleLaid
import Derived.Deep.AppendLies
import Derived.Deep.OwnRows
namespace Go.Proofs.YthlbagcdindhdaaDoor
open Go.Sort Go.RowKit Go.BigFrame
set_option linter.unusedVariables false
set_option linter.unusedSimpArgs false

theorem grow_of {w w' : World} (h : Below w.heap.size w w') : w.grownBy w' none := ⟨h.os, h.tape, h.output, h.size, fun k hk _ => h.block k hk⟩
theorem own_below {w w' : World} {base : Nat} {e : TypeId} {size : Nat} {v : Value} {n : Nat} {xs : List Value} (h : w.ownsRow base e size v n xs) (hb : Below w.heap.size w w') : w'.ownsRow base e size v n xs :=
  h.kept (grow_of hb) (by cases h : v.ownBlock with | none => exact .inl rfl | some k => exact .inr (by simp))
theorem Cs.grown {g : Nat} {vs : List Value} {w w' : World} {row : Option Nat} (h : Cs g vs w) (hg : w.grownBy w' row) (hne : some g ≠ row) : Cs g vs w' :=
  ⟨fun i v hv => (hg.cell_far ⟨g, i, none⟩ h.lt hne).trans (h.cell i v hv), fun i v hv => (hg.frozen_far ⟨g, i, none⟩ h.lt hne).trans (h.free i v hv), Nat.lt_of_lt_of_le h.lt hg.size⟩
theorem info_raddr : (Tryd.prog.info? 32).map (fun i => (i.zero, i.size, i.bytes)) = some (some (.agg #[.int .u32 0, .int .u16 0]), 2, 8) := by kernel_rfl
/-- the cells of a list of addresses -/
def flat : List (Int × Int) → List Value
  | [] => []
  | a :: r => .int .u32 a.1 :: .int .u16 a.2 :: flat r
theorem flat_append (a b : List (Int × Int)) : flat (a ++ b) = flat a ++ flat b := by
  induction a with
  | nil => rfl
  | cons x r ih => simp [flat, ih]
theorem flat_take {l : List (Int × Int)} {j : Nat} (h : j < l.length) : flat (l.take (j + 1)) = flat (l.take j) ++ [.int .u32 l[j].1, .int .u16 l[j].2] := by
  rw [List.take_succ_eq_append_getElem h, flat_append]; rfl
theorem flat_at (l : List (Int × Int)) (i : Nat) (h : i < l.length) : (flat l)[i * 2]? = some (.int .u32 l[i].1) ∧ (flat l)[i * 2 + 1]? = some (.int .u16 l[i].2) := by
  induction l generalizing i with
  | nil => exact absurd h (by simp)
  | cons x r ih =>
    cases i with
    | zero => exact ⟨rfl, rfl⟩
    | succ i =>
      have h2 : i < r.length := by simpa using h
      have e : (i + 1) * 2 = i * 2 + 2 := by omega
      rw [e]
      simp only [flat, List.getElem?_cons_succ, List.getElem_cons_succ]
      exact ih i h2
/-- three boxes: two types, an address -/
structure Bx (gx gy gs : Nat) (m f n g p q : Int) (w : World) : Prop where
  x : Cs gx [.int .i64 m, .int .i64 f] w
  y : Cs gy [.int .i64 n, .int .i64 g] w
  s : Cs gs [.int .u32 p, .int .u16 q] w
theorem Bx.keep {gx gy gs : Nat} {m f n g p q : Int} {w w' : World} (h : Bx gx gy gs m f n g p q w) (hb : Below w.heap.size w w') : Bx gx gy gs m f n g p q w' := ⟨h.x.keep hb, h.y.keep hb, h.s.keep hb⟩
theorem Bx.alloc {gx gy gs : Nat} {m f n g p q : Int} {w : World} (h : Bx gx gy gs m f n g p q w) (o : Obj) : Bx gx gy gs m f n g p q (w.alloc o) := h.keep ((Below.refl _ _).alloc (Nat.le_refl _) o)
/-- what the world holds in the loop: five boxes below block B, a row of the law's own from B on -/
structure St (gx gy gs gp gq B : Nat) (m f n g p q : Int) (l : List (Int × Int)) (v : Value) (j : Nat) (w : World) : Prop where
  b : Bx gx gy gs m f n g p q w
  p : Cs gp [.int .i64 m, .int .i64 f] w
  q : Cs gq [.int .i64 n, .int .i64 g] w
  own : w.ownsRow B 32 2 v j (flat (l.take j))
  sz : B ≤ w.heap.size
  lx : gx < B
  ly : gy < B
  ls : gs < B
  lp : gp < B
  lq : gq < B
section
variable {gx gy gs gp gq B : Nat} {m f n g p q : Int} {l : List (Int × Int)} {v : Value} {j : Nat} {w w' : World}
theorem St.keep (h : St gx gy gs gp gq B m f n g p q l v j w) (hb : Below w.heap.size w w') : St gx gy gs gp gq B m f n g p q l v j w' :=
  ⟨h.b.keep hb, h.p.keep hb, h.q.keep hb, own_below h.own hb, Nat.le_trans h.sz hb.size, h.lx, h.ly, h.ls, h.lp, h.lq⟩
theorem St.alloc (h : St gx gy gs gp gq B m f n g p q l v j w) (o : Obj) : St gx gy gs gp gq B m f n g p q l v j (w.alloc o) := h.keep ((Below.refl _ _).alloc (Nat.le_refl _) o)
theorem St.row (h : St gx gy gs gp gq B m f n g p q l v j w) : ∀ k, v.ownBlock = some k → B ≤ k := fun k hk => (h.own.lt k hk).1
theorem St.step (h : St gx gy gs gp gq B m f n g p q l v j w) (hj : j < l.length) {v' : Value} (hg : w.grownBy w' v.ownBlock) (hown : w'.ownsRow B 32 2 v' (j + 1) (flat (l.take j) ++ [.int .u32 l[j].1, .int .u16 l[j].2])) :
    St gx gy gs gp gq B m f n g p q l v' (j + 1) w' := by
  have far : ∀ y, y < B → some y ≠ v.ownBlock := fun y hy e => by have := h.row y e.symm; omega
  rw [← flat_take hj] at hown
  exact ⟨⟨h.b.x.grown hg (far _ h.lx), h.b.y.grown hg (far _ h.ly), h.b.s.grown hg (far _ h.ls)⟩, h.p.grown hg (far _ h.lp), h.q.grown hg (far _ h.lq), hown, Nat.le_trans h.sz hg.size, h.lx, h.ly, h.ls, h.lp, h.lq⟩
/-- the row, as it is read -/
theorem own_RdA (h : w.ownsRow B 32 2 v l.length (flat l)) : ∃ A cap, v = .slice A l.length cap ∧ RdA w w.heap.size A l := by
  rcases h.2 with ⟨rfl, h0⟩ | ⟨g, cap, cur, rfl, hB, hg, h1, h2, h3, h4⟩
  · rw [h0]
    exact ⟨none, 0, rfl, fun hp => by omega⟩
  · refine ⟨_, _, rfl, fun hp => ⟨g, 0, rfl, ?_, fun i hi => ?_⟩⟩
    · rcases Nat.lt_or_ge g w.heap.size with h1 | h1
      · exact h1
      · rw [Array.getElem?_eq_none h1] at hg; cases hg
    · have e := flat_at l i hi
      simp only [Nat.zero_add]
      rw [World.ownsRow.cellAt h (i * 2) (by omega), World.ownsRow.cellAt h (i * 2 + 1) (by omega)]
      exact e
end
theorem st_start {gx gy gs : Nat} {m f n g p q : Int} {w : World} (hb : Bx gx gy gs m f n g p q w) (l : List (Int × Int)) : St gx gy gs w.heap.size (w.heap.size + 1) (w.heap.size + 1 + 1) m f n g p q l (.slice none 0 0) 0
    ((w.alloc (.cells #[.int .i64 m, .int .i64 f] 30)).alloc (.cells #[.int .i64 n, .int .i64 g] 30)) := by
  have e1 : (w.alloc (.cells #[.int .i64 m, .int .i64 f] 30)).heap.size = w.heap.size + 1 := World.size_alloc _ _
  have a := Cs.new w [.int .i64 m, .int .i64 f] 30
  have b := Cs.new (w.alloc (.cells #[.int .i64 m, .int .i64 f] 30)) [.int .i64 n, .int .i64 g] 30
  rw [e1] at b
  have := hb.x.lt
  have := hb.y.lt
  have := hb.s.lt
  exact ⟨(hb.alloc _).alloc _, a.alloc _, b, World.ownsRow_nil _ _ _ _, by rw [World.size_alloc, e1]; omega, by omega, by omega, by omega, by omega, by omega⟩
end Go.Proofs.YthlbagcdindhdaaDoor
