/- The law's loop: two slices of records that grow, each in its own row. -/
import Derived.Test.YtmhlnlippfaclaaDoorWireThing
namespace Go.Proofs.YtmhlnlippfaclaaDoor
open Go.Sort Go.RowKit Go.BigFrame
set_option linter.unusedVariables false
set_option linter.unusedSimpArgs false

theorem grow_of {w w' : World} (h : Below w.heap.size w w') : w.grownBy w' none := ⟨h.os, h.tape, h.output, h.size, fun k hk _ => h.block k hk⟩
theorem own_below {w w' : World} {base : Nat} {e : TypeId} {size : Nat} {v : Value} {n : Nat} {xs : List Value} (h : w.ownsRow base e size v n xs) (hb : Below w.heap.size w w') : w'.ownsRow base e size v n xs :=
  h.kept (grow_of hb) (by cases h : v.ownBlock with | none => exact .inl rfl | some k => exact .inr (by simp))
theorem Cs.grown {g : Nat} {vs : List Value} {w w' : World} {row : Option Nat} (h : Cs g vs w) (hg : w.grownBy w' row) (hne : some g ≠ row) : Cs g vs w' :=
  ⟨fun i v hv => (hg.cell_far ⟨g, i, none⟩ h.lt hne).trans (h.cell i v hv), fun i v hv => (hg.frozen_far ⟨g, i, none⟩ h.lt hne).trans (h.free i v hv), Nat.lt_of_lt_of_le h.lt hg.size⟩
/-- a box of a datagram, but for its news -/
def boxL (k f n : Int) (v : Value) : List Value := [.int .i64 k, .int .i64 f, .int .u32 0, .int .i64 n, .int .u32 0, .int .u16 0, .complex .f64 0 0, .bool false, .string ⟨#[]⟩, v]
/-- the cells of n times the same record -/
def reps (R : Rec) (n : Nat) : List Value := (List.replicate n (rcs R)).flatten
theorem reps_succ (R : Rec) (n : Nat) : reps R (n + 1) = reps R n ++ rcs R := by simp [reps, List.replicate_succ']
/-- what the world holds in the loop: four boxes below block B, two rows of the law's own from B on -/
structure St (gx : Nat) (X : List Value) (ga : Nat) (A : List Value) (gb gc B : Nat) (R : Rec) (vb : Value) (jb : Nat) (vc : Value) (jc : Nat) (w : World) : Prop where
  x : Cs gx X w
  a : Cs ga A w
  b : Cs gb (boxL 1 1 2 vb) w
  c : Cs gc (boxL 15 1 0 vc) w
  ob : w.ownsRow B 27 5 vb jb (reps R jb)
  oc : w.ownsRow B 27 5 vc jc (reps R jc)
  ne : ∀ k, vb.ownBlock = some k → vc.ownBlock = some k → False
  sz : B ≤ w.heap.size
  lx : gx < B
  la : ga < B
  lb : gb < B
  lc : gc < B
  xb : gx ≠ gb
  ab : ga ≠ gb
  cb : gc ≠ gb
  xc : gx ≠ gc
  ac : ga ≠ gc
section
variable {gx : Nat} {X : List Value} {ga : Nat} {A : List Value} {gb gc B : Nat} {R : Rec} {vb : Value} {jb : Nat} {vc : Value} {jc : Nat} {w w' : World}
theorem St.keep (h : St gx X ga A gb gc B R vb jb vc jc w) (hb : Below w.heap.size w w') : St gx X ga A gb gc B R vb jb vc jc w' :=
  ⟨h.x.keep hb, h.a.keep hb, h.b.keep hb, h.c.keep hb, own_below h.ob hb, own_below h.oc hb, h.ne, Nat.le_trans h.sz hb.size, h.lx, h.la, h.lb, h.lc, h.xb, h.ab, h.cb, h.xc, h.ac⟩
theorem St.alloc (h : St gx X ga A gb gc B R vb jb vc jc w) (o : Obj) : St gx X ga A gb gc B R vb jb vc jc (w.alloc o) := h.keep ((Below.refl _ _).alloc (Nat.le_refl _) o)
theorem St.drew (h : St gx X ga A gb gc B R vb jb vc jc w) : St gx X ga A gb gc B R vb jb vc jc w.drew := h.keep ((Below.refl _ _).drew)
/-- behind the append to b, and the store of its new value -/
theorem St.stepB (h : St gx X ga A gb gc B R vb jb vc jc w) {g cap : Nat} (hg : w.grownBy w' vb.ownBlock) (hown : w'.ownsRow B 27 5 (.slice (some ⟨g, 0, none⟩) (jb + 1) cap) (jb + 1) (reps R jb ++ rcs R))
    (hat : vb.ownBlock = some g ∨ g = w.heap.size) : St gx X ga A gb gc B R (.slice (some ⟨g, 0, none⟩) (jb + 1) cap) (jb + 1) vc jc (w'.setCell ⟨gb, 9, none⟩ (.slice (some ⟨g, 0, none⟩) (jb + 1) cap)) := by
  have hlo : ∀ k, vb.ownBlock = some k → B ≤ k := fun k hk => (h.ob.lt k hk).1
  have far : ∀ y, y < B → some y ≠ vb.ownBlock := fun y hy e => by have := hlo y e.symm; omega
  have hoc : w'.ownsRow B 27 5 vc jc (reps R jc) := h.oc.kept hg (by
    cases hv : vc.ownBlock with
    | none => exact .inl rfl
    | some k => exact .inr (fun e => h.ne k e.symm hv))
  rw [← reps_succ] at hown
  have set := (h.b.grown hg (far gb h.lb)).set 9 (.slice (some ⟨g, 0, none⟩) (jb + 1) cap) (by simp [boxL])
  refine ⟨(h.x.grown hg (far gx h.lx)).far _ _ (by simpa using h.xb.symm), (h.a.grown hg (far ga h.la)).far _ _ (by simpa using h.ab.symm), set, (h.c.grown hg (far gc h.lc)).far _ _ (by simpa using h.cb.symm), ?_, ?_, ?_, ?_, h.lx, h.la, h.lb, h.lc, h.xb, h.ab, h.cb, h.xc, h.ac⟩
  · exact ownsRow_setCell_below hown (a := ⟨gb, 9, none⟩) h.lb _
  · exact ownsRow_setCell_below hoc (a := ⟨gb, 9, none⟩) h.lb _
  · intro k h1 h2
    have h1 : some g = some k := h1
    injection h1 with h1
    subst h1
    rcases hat with h3 | h3
    · exact h.ne g h3 h2
    · have := (h.oc.lt g h2).2; omega
  · have := hg.size; have := h.sz; simp [World.setCell]; omega
/-- the same of c -/
theorem St.stepC (h : St gx X ga A gb gc B R vb jb vc jc w) {g cap : Nat} (hg : w.grownBy w' vc.ownBlock) (hown : w'.ownsRow B 27 5 (.slice (some ⟨g, 0, none⟩) (jc + 1) cap) (jc + 1) (reps R jc ++ rcs R))
    (hat : vc.ownBlock = some g ∨ g = w.heap.size) : St gx X ga A gb gc B R vb jb (.slice (some ⟨g, 0, none⟩) (jc + 1) cap) (jc + 1) (w'.setCell ⟨gc, 9, none⟩ (.slice (some ⟨g, 0, none⟩) (jc + 1) cap)) := by
  have hlo : ∀ k, vc.ownBlock = some k → B ≤ k := fun k hk => (h.oc.lt k hk).1
  have far : ∀ y, y < B → some y ≠ vc.ownBlock := fun y hy e => by have := hlo y e.symm; omega
  have hob : w'.ownsRow B 27 5 vb jb (reps R jb) := h.ob.kept hg (by
    cases hv : vb.ownBlock with
    | none => exact .inl rfl
    | some k => exact .inr (fun e => h.ne k hv e.symm))
  rw [← reps_succ] at hown
  have set := (h.c.grown hg (far gc h.lc)).set 9 (.slice (some ⟨g, 0, none⟩) (jc + 1) cap) (by simp [boxL])
  refine ⟨(h.x.grown hg (far gx h.lx)).far _ _ (by simpa using h.xc.symm), (h.a.grown hg (far ga h.la)).far _ _ (by simpa using h.ac.symm), (h.b.grown hg (far gb h.lb)).far _ _ (by simpa using h.cb), set, ?_, ?_, ?_, ?_, h.lx, h.la, h.lb, h.lc, h.xb, h.ab, h.cb, h.xc, h.ac⟩
  · exact ownsRow_setCell_below hob (a := ⟨gc, 9, none⟩) h.lc _
  · exact ownsRow_setCell_below hown (a := ⟨gc, 9, none⟩) h.lc _
  · intro k h1 h2
    have h2 : some g = some k := h2
    injection h2 with h2
    subst h2
    rcases hat with h3 | h3
    · exact h.ne g h1 h3
    · have := (h.ob.lt g h1).2; omega
  · have := hg.size; have := h.sz; simp [World.setCell]; omega
theorem St.farB (h : St gx X ga A gb gc B R vb jb vc jc w) (hg : w.grownBy w' vb.ownBlock) : Cs gb (boxL 1 1 2 vb) w' := h.b.grown hg (fun e => by have := (h.ob.lt gb e.symm).1; have := h.lb; omega)
theorem St.farC (h : St gx X ga A gb gc B R vb jb vc jc w) (hg : w.grownBy w' vc.ownBlock) : Cs gc (boxL 15 1 0 vc) w' := h.c.grown hg (fun e => by have := (h.oc.lt gc e.symm).1; have := h.lc; omega)
theorem St.rowB (h : St gx X ga A gb gc B R vb jb vc jc w) : ∀ k, vb.ownBlock = some k → B ≤ k := fun k hk => (h.ob.lt k hk).1
theorem St.rowC (h : St gx X ga A gb gc B R vb jb vc jc w) : ∀ k, vc.ownBlock = some k → B ≤ k := fun k hk => (h.oc.lt k hk).1
theorem st_start (hx : Cs gx X w) (r : Obj) (A : List Value) (R : Rec) : St gx X (w.heap.size + 1) A (w.heap.size + 1 + 1) (w.heap.size + 1 + 1 + 1) (w.heap.size + 1 + 1 + 1 + 1) R (.slice none 0 0) 0 (.slice none 0 0) 0
    ((((w.alloc r).alloc (.cells A.toArray 35)).alloc (.cells (boxL 1 1 2 (.slice none 0 0)).toArray 35)).alloc (.cells (boxL 15 1 0 (.slice none 0 0)).toArray 35)) := by
  have hl := hx.lt
  have e1 : (w.alloc r).heap.size = w.heap.size + 1 := World.size_alloc _ _
  have a := Cs.new (w.alloc r) A 35
  rw [e1] at a
  have e2 : ((w.alloc r).alloc (.cells A.toArray 35)).heap.size = w.heap.size + 1 + 1 := by rw [World.size_alloc, e1]
  have b := Cs.new ((w.alloc r).alloc (.cells A.toArray 35)) (boxL 1 1 2 (.slice none 0 0)) 35
  rw [e2] at b
  have e3 : (((w.alloc r).alloc (.cells A.toArray 35)).alloc (.cells (boxL 1 1 2 (.slice none 0 0)).toArray 35)).heap.size = w.heap.size + 1 + 1 + 1 := by rw [World.size_alloc, e2]
  have c := Cs.new (((w.alloc r).alloc (.cells A.toArray 35)).alloc (.cells (boxL 1 1 2 (.slice none 0 0)).toArray 35)) (boxL 15 1 0 (.slice none 0 0)) 35
  rw [e3] at c
  exact ⟨(((hx.alloc _).alloc _).alloc _).alloc _, (a.alloc _).alloc _, b.alloc _, c, World.ownsRow_nil _ _ _ _, World.ownsRow_nil _ _ _ _, (fun k h => by cases h), by rw [World.size_alloc, e3]; omega, by omega, by omega, by omega, by omega, by omega, by omega, by omega, by omega, by omega⟩
/-- Below, over an append to a row of the law's own and a store into one of its boxes -/
theorem below_step {w0 : World} {row : Option Nat} {p : Addr} {u : Value} (h : Below w0.heap.size w0 w) (hg : w.grownBy w' row) (hr : ∀ k, row = some k → w0.heap.size ≤ k) (hp : w0.heap.size ≤ p.block) :
    Below w0.heap.size w0 (w'.setCell p u) := (h.grown hg h.size hr).setCell hp u
/-- the news of b, as they are read -/
theorem own_RdR {v : Value} {n : Nat} (h : w.ownsRow B 27 5 v n (reps R n)) : ∃ A cap, v = .slice A n cap ∧ RdR w w.heap.size A (List.replicate n R) := by
  rcases h.2 with ⟨rfl, rfl⟩ | ⟨g, cap, cur, rfl, hB, hg, h1, h2, h3, h4⟩
  · exact ⟨none, 0, rfl, RdR.nil _ _ _⟩
  · refine ⟨_, _, rfl, fun hp => ⟨g, 0, rfl, ?_, fun i hi => ?_⟩⟩
    · rcases Nat.lt_or_ge g w.heap.size with h1 | h1
      · exact h1
      · rw [Array.getElem?_eq_none h1] at hg; cases hg
    · rw [List.length_replicate] at hi
      have hc : ∀ j, j < 5 → w.cell? ⟨g, i * 5 + j, none⟩ = (rcs R)[j]? := fun j hj => by
        rw [World.ownsRow.cellAt h (i * 5 + j) (by omega)]
        have e : ∀ n, i < n → (reps R n)[i * 5 + j]? = (rcs R)[j]? := by
          intro n
          induction n with
          | zero => intro h; omega
          | succ n ih =>
            intro h
            have hl : (reps R n).length = n * 5 := by simp [reps, rcs, List.length_flatten]
            rw [reps_succ]
            by_cases h2 : i < n
            · rw [List.getElem?_append_left (by omega)]; exact ih h2
            · obtain rfl : i = n := by omega
              rw [List.getElem?_append_right (by omega), hl]; congr 1; omega
        exact e n hi
      rw [List.getElem_replicate]
      simp only [Nat.zero_add]
      exact ⟨hc 0 (by omega), hc 1 (by omega), hc 2 (by omega), hc 3 (by omega), hc 4 (by omega)⟩
end
end Go.Proofs.YtmhlnlippfaclaaDoor
