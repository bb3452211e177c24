/- Contracts of cmp.Or at two ints, of the queue's order: the world grows, and nothing else. -/
import Derived.Test.YthebcaielbnhjaaQuRow
import Derived.Sort.Grow
import Derived.Deep.RegionHeld3
namespace Go.Proofs.Ythebcaielbnhjaa
open Go.Sort Go.RowKit
set_option linter.unusedVariables false
set_option linter.unusedSimpArgs false

/-- draws and new blocks, nothing else -/
structure Grn (w w' : World) : Prop where
  out : ∃ q os, w' = grow (w.drewN q) os
theorem Grn.refl (w : World) : Grn w w := ⟨0, #[], by rw [grow_empty]; rfl⟩
theorem Grn.drew {w w' : World} (h : Grn w w') : Grn w w'.drew := by
  obtain ⟨q, os, rfl⟩ := h.out
  exact ⟨q + 1, os, rfl⟩
theorem Grn.alloc {w w' : World} (h : Grn w w') (o : Obj) : Grn w (w'.alloc o) := by
  obtain ⟨q, os, rfl⟩ := h.out
  exact ⟨q, os ++ #[o], by rw [alloc_eq_grow, grow_grow]⟩
theorem Grn.trans {w w1 w2 : World} (h : Grn w w1) (h2 : Grn w1 w2) : Grn w w2 := by
  obtain ⟨q, os, rfl⟩ := h.out
  obtain ⟨q2, os2, rfl⟩ := h2.out
  exact ⟨q + q2, os ++ os2, by show grow (grow ((w.drewN q).drewN q2) os) os2 = _; rw [grow_grow, World.drewN_drewN]⟩
theorem Grn.below {w w' : World} (h : Grn w w') : Below w.heap.size w w' := by
  obtain ⟨q, os, rfl⟩ := h.out
  exact ⟨rfl, rfl, rfl, by simp [grow], fun k hk => by simp [grow, Array.getElem?_append, hk]⟩
def or2I (a b : Int) : Int := if a ≠ 0 then a else b
theorem or2_any (a b : Int) (g : Nat) (w : World) (c0 : w.cell? ⟨g, 0, none⟩ = some (.int .i64 a)) (c1 : w.cell? ⟨g, 1, none⟩ = some (.int .i64 b)) :
    Calls Try.prog 47 #[.slice (some ⟨g, 0, none⟩) 2 2] w fun e w' => e = .returned (.int .i64 (or2I a b)) ∧ w = w' := by
  have hcell : ∀ k : Nat, k < 2 → w.cell? ⟨g, k, none⟩ = some (.int .i64 ([a, b].getD k 0)) := by
    intro k hk
    match k, hk with
    | 0, _ => exact c0
    | 1, _ => exact c1
  clear c0 c1
  go_enter Try.func47, Try.ntmps47
  go_wp2
  go_loop [8] (fun i => ∃ k : Nat, k ≤ 2 ∧ i = .int .i64 k ∧ ∀ j, j < k → [a, b].getD j 0 = 0) (fun i => 2 - (intOf i).toNat)
  case atStart => exact ⟨0, by omega, rfl, fun j hj => by omega⟩
  case round =>
    obtain ⟨k, hk, rfl, hz⟩ := hrel
    by_cases h3 : k < 2
    · have hc := hcell k h3
      by_cases hv : [a, b].getD k 0 = 0
      · rw [hv] at hc
        have HZ : Hid (∀ j, j < k + 1 → [a, b].getD j 0 = 0) := fun j hj => by
          rcases Nat.lt_or_ge j k with h | h
          · exact hz j h
          · obtain rfl : j = k := by omega
            exact hv
        clear hz hcell hv
        go_wp2
        go_round
        case rel => exact ⟨k + 1, by omega, by go_num, HZ.out⟩
        case measure => simp [intOf]; omega
      · have HV : Hid (or2I a b = [a, b].getD k 0) := by
          show _ = _
          unfold or2I
          match k, h3, hv, hz with
          | 0, _, hv, _ => rw [if_pos (by simpa using hv)]; rfl
          | 1, _, hv, hz =>
            have := hz 0 (by omega)
            rw [if_neg (by simpa using this)]; rfl
        generalize [a, b].getD k 0 = v at *
        clear hz hcell
        go_wp2
        go_ret
        exact ⟨by rw [HV.out]; rfl, rfl⟩
    · obtain rfl : k = 2 := by omega
      have HV : Hid (or2I a b = 0) := by
        show _ = _
        have h0 := hz 0 (by omega)
        have h1 := hz 1 (by omega)
        unfold or2I
        rw [if_neg (by simpa using h0)]
        simpa using h1
      clear hz hcell
      go_wp2
      go_ret
      exact ⟨by rw [HV.out]; rfl, rfl⟩
set_option maxHeartbeats 800000 in
theorem qorder_any (x y : Im) (w : World) :
    Calls Try.prog 36 #[.agg #[.int .i64 x.r.id, .int .i64 x.r.st, .int .u32 x.r.n, .int .u32 x.r.ip, .int .u16 x.r.port, .int .i64 x.left], .agg #[.int .i64 y.r.id, .int .i64 y.r.st, .int .u32 y.r.n, .int .u32 y.r.ip, .int .u16 y.r.port, .int .i64 y.left]] w fun e w' => e = .returned (.int .i64 (cfI x y)) ∧ ∃ q os', w' = grow (w.drewN q) os' := by
  have HR : Hid (cfI x y = or2I (cmpI y.left x.left) (cmpI x.r.id y.r.id)) := rfl
  obtain ⟨p, hp⟩ : ∃ p, cmpI y.left x.left = p := ⟨_, rfl⟩
  obtain ⟨q, hq⟩ : ∃ q, cmpI x.r.id y.r.id = q := ⟨_, rfl⟩
  rw [hp, hq] at HR
  have CX := Lib.hid hp
  have CY := Lib.hid hq
  clear hp hq
  generalize cfI x y = o at *
  obtain ⟨⟨i1, s1, n1, a1, p1⟩, l1⟩ := x
  obtain ⟨⟨i2, s2, n2, a2, p2⟩, l2⟩ := y
  simp only at *
  go_enter Try.func36, Try.ntmps36
  have X0 : Cs w.heap.size [.int .i64 i1, .int .i64 s1, .int .u32 n1, .int .u32 a1, .int .u16 p1, .int .i64 l1] (w.alloc (.cells #[.int .i64 i1, .int .i64 s1, .int .u32 n1, .int .u32 a1, .int .u16 p1, .int .i64 l1] 61)) := Cs.new w [.int .i64 i1, .int .i64 s1, .int .u32 n1, .int .u32 a1, .int .u16 p1, .int .i64 l1] 61
  have X := X0.alloc (.cells #[.int .i64 i2, .int .i64 s2, .int .u32 n2, .int .u32 a2, .int .u16 p2, .int .i64 l2] 61)
  have Y : Cs (w.heap.size + 1) [.int .i64 i2, .int .i64 s2, .int .u32 n2, .int .u32 a2, .int .u16 p2, .int .i64 l2] ((w.alloc (.cells #[.int .i64 i1, .int .i64 s1, .int .u32 n1, .int .u32 a1, .int .u16 p1, .int .i64 l1] 61)).alloc (.cells #[.int .i64 i2, .int .i64 s2, .int .u32 n2, .int .u32 a2, .int .u16 p2, .int .i64 l2] 61)) := by
    have := Cs.new (w.alloc (.cells #[.int .i64 i1, .int .i64 s1, .int .u32 n1, .int .u32 a1, .int .u16 p1, .int .i64 l1] 61)) [.int .i64 i2, .int .i64 s2, .int .u32 n2, .int .u32 a2, .int .u16 p2, .int .i64 l2] 61
    simp only [World.size_alloc] at this
    exact this
  have hB : Hid (Grn w ((w.alloc (.cells #[.int .i64 i1, .int .i64 s1, .int .u32 n1, .int .u32 a1, .int .u16 p1, .int .i64 l1] 61)).alloc (.cells #[.int .i64 i2, .int .i64 s2, .int .u32 n2, .int .u32 a2, .int .u16 p2, .int .i64 l2] 61))) := ((Grn.refl w).alloc _).alloc _
  clear X0
  go_upto_region 1 with fail
  generalize ((w.alloc (.cells #[.int .i64 i1, .int .i64 s1, .int .u32 n1, .int .u32 a1, .int .u16 p1, .int .i64 l1] 61)).alloc (.cells #[.int .i64 i2, .int .i64 s2, .int .u32 n2, .int .u32 a2, .int .u16 p2, .int .i64 l2] 61)) = wb at *
  have QB : Grn wb wb := Grn.refl _
  have HX := Lib.hid X
  have HY := Lib.hid Y
  have x0 := X.cell 0 _ rfl
  have x5 := X.cell 5 _ rfl
  have y0 := Y.cell 0 _ rfl
  have y5 := Y.cell 5 _ rfl
  clear X Y
  have mkS : Hid (∀ w', Grn wb w' → w'.cell? ⟨w.heap.size, 0, none⟩ = some (.int .i64 i1) ∧ w'.cell? ⟨w.heap.size, 5, none⟩ = some (.int .i64 l1) ∧ w'.cell? ⟨w.heap.size + 1, 0, none⟩ = some (.int .i64 i2) ∧ w'.cell? ⟨w.heap.size + 1, 5, none⟩ = some (.int .i64 l2) ∧ Grn wb w') := fun w' h => by
    have A := HX.out.keep h.below
    have B := HY.out.keep h.below
    exact ⟨A.cell 0 _ rfl, A.cell 5 _ rfl, B.cell 0 _ rfl, B.cell 5 _ rfl, h⟩
  go_region_held3 (fun w' => w'.cell? ⟨w.heap.size, 0, none⟩ = some (.int .i64 i1) ∧ w'.cell? ⟨w.heap.size, 5, none⟩ = some (.int .i64 l1) ∧ w'.cell? ⟨w.heap.size + 1, 0, none⟩ = some (.int .i64 i2) ∧ w'.cell? ⟨w.heap.size + 1, 5, none⟩ = some (.int .i64 l2) ∧ Grn wb w')
    (first | exact mkS.out _ QB | exact mkS.out _ QB.drew | exact mkS.out _ (QB.alloc _) | exact mkS.out _ (QB.drew.alloc _))
    (first
      | (go_at_call_of 48 (Value.int .i64 l2); refine (cmp64_at CX _).mono ?_; rintro e wx ⟨rfl, rfl⟩)
      | (go_at_call_of 48 (Value.int .i64 i1); refine (cmp64_at CY _).mono ?_; rintro e wx ⟨rfl, rfl⟩)
      | (go_at_call 47; refine (or2_any p q _ _ (by go_simp) (by go_simp)).mono ?_; rintro e wx ⟨rfl, rfl⟩; have QB := QB.alloc (.cells #[.int .i64 p, .int .i64 q] 3)))
  all_goals go_wp2
  all_goals go_ret
  all_goals first | exact ⟨by rw [HR.out]; rfl, (hB.out.trans QB).out⟩ | exact ⟨by rw [HR.out]; rfl, (hB.out.trans QB.drew).out⟩
end Go.Proofs.Ythebcaielbnhjaa
