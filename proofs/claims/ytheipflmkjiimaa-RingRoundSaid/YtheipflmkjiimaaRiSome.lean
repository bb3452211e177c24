/- Some, of both programs' rings. -/
import Derived.Test.YtheipflmkjiimaaRiRNext
namespace Go.Proofs.Ytheipflmkjiimaa
open Go.Sort Go.RowKit Go.BigFrame
set_option linter.unusedVariables false
set_option linter.unusedSimpArgs false

/-- what Some answers: D, in new memory; the ring's stream is at s' -/
def SomePost (g : Nat) (v : Sl) (s' : Int) (L D : List Int) (w : World) (e : Ending) (w' : World) : Prop := ∃ u : Sl, e = .returned (.slice u.a D.length u.c) ∧ NewR w ⟨u.a, D.length, u.c⟩ D w' ∧ Rs g s' v L w' ∧ Touch (fun b => b = g) w w'
def someD (s : Int) (l : List Int) (k : Int) : List Int := (mixL s l).1.take (much k l.length)
theorem someD_len (s : Int) (l : List Int) (k : Int) : (someD s l k).length = much k l.length := by
  unfold someD much
  rw [List.length_take, mixL_length]
  omega
theorem ans_new {w w' : World} {A : Option Addr} {m c : Nat} {D : List Int} (h : Ans w.heap.size w' A m D) : NewR w ⟨A, D.length, c⟩ D w' :=
  ⟨h.2.1, rfl, fun b ⟨ad, e, hb⟩ => by subst hb; exact h.2.2 ad e⟩
theorem NewR.set {w w' : World} {u : Sl} {D : List Int} (h : NewR w u D w') {p : Addr} (hp : p.block < w.heap.size) (x : Value) : NewR w u D (w'.setCell p x) :=
  ⟨h.rd.touch (Touch.set (F := fun b => b = p.block) (Touch.refl _ w') (a := p) (fun _ => rfl) x) (fun b hb e => by have := h.lo b hb; omega), h.n, h.lo⟩
theorem NewR.keep {w w' w'' : World} {u : Sl} {D : List Int} (h : NewR w u D w') (hb : Below w'.heap.size w' w'') : NewR w u D w'' := ⟨h.rd.keep hb, h.n, h.lo⟩
theorem NewR.after {w w1 w' : World} {u : Sl} {D : List Int} (hb : Below w.heap.size w w1) (h : NewR w1 u D w') : NewR w u D w' := ⟨h.rd, h.n, fun b hk => Nat.le_trans hb.size (h.lo b hk)⟩
set_option maxHeartbeats 1600000 in
set_option maxRecDepth 100000 in
theorem ring_some (g : Nat) (s : Int) (v : Sl) (L : List Int) (a : Option Addr) (cap : Nat) (l : List Int) (k : Int) (hl : l.length ≤ 1000) (hcap : l.length ≤ cap) (w : World) (h : Rs g s v L w) (hr : Rd .i64 w w.heap.size a l) :
    Calls Try.prog 12 #[.pointer (some ⟨g, 0, none⟩), .slice a l.length cap, .int .i64 k] w (SomePost g v (mixL s l).2 L (someD s l k) w) := by
  have K := some_all s a l.length cap l k (someD s l k).length (someD_len s l k).symm (by omega) hcap rfl w hr
  obtain ⟨D, hD⟩ : ∃ D, someD s l k = D := ⟨_, rfl⟩
  have hD2 : (mixL s l).1.take D.length = D := by rw [← hD, someD_len]; rfl
  rw [hD] at K ⊢
  rw [hD2] at K
  generalize (mixL s l).2 = s2 at *
  have H := Lib.hid h
  have gl := h.box.lt
  have x0 := h.box.cell 0 _ rfl
  clear hD hD2 h hr
  go_enter Try.func12, Try.ntmps12
  go_wp2_with fail
  refine K.mono ?_; rintro e w1 ⟨A, c, rfl, hans, hb⟩
  have N1 := ans_new (c := c) hans
  have gl1 : g < w1.heap.size := Nat.lt_of_lt_of_le gl hb.size
  have H1 := H.out.keep hb
  have f0 := H1.box.free 0 _ rfl
  have F : Hid (NewR w ⟨A, D.length, c⟩ D ((w1.setCell ⟨g, 0, none⟩ (.int .u64 s2)).alloc (.cells #[.int .u64 s2] 52)) ∧ Rs g s2 v L ((w1.setCell ⟨g, 0, none⟩ (.int .u64 s2)).alloc (.cells #[.int .u64 s2] 52)) ∧ Touch (fun b => b = g) w ((w1.setCell ⟨g, 0, none⟩ (.int .u64 s2)).alloc (.cells #[.int .u64 s2] 52))) := by
    have b2 := (Below.refl (w1.setCell ⟨g, 0, none⟩ (.int .u64 s2)).heap.size (w1.setCell ⟨g, 0, none⟩ (.int .u64 s2))).alloc (Nat.le_refl _) (.cells #[.int .u64 s2] 52)
    refine ⟨(N1.set (p := ⟨g, 0, none⟩) gl _).keep b2, (H1.stream s2).keep b2, ?_⟩
    exact (Touch.set (F := fun b => b = g) (Touch.of_below (fun b => b = g) hb) (a := ⟨g, 0, none⟩) (fun _ => rfl) _).trans (Touch.of_below (fun b => b = g) b2) (fun _ _ h => h)
  clear x0
  have x0 := H1.box.cell 0 _ rfl
  clear K N1 H1 H hans hb
  go_wp2
  go_ret
  exact ⟨⟨A, D.length, c⟩, rfl, F.out⟩
set_option maxHeartbeats 1600000 in
set_option maxRecDepth 100000 in
theorem ref_ring_some (g : Nat) (s : Int) (v : Sl) (L : List Int) (a : Option Addr) (cap : Nat) (l : List Int) (k : Int) (hl : l.length ≤ 1000) (hcap : l.length ≤ cap) (hnil : a = none → l.length = 0 ∧ cap = 0) (w : World) (h : Rs g s v L w) (hr : Rd .i64 w w.heap.size a l) :
    Calls Try.prog 14 #[.pointer (some ⟨g, 0, none⟩), .slice a l.length cap, .int .i64 k] w (SomePost g v (mixL s l).2 L (someD s l k) w) := by
  have K := rsome_all s a l.length cap l k (someD s l k).length (someD_len s l k).symm (by omega) hcap hnil rfl w hr
  obtain ⟨D, hD⟩ : ∃ D, someD s l k = D := ⟨_, rfl⟩
  have hD2 : (mixL s l).1.take D.length = D := by rw [← hD, someD_len]; rfl
  rw [hD] at K ⊢
  rw [hD2] at K
  generalize (mixL s l).2 = s2 at *
  have H := Lib.hid h
  have gl := h.box.lt
  have x0 := h.box.cell 0 _ rfl
  clear hD hD2 h hr hnil
  go_enter Try.func14, Try.ntmps14
  go_wp2_with fail
  refine K.mono ?_; rintro e w1 ⟨A, c, rfl, hans, hb⟩
  have N1 := ans_new (c := c) hans
  have gl1 : g < w1.heap.size := Nat.lt_of_lt_of_le gl hb.size
  have H1 := H.out.keep hb
  have f0 := H1.box.free 0 _ rfl
  have F : Hid (NewR w ⟨A, D.length, c⟩ D ((w1.setCell ⟨g, 0, none⟩ (.int .u64 s2)).alloc (.cells #[.int .u64 s2] 39)) ∧ Rs g s2 v L ((w1.setCell ⟨g, 0, none⟩ (.int .u64 s2)).alloc (.cells #[.int .u64 s2] 39)) ∧ Touch (fun b => b = g) w ((w1.setCell ⟨g, 0, none⟩ (.int .u64 s2)).alloc (.cells #[.int .u64 s2] 39))) := by
    have b2 := (Below.refl (w1.setCell ⟨g, 0, none⟩ (.int .u64 s2)).heap.size (w1.setCell ⟨g, 0, none⟩ (.int .u64 s2))).alloc (Nat.le_refl _) (.cells #[.int .u64 s2] 39)
    refine ⟨(N1.set (p := ⟨g, 0, none⟩) gl _).keep b2, (H1.stream s2).keep b2, ?_⟩
    exact (Touch.set (F := fun b => b = g) (Touch.of_below (fun b => b = g) hb) (a := ⟨g, 0, none⟩) (fun _ => rfl) _).trans (Touch.of_below (fun b => b = g) b2) (fun _ _ h => h)
  clear x0
  have x0 := H1.box.cell 0 _ rfl
  clear K N1 H1 H hans hb
  go_wp2
  go_ret
  exact ⟨⟨A, D.length, c⟩, rfl, F.out⟩
end Go.Proofs.Ytheipflmkjiimaa
