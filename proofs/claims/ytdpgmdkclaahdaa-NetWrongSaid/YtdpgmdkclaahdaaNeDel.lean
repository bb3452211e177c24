/- The net's Deliver, Drop, Twice, Delay, Rebind. -/
import Derived.Test.YtdpgmdkclaahdaaNeArr
namespace Go.Proofs.Ytdpgmdkclaahdaa.Ne
open Go.Sort Go.RowKit Go.BigFrame
set_option linter.unusedVariables false
set_option linter.unusedSimpArgs false

section
variable {w0 w w' : World} {m : Mem} {H : List Hl} {n n' : Nt}
/-- what Deliver tells, as a value -/
def delV (n : Nt) (now pick : Int) : Value := .tuple #[.agg #[.int .i64 ((delP n now pick).1 : Nat), .int .u32 (Bg.takeX now pick n.l).fi, .int .u16 (Bg.takeX now pick n.l).fp, .string (Bg.takeX now pick n.l).b], .int .i64 (delE n now pick)]
set_option maxHeartbeats 3200000 in
set_option maxRecDepth 20000 in
theorem del_n (now pick : Int) (h0 : 0 ≤ now) (hp : pick ≤ 9223372036854775807) (s : NN w0 m H n w) :
    Calls Try.prog 12 #[ptr m.g, .int .u64 now, .int .i64 pick] w fun e w' => e = .returned (delV n now pick) ∧ NN w0 m H (delP n now pick).2 w' := by
  have s1 := s.new [.int .i64 0, .int .u32 0, .int .u16 0, .string ⟨#[]⟩] 42
  rw [show ([.int .i64 0, .int .u32 0, .int .u16 0, .string ⟨#[]⟩] : List Value).toArray = #[.int .i64 0, .int .u32 0, .int .u16 0, .string ⟨#[]⟩] from rfl] at s1
  have KT : Hid (∀ H' w, NN w0 m H' n w → _) := fun H' w s => take_n (n := n) now pick hp s
  have KA : Hid (∀ H' fi fp ti tp b t w, NN w0 m H' (tkN n now pick) w → _) := fun H' fi fp ti tp b t w s => arr_n (n := tkN n now pick) now fi fp ti tp t b h0 s
  unfold delV delP
  have hz : Hid (¬ delE n now pick = 0 → Bg.takeX now pick n.l = Bg.zI ∧ tkN n now pick = n) := fun h => by
    unfold delE at h
    refine ⟨by unfold Bg.takeX; rw [if_neg h], ?_⟩
    unfold tkN Bg.takeL; rw [if_neg h]
  unfold cpi at KT
  generalize Bg.takeX now pick n.l = x at *
  obtain ⟨fi, fp, ti, tp, b, t⟩ := x
  simp only at KT
  have KAx := Lib.hid (fun H' w s => KA.out H' fi fp ti tp b t w s)
  generalize delE n now pick = er at *
  generalize tkN n now pick = n1 at *
  generalize arrP n1 now ⟨fi, fp, ti, tp, b, t⟩ = r at *
  obtain ⟨ho, n2⟩ := r
  simp only at KAx
  have pu := s1.pu
  have gl := s1.glt
  have SA := Lib.hid s1
  clear s s1 KA
  by_cases he : er = 0
  · subst he
    rw [if_pos rfl]
    clear hz
    go_enter Try.func12, Try.ntmps12
    go_wp2_with fail
    refine (KT.out _ _ SA.out).mono ?_; rintro e w1 ⟨rfl, s⟩
    have s2 := s.new [.int .u32 fi, .int .u16 fp, .int .u32 ti, .int .u16 tp, .string b, .int .u64 t] 75
    rw [show ([.int .u32 fi, .int .u16 fp, .int .u32 ti, .int .u16 tp, .string b, .int .u64 t] : List Value).toArray = #[.int .u32 fi, .int .u16 fp, .int .u32 ti, .int .u16 tp, .string b, .int .u64 t] from rfl] at s2
    clear SA KT pu gl s
    have SA := Lib.hid s2
    clear s2
    generalize w.heap.size = g1 at *
    go_upto_region 4 with fail
    generalize (w1.alloc (.cells #[.int .u32 fi, .int .u16 fp, .int .u32 ti, .int .u16 tp, .string b, .int .u64 t] 75)) = w2 at *
    generalize w1.heap.size = g2 at *
    have mk0 : Hid (∀ k nx w', NN w0 m (hC g2 [.int .u32 fi, .int .u16 fp, .int .u32 ti, .int .u16 tp, .string b, .int .u64 t] :: k :: H) nx w' → w'.cell? ⟨g2, 0, none⟩ = some (.int .u32 fi) ∧ w'.cell? ⟨g2, 1, none⟩ = some (.int .u16 fp) ∧ w'.cell? ⟨g2, 2, none⟩ = some (.int .u32 ti) ∧ w'.cell? ⟨g2, 3, none⟩ = some (.int .u16 tp) ∧ w'.cell? ⟨g2, 4, none⟩ = some (.string b) ∧ w'.cell? ⟨g2, 5, none⟩ = some (.int .u64 t) ∧ g2 < w'.heap.size ∧ True) := fun k nx w' s => ⟨(s.cs (b := g2) (vs := [.int .u32 fi, .int .u16 fp, .int .u32 ti, .int .u16 tp, .string b, .int .u64 t]) (.head _)).cell 0 _ rfl, (s.cs (b := g2) (vs := [.int .u32 fi, .int .u16 fp, .int .u32 ti, .int .u16 tp, .string b, .int .u64 t]) (.head _)).cell 1 _ rfl, (s.cs (b := g2) (vs := [.int .u32 fi, .int .u16 fp, .int .u32 ti, .int .u16 tp, .string b, .int .u64 t]) (.head _)).cell 2 _ rfl, (s.cs (b := g2) (vs := [.int .u32 fi, .int .u16 fp, .int .u32 ti, .int .u16 tp, .string b, .int .u64 t]) (.head _)).cell 3 _ rfl, (s.cs (b := g2) (vs := [.int .u32 fi, .int .u16 fp, .int .u32 ti, .int .u16 tp, .string b, .int .u64 t]) (.head _)).cell 4 _ rfl, (s.cs (b := g2) (vs := [.int .u32 fi, .int .u16 fp, .int .u32 ti, .int .u16 tp, .string b, .int .u64 t]) (.head _)).cell 5 _ rfl, (s.cs (b := g2) (vs := [.int .u32 fi, .int .u16 fp, .int .u32 ti, .int .u16 tp, .string b, .int .u64 t]) (.head _)).lt, trivial⟩
    go_region_held (fun w' => w'.cell? ⟨g2, 0, none⟩ = some (.int .u32 fi) ∧ w'.cell? ⟨g2, 1, none⟩ = some (.int .u16 fp) ∧ w'.cell? ⟨g2, 2, none⟩ = some (.int .u32 ti) ∧ w'.cell? ⟨g2, 3, none⟩ = some (.int .u16 tp) ∧ w'.cell? ⟨g2, 4, none⟩ = some (.string b) ∧ w'.cell? ⟨g2, 5, none⟩ = some (.int .u64 t) ∧ g2 < w'.heap.size ∧ True) (first | exact mk0.out _ _ _ SA.out | exact mk0.out _ _ _ SA.out.drew | exact mk0.out _ _ _ ((((SA.out.setc [_] _ 0 (.int .i64 ho) (by simp)).setc [_] _ 1 (.int .u32 fi) (by simp)).setc [_] _ 2 (.int .u16 fp) (by simp)).setc [_] _ 3 (.string b) (by simp))) (first | (go_at_call 30; first | (refine (KAx.out _ _ SA.out.drew).mono ?_; rintro e wA ⟨rfl, sA⟩; have SA := Lib.hid sA; clear sA; have y0 := (SA.out.cs (b := g1) (vs := [.int .i64 0, .int .u32 0, .int .u16 0, .string ⟨#[]⟩]) (.tail _ (.head _))).cell 0 _ rfl; have z0 := (SA.out.cs (b := g1) (vs := [.int .i64 0, .int .u32 0, .int .u16 0, .string ⟨#[]⟩]) (.tail _ (.head _))).free 0 _ rfl; have y1 := (SA.out.cs (b := g1) (vs := [.int .i64 0, .int .u32 0, .int .u16 0, .string ⟨#[]⟩]) (.tail _ (.head _))).cell 1 _ rfl; have z1 := (SA.out.cs (b := g1) (vs := [.int .i64 0, .int .u32 0, .int .u16 0, .string ⟨#[]⟩]) (.tail _ (.head _))).free 1 _ rfl; have y2 := (SA.out.cs (b := g1) (vs := [.int .i64 0, .int .u32 0, .int .u16 0, .string ⟨#[]⟩]) (.tail _ (.head _))).cell 2 _ rfl; have z2 := (SA.out.cs (b := g1) (vs := [.int .i64 0, .int .u32 0, .int .u16 0, .string ⟨#[]⟩]) (.tail _ (.head _))).free 2 _ rfl; have y3 := (SA.out.cs (b := g1) (vs := [.int .i64 0, .int .u32 0, .int .u16 0, .string ⟨#[]⟩]) (.tail _ (.head _))).cell 3 _ rfl; have z3 := (SA.out.cs (b := g1) (vs := [.int .i64 0, .int .u32 0, .int .u16 0, .string ⟨#[]⟩]) (.tail _ (.head _))).free 3 _ rfl; have yl := (SA.out.cs (b := g1) (vs := [.int .i64 0, .int .u32 0, .int .u16 0, .string ⟨#[]⟩]) (.tail _ (.head _))).lt) | (refine (KAx.out _ _ SA.out).mono ?_; rintro e wA ⟨rfl, sA⟩; have SA := Lib.hid sA; clear sA; have y0 := (SA.out.cs (b := g1) (vs := [.int .i64 0, .int .u32 0, .int .u16 0, .string ⟨#[]⟩]) (.tail _ (.head _))).cell 0 _ rfl; have z0 := (SA.out.cs (b := g1) (vs := [.int .i64 0, .int .u32 0, .int .u16 0, .string ⟨#[]⟩]) (.tail _ (.head _))).free 0 _ rfl; have y1 := (SA.out.cs (b := g1) (vs := [.int .i64 0, .int .u32 0, .int .u16 0, .string ⟨#[]⟩]) (.tail _ (.head _))).cell 1 _ rfl; have z1 := (SA.out.cs (b := g1) (vs := [.int .i64 0, .int .u32 0, .int .u16 0, .string ⟨#[]⟩]) (.tail _ (.head _))).free 1 _ rfl; have y2 := (SA.out.cs (b := g1) (vs := [.int .i64 0, .int .u32 0, .int .u16 0, .string ⟨#[]⟩]) (.tail _ (.head _))).cell 2 _ rfl; have z2 := (SA.out.cs (b := g1) (vs := [.int .i64 0, .int .u32 0, .int .u16 0, .string ⟨#[]⟩]) (.tail _ (.head _))).free 2 _ rfl; have y3 := (SA.out.cs (b := g1) (vs := [.int .i64 0, .int .u32 0, .int .u16 0, .string ⟨#[]⟩]) (.tail _ (.head _))).cell 3 _ rfl; have z3 := (SA.out.cs (b := g1) (vs := [.int .i64 0, .int .u32 0, .int .u16 0, .string ⟨#[]⟩]) (.tail _ (.head _))).free 3 _ rfl; have yl := (SA.out.cs (b := g1) (vs := [.int .i64 0, .int .u32 0, .int .u16 0, .string ⟨#[]⟩]) (.tail _ (.head _))).lt)) | fail)
    all_goals go_wp2
    all_goals (refine bodyPost_ret (v := .tuple #[.agg #[.int .i64 (ho : Nat), .int .u32 fi, .int .u16 fp, .string b], .int .i64 0]) (by simp [results, Try.results12, go_sem, *]) rfl ?_)
    all_goals exact ⟨rfl, ((((SA.out.setc [_] _ 0 (.int .i64 ho) (by simp)).setc [_] _ 1 (.int .u32 fi) (by simp)).setc [_] _ 2 (.int .u16 fp) (by simp)).setc [_] _ 3 (.string b) (by simp)).drop.drop⟩
  · rw [if_neg he]
    obtain ⟨hx, hn⟩ := hz.out he
    injection hx with a1 a2 a3 a4 a5 a6
    subst a1; subst a2; subst a3; subst a4; subst a5; subst a6; subst hn
    have he' : (er == 0) = false := by rw [beq_eq_false_iff_ne]; exact he
    have d0 := (SA.out.cs (b := w.heap.size) (vs := [.int .i64 0, .int .u32 0, .int .u16 0, .string ⟨#[]⟩]) (.head _))
    clear hz d0
    go_enter Try.func12, Try.ntmps12
    go_wp2_with fail
    refine (KT.out _ _ SA.out).mono ?_; rintro e w1 ⟨rfl, s⟩
    have s2 := s.new [.int .u32 0, .int .u16 0, .int .u32 0, .int .u16 0, .string ⟨#[]⟩, .int .u64 0] 75
    rw [show ([.int .u32 0, .int .u16 0, .int .u32 0, .int .u16 0, .string ⟨#[]⟩, .int .u64 0] : List Value).toArray = #[.int .u32 0, .int .u16 0, .int .u32 0, .int .u16 0, .string ⟨#[]⟩, .int .u64 0] from rfl] at s2
    clear SA KT pu gl s KAx
    have SA := Lib.hid s2
    clear s2
    generalize w.heap.size = g1 at *
    go_upto_region 3 with fail
    generalize (w1.alloc (.cells #[.int .u32 0, .int .u16 0, .int .u32 0, .int .u16 0, .string ⟨#[]⟩, .int .u64 0] 75)) = w2 at *
    have C := (SA.out.cs (b := g1) (vs := [.int .i64 0, .int .u32 0, .int .u16 0, .string ⟨#[]⟩]) (.tail _ (.head _)))
    have d0 := C.cell 0 _ rfl
    have d1 := C.cell 1 _ rfl
    have d2 := C.cell 2 _ rfl
    have d3 := C.cell 3 _ rfl
    have f0 := C.free 0 _ rfl
    have f1 := C.free 1 _ rfl
    have f2 := C.free 2 _ rfl
    have f3 := C.free 3 _ rfl
    have fl := C.lt
    clear C
    go_wp2
    refine bodyPost_ret (v := .tuple #[.agg #[.int .i64 0, .int .u32 0, .int .u16 0, .string ⟨#[]⟩], .int .i64 er]) (by simp [results, Try.results12, go_sem, *]) rfl ?_
    exact ⟨rfl, ((((SA.out.drop.setc [] _ 0 (.int .i64 0) (by simp)).setc [] _ 1 (.int .u32 0) (by simp)).setc [] _ 2 (.int .u16 0) (by simp)).setc [] _ 3 (.string ⟨#[]⟩) (by simp)).drop⟩
end
end Go.Proofs.Ytdpgmdkclaahdaa.Ne
