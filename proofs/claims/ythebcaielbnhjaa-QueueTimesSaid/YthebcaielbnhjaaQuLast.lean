/- The queue's last, lay. -/
import Derived.Test.YthebcaielbnhjaaQuItems
import Derived.BigRegion
namespace Go.Proofs.Ythebcaielbnhjaa
open Go.Sort Go.RowKit Go.BigFrame
set_option linter.unusedVariables false
set_option linter.unusedSimpArgs false

theorem qorder_b (x y : Im) (w : World) :
    Calls Try.prog 36 #[.agg #[.int .i64 x.r.id, .int .i64 x.r.st, .int .u32 x.r.n, .int .u32 x.r.ip, .int .u16 x.r.port, .int .i64 x.left], .agg #[.int .i64 y.r.id, .int .i64 y.r.st, .int .u32 y.r.n, .int .u32 y.r.ip, .int .u16 y.r.port, .int .i64 y.left]] w fun e w' => e = .returned (.int .i64 (cfI x y)) ∧ Below w.heap.size w w' :=
  (qorder_any x y w).mono fun e w' ⟨he, hg⟩ => ⟨he, (Grn.mk hg).below⟩
/-- the queue's box and its items, in whatever number -/
structure Lq (g room : Nat) (v : Sl) (L : List Im) (w : World) : Prop where
  box : Cs g (qc true room v) w
  row : ERow ci 6 61 w v.v L
  ne : v.v.ownBlock ≠ some g
section
variable {g room : Nat} {v : Sl} {L : List Im} {w w' : World} {F : Nat → Prop}
theorem Lq.touch (h : Lq g room v L w) (ht : Touch F w w') (hF : ∀ b, OwnS g v b → ¬ F b) : Lq g room v L w' := ⟨h.box.touch ht (hF _ (.inl rfl)), erow_touch h.row ht (fun b hb => hF b (.inr hb)), h.ne⟩
theorem Lq.keep (h : Lq g room v L w) (hb : Below w.heap.size w w') : Lq g room v L w' := h.touch (Touch.of_below (fun _ => False) hb) (fun _ _ h => h)
theorem Lq.n (h : Lq g room v L w) : v.n = L.length := erow_n (c := ci) (z := 6) h.row
end
/-- where the last of the first ones stands -/
def MaxTo (L : List Im) (k m : Nat) : Prop := m ≤ k ∧ ∃ h : m < L.length, ∀ y ∈ L.take (k + 1), ¬ LtI L[m] y
theorem max_start {L : List Im} (h : 0 < L.length) : MaxTo L 0 0 := by
  refine ⟨Nat.le_refl _, h, fun y hy => ?_⟩
  rw [List.take_succ_eq_append_getElem h] at hy
  simp at hy
  subst hy
  exact LtI.irr
theorem max_same {L : List Im} {k m : Nat} (h : MaxTo L k m) (hk : k + 1 < L.length) (hm : m < L.length) (hn : ¬ LtI L[m] L[k + 1]) : MaxTo L (k + 1) m := by
  obtain ⟨h0, h1, h2⟩ := h
  refine ⟨by omega, h1, fun y hy => ?_⟩
  rw [List.take_succ_eq_append_getElem hk] at hy
  rcases List.mem_append.1 hy with hy | hy
  · exact h2 y hy
  · simp at hy; subst hy; exact hn
theorem max_new {L : List Im} {k m : Nat} (h : MaxTo L k m) (hk : k + 1 < L.length) (hm : m < L.length) (hn : LtI L[m] L[k + 1]) : MaxTo L (k + 1) (k + 1) := by
  obtain ⟨h0, h1, h2⟩ := h
  refine ⟨Nat.le_refl _, hk, fun y hy hlt => ?_⟩
  rw [List.take_succ_eq_append_getElem hk] at hy
  rcases List.mem_append.1 hy with hy | hy
  · exact h2 y hy (hn.trans hlt)
  · simp at hy; subst hy; exact hlt.irr
theorem max_end {L : List Im} {k m : Nat} (h : MaxTo L k m) (hk : L.length ≤ k + 1) : IsLast L m := by
  obtain ⟨h0, h1, h2⟩ := h
  rw [List.take_of_length_le hk] at h2
  exact ⟨h1, h2⟩
def LastJ (g room : Nat) (v : Sl) (L : List Im) (w : World) (a' : Act) (w' : World) : Prop :=
  ∃ (k m : Nat) (q p : Int), q = (k : Int) ∧ p = (m : Int) ∧ k < L.length ∧ MaxTo L k m ∧ a'.defers = [] ∧ (∃ u1 u5 u6 u7 u8 u9 u10 u11 u12 u13 u14 u15 u16 u17 u18 u19 u20 u21 u22 u23 u24 u25 u26 u27 u28 u29 u30 u31, a'.tmps = #[.pointer (some ⟨g, 0, none⟩), u1, .int .i64 0, .int .i64 p, .int .i64 q, u5, u6, u7, u8, u9, u10, u11, u12, u13, u14, u15, u16, u17, u18, u19, u20, u21, u22, u23, u24, u25, u26, u27, u28, u29, u30, u31]) ∧ Below w.heap.size w w'
def LastPost (L : List Im) (w : World) (e : Ending) (w' : World) : Prop := ∃ j : Nat, e = .returned (.int .i64 (j : Nat)) ∧ IsLast L j ∧ Below w.heap.size w w'
theorem last_done {L : List Im} {w w' : World} {k m : Nat} (h : MaxTo L k m) (hk : L.length ≤ k + 1) (hb : Below w.heap.size w w') : LastPost L w (.returned (.int .i64 (m : Nat))) w' := ⟨m, rfl, max_end h hk, hb⟩
set_option maxHeartbeats 3200000 in
set_option maxRecDepth 100000 in
theorem last_any (g room : Nat) (v : Sl) (L : List Im) (hp : 0 < L.length) (hl : L.length ≤ 1000) (w : World) (h : Lq g room v L w) :
    Calls Try.prog 42 #[.pointer (some ⟨g, 0, none⟩)] w (LastPost L w) := by
  have hn := h.n
  obtain ⟨av, n, c⟩ := v
  simp only at hn
  subst hn
  have HR := Lib.hid (erow_rd (a := av) (n := L.length) (cap := c) ci_enc h.row)
  have HL := Lib.hid h
  have hl2 : (L.length : Int) ≤ 1000 := by omega
  have M0 := Lib.hid (max_start hp)
  have HP := Lib.hid hp
  clear h
  go_enter Try.func42, Try.ntmps42
  go_wp2
  refine wp_scope_jumps 0 (LastJ g room ⟨av, L.length, c⟩ L w) (fun a' _ => L.length - (intOf (a'.tmps.getD 4 undef)).toNat) rfl ?_ ?_
  · go_wp2_with fail
    go_step3
    have MT := Lib.hid M0.out
    have HB : Hid (Below w.heap.size w w) := Below.refl _ _
    have e1 : (((0 + 1 : Nat)) : Int) = 1 := rfl
    have x1 := (HL.out.keep HB.out).box.cell 1 _ rfl
    have gl := (HL.out.keep HB.out).box.lt
    by_cases hlt : 0 + 1 < L.length
    · have hlt2 : (1 : Int) < L.length := by omega
      have hlt3 : ¬ (L.length : Int) ≤ (1 : Int) := by omega
      have hm := MT.out.2.1
      have hk0 : (0 : Int) ≤ (1 : Int) := by omega
      have hm1 : (0 : Int) < L.length := by omega
      have hm0 : (0 : Int) ≤ (0 : Int) := by omega
      obtain ⟨b, off, rfl, hbl, hcc⟩ := (HR.out.keep HB.out) (by omega)
      have hx : L[0 + 1]? = some L[0 + 1] := List.getElem?_eq_getElem hlt
      have hy : L[0]? = some L[0] := List.getElem?_eq_getElem hm
      have KS := Lib.hid (max_same MT.out hlt hm)
      have KN := Lib.hid (max_new MT.out hlt hm)
      have cp := cf_pos L[0 + 1] L[0]
      have C := qorder_b L[0 + 1] L[0]
      have c0 := hcc _ _ hx 0 _ rfl
      have c1 := hcc _ _ hx 1 _ rfl
      have c2 := hcc _ _ hx 2 _ rfl
      have c3 := hcc _ _ hx 3 _ rfl
      have c4 := hcc _ _ hx 4 _ rfl
      have c5 := hcc _ _ hx 5 _ rfl
      have d0 := hcc _ _ hy 0 _ rfl
      have d1 := hcc _ _ hy 1 _ rfl
      have d2 := hcc _ _ hy 2 _ rfl
      have d3 := hcc _ _ hy 3 _ rfl
      have d4 := hcc _ _ hy 4 _ rfl
      have d5 := hcc _ _ hy 5 _ rfl
      clear hcc hx hy
      generalize L[0 + 1] = x at *
      generalize L[0] = y at *
      obtain ⟨⟨i1, s1, n1, a1, p1⟩, l1⟩ := x
      obtain ⟨⟨i2, s2, n2, a2, p2⟩, l2⟩ := y
      simp only [Nat.add_zero, Nat.zero_add, Nat.one_mul, Nat.zero_mul] at c0 c1 c2 c3 c4 c5 d0 d1 d2 d3 d4 d5 C cp KS KN
      generalize LtI (⟨⟨i2, s2, n2, a2, p2⟩, l2⟩ : Im) ⟨⟨i1, s1, n1, a1, p1⟩, l1⟩ = lt at *
      generalize cfI (⟨⟨i1, s1, n1, a1, p1⟩, l1⟩ : Im) ⟨⟨i2, s2, n2, a2, p2⟩, l2⟩ = o at *
      have C2 := fun d os => Calls.regrown_of (C (grow (redrawn w d) os))
      clear C
      go_upto_region 5 with fail
      have k6 := cell_regrown x1
      have ka := cell_regrown c0
      have kb := cell_regrown c1
      have kc := cell_regrown c2
      have kd := cell_regrown c3
      have ke := cell_regrown c4
      have kf := cell_regrown c5
      have ja := cell_regrown d0
      have jb := cell_regrown d1
      have jc := cell_regrown d2
      have jd := cell_regrown d3
      have je := cell_regrown d4
      have jf := cell_regrown d5
      clear x1 c0 c1 c2 c3 c4 c5 d0 d1 d2 d3 d4 d5
      (refine wp_region_quiet_below (by kernel_rfl) (by kernel_rfl) ?_; (repeat (go_big_quiet_step (first | with_reducible exact C2 _ _))); refine wpQuiet_nil ?_; intro _ hw'; obtain ⟨⟨dq, osq⟩, hw''⟩ := hw'; subst hw'')
      have HB2 := Lib.hid (HB.out.trans ((below_regrown w dq osq).mono HB.out.size))
      clear k6 ka kb kc kd ke kf ja jb jc jd je jf C2
      by_cases ho : 0 < o
      · have hN := Lib.hid (KN.out (cp.1 ho))
        have ho2 : decide (0 < o) = true := decide_eq_true ho
        clear KS KN cp
        go_wp2
        go_step3
        go_wp2
        refine ⟨rfl, ⟨0 + 1, 0 + 1, _, _, ?_, ?_, by omega, hN.out, rfl, ⟨_, _, _, _, _, _, _, _, _, _, _, _, _, _, _, _, _, _, _, _, _, _, _, _, _, _, _, _, rfl⟩, HB2.out⟩⟩
        · first | (simp; done) | (simp; omega) | omega | rfl
        · first | (simp; done) | (simp; omega) | omega | rfl
      · have hN := Lib.hid (KS.out (fun e => ho (cp.2 e)))
        have ho2 : decide (0 < o) = false := decide_eq_false ho
        clear KS KN cp
        go_wp2
        go_step3
        go_wp2
        refine ⟨rfl, ⟨0 + 1, 0, _, _, ?_, ?_, by omega, hN.out, rfl, ⟨_, _, _, _, _, _, _, _, _, _, _, _, _, _, _, _, _, _, _, _, _, _, _, _, _, _, _, _, rfl⟩, HB2.out⟩⟩
        · first | (simp; done) | (simp; omega) | omega | rfl
        · first | (simp; done) | (simp; omega) | omega | rfl
    · have hge : (L.length : Int) ≤ (1 : Int) := by omega
      have F := Lib.hid (last_done MT.out (by omega) HB.out)
      go_wp2
      simp only [Exit.jump]
      refine bodyPost_ret (v := (.int .i64 0)) (by simp [results, Try.results42, go_sem, *]) rfl ?_
      exact F.out
  · rintro ⟨t1, dd1⟩ w2 ⟨k, m, q, p, rfl, rfl, hk, hMT, hd, ⟨u1, u5, u6, u7, u8, u9, u10, u11, u12, u13, u14, u15, u16, u17, u18, u19, u20, u21, u22, u23, u24, u25, u26, u27, u28, u29, u30, u31, ht⟩, hb⟩
    obtain rfl : dd1 = [] := hd
    obtain rfl : t1 = _ := ht
    have MT := Lib.hid hMT
    have HB := Lib.hid hb
    clear hMT hb
    have x1 := (HL.out.keep HB.out).box.cell 1 _ rfl
    have gl := (HL.out.keep HB.out).box.lt
    by_cases hlt : k + 1 < L.length
    · have hlt2 : (k : Int) + 1 < L.length := by omega
      have hlt3 : ¬ (L.length : Int) ≤ (k : Int) + 1 := by omega
      have hm := MT.out.2.1
      have hk0 : (0 : Int) ≤ (k : Int) + 1 := by omega
      have hm1 : (m : Int) < L.length := by omega
      have hm0 : (0 : Int) ≤ (m : Int) := by omega
      obtain ⟨b, off, rfl, hbl, hcc⟩ := (HR.out.keep HB.out) (by omega)
      have hx : L[k + 1]? = some L[k + 1] := List.getElem?_eq_getElem hlt
      have hy : L[m]? = some L[m] := List.getElem?_eq_getElem hm
      have KS := Lib.hid (max_same MT.out hlt hm)
      have KN := Lib.hid (max_new MT.out hlt hm)
      have cp := cf_pos L[k + 1] L[m]
      have C := qorder_b L[k + 1] L[m]
      have c0 := hcc _ _ hx 0 _ rfl
      have c1 := hcc _ _ hx 1 _ rfl
      have c2 := hcc _ _ hx 2 _ rfl
      have c3 := hcc _ _ hx 3 _ rfl
      have c4 := hcc _ _ hx 4 _ rfl
      have c5 := hcc _ _ hx 5 _ rfl
      have d0 := hcc _ _ hy 0 _ rfl
      have d1 := hcc _ _ hy 1 _ rfl
      have d2 := hcc _ _ hy 2 _ rfl
      have d3 := hcc _ _ hy 3 _ rfl
      have d4 := hcc _ _ hy 4 _ rfl
      have d5 := hcc _ _ hy 5 _ rfl
      clear hcc hx hy
      generalize L[k + 1] = x at *
      generalize L[m] = y at *
      obtain ⟨⟨i1, s1, n1, a1, p1⟩, l1⟩ := x
      obtain ⟨⟨i2, s2, n2, a2, p2⟩, l2⟩ := y
      simp only [Nat.add_zero, Nat.zero_add, Nat.one_mul, Nat.zero_mul] at c0 c1 c2 c3 c4 c5 d0 d1 d2 d3 d4 d5 C cp KS KN
      generalize LtI (⟨⟨i2, s2, n2, a2, p2⟩, l2⟩ : Im) ⟨⟨i1, s1, n1, a1, p1⟩, l1⟩ = lt at *
      generalize cfI (⟨⟨i1, s1, n1, a1, p1⟩, l1⟩ : Im) ⟨⟨i2, s2, n2, a2, p2⟩, l2⟩ = o at *
      have C2 := fun d os => Calls.regrown_of (C (grow (redrawn w2 d) os))
      clear C
      go_upto_region 5 with fail
      have k6 := cell_regrown x1
      have ka := cell_regrown c0
      have kb := cell_regrown c1
      have kc := cell_regrown c2
      have kd := cell_regrown c3
      have ke := cell_regrown c4
      have kf := cell_regrown c5
      have ja := cell_regrown d0
      have jb := cell_regrown d1
      have jc := cell_regrown d2
      have jd := cell_regrown d3
      have je := cell_regrown d4
      have jf := cell_regrown d5
      clear x1 c0 c1 c2 c3 c4 c5 d0 d1 d2 d3 d4 d5
      (refine wp_region_quiet_below (by kernel_rfl) (by kernel_rfl) ?_; (repeat (go_big_quiet_step (first | with_reducible exact C2 _ _))); refine wpQuiet_nil ?_; intro _ hw'; obtain ⟨⟨dq, osq⟩, hw''⟩ := hw'; subst hw'')
      have HB2 := Lib.hid (HB.out.trans ((below_regrown w2 dq osq).mono HB.out.size))
      clear k6 ka kb kc kd ke kf ja jb jc jd je jf C2
      by_cases ho : 0 < o
      · have hN := Lib.hid (KN.out (cp.1 ho))
        have ho2 : decide (0 < o) = true := decide_eq_true ho
        clear KS KN cp
        go_wp2
        go_step3
        go_wp2
        refine ⟨rfl, ⟨k + 1, k + 1, _, _, ?_, ?_, by omega, hN.out, rfl, ⟨_, _, _, _, _, _, _, _, _, _, _, _, _, _, _, _, _, _, _, _, _, _, _, _, _, _, _, _, rfl⟩, HB2.out⟩, ?_⟩
        · first | (simp; done) | (simp; omega) | omega | rfl
        · first | (simp; done) | (simp; omega) | omega | rfl
        · simp [intOf]; omega
      · have hN := Lib.hid (KS.out (fun e => ho (cp.2 e)))
        have ho2 : decide (0 < o) = false := decide_eq_false ho
        clear KS KN cp
        go_wp2
        go_step3
        go_wp2
        refine ⟨rfl, ⟨k + 1, m, _, _, ?_, ?_, by omega, hN.out, rfl, ⟨_, _, _, _, _, _, _, _, _, _, _, _, _, _, _, _, _, _, _, _, _, _, _, _, _, _, _, _, rfl⟩, HB2.out⟩, ?_⟩
        · first | (simp; done) | (simp; omega) | omega | rfl
        · first | (simp; done) | (simp; omega) | omega | rfl
        · simp [intOf]; omega
    · have hge : (L.length : Int) ≤ (k : Int) + 1 := by omega
      have F := Lib.hid (last_done MT.out (by omega) HB.out)
      go_wp2
      simp only [Exit.jump]
      refine bodyPost_ret (v := (.int .i64 ((m : Nat) : Int))) (by simp [results, Try.results42, go_sem, *]) rfl ?_
      exact F.out
end Go.Proofs.Ythebcaielbnhjaa
