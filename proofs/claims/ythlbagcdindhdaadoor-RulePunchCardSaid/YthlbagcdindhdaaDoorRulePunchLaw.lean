/- The statement RulePunch: punching is the same both ways, for every two types; who maps by nothing and filters by no port punches with all; two that go by both never do; a less strict filter never spoils it. No conditions but the row's own: the table of words lies as the program's text lays it. -/
import Derived.Test.YthlbagcdindhdaaDoorRuleLaid
import Derived.SevenTiedAt
import Derived.ChangeOld
import Derived.ChangeMaps5
import Derived.ShutString
import Derived.OpenShut
import Derived.SizedLaws
import Derived.Lib.SmallJoins
namespace Go.Proofs.YthlbagcdindhdaaDoor
open Go.Sort Go.RowKit Go.BigFrame Go.ChangeShapes Go.WideShapes Go.ChangeAt
open Go.ChangeMaps (open_string shut_string)
set_option linter.unusedVariables false
set_option linter.unusedSimpArgs false

def looseG (g : Int) : Int := if g - 1 < 0 then 0 else g - 1
theorem punch_fin : ∀ m f n g : Fin 3, ((m.val : Int) = 0 → ¬ (f.val : Int) = 2 → punchT m.val f.val n.val g.val = true) ∧ (punchT m.val f.val n.val g.val = true → punchT m.val f.val n.val (looseG g.val) = true) := by decide +kernel
theorem punch_law {m f n g : Int} (hm : 0 ≤ m ∧ m ≤ 2) (hf : 0 ≤ f ∧ f ≤ 2) (hn : 0 ≤ n ∧ n ≤ 2) (hg : 0 ≤ g ∧ g ≤ 2) :
    (m = 0 → ¬ f = 2 → punchT m f n g = true) ∧ (punchT m f n g = true → punchT m f n (looseG g) = true) := by
  have h := punch_fin ⟨m.toNat, by omega⟩ ⟨f.toNat, by omega⟩ ⟨n.toNat, by omega⟩ ⟨g.toNat, by omega⟩
  simp only [Int.toNat_of_nonneg hm.1, Int.toNat_of_nonneg hf.1, Int.toNat_of_nonneg hn.1, Int.toNat_of_nonneg hg.1] at h
  exact h
theorem punch_through {m f n g : Int} (h : punchT m f n g = true) : thruT m f n g = true ∨ thruT n g m f = true := by
  unfold punchT at h
  rw [Bool.or_eq_true, Bool.and_eq_true, Bool.and_eq_true] at h
  rcases h with h | h
  · exact .inl h.1
  · exact .inr h.1

/-- the region's end: the law's last line, its guards decided -/
structure Last (w4 : World) (x y z s : Nat) (m f n g L : Int) : Prop where
  X : Cs x [.int .i64 m, .int .i64 f] w4
  Y : Cs y [.int .i64 n, .int .i64 g] w4
  Z : Cs z [.int .i64 n, .int .i64 L] w4
  S : Cs s [.int .i64 2, .int .i64 2] w4
set_option maxRecDepth 100000 in
set_option maxHeartbeats 16000000 in
theorem rulePunch_walk (a b : Int) (ha : 0 ≤ a ∧ a ≤ 255) (hb : 0 ≤ b ∧ b ≤ 255) (w : World) (ht : Tab w) :
    Calls Tryd.prog 4 #[.int .u8 a, .int .u8 b] w fun e w' => e = .returned (.bool true) ∧ Below w.heap.size w w' := by
  have HT := Lib.hid ht
  clear ht
  obtain ⟨ha0, ha1⟩ := ha
  obtain ⟨hb0, hb1⟩ := hb
  go_enter Tryd.func4, Tryd.ntmps4
  go_wp2_with fail
  refine (examples_yes _ HT.out).mono ?_; rintro e w1 ⟨rfl, b1⟩
  go_upto_region 8 with fail
  clear HT
  have hm : 0 ≤ a % 3 ∧ a % 3 ≤ 2 := by omega
  have hf : 0 ≤ a / 3 % 3 ∧ a / 3 % 3 ≤ 2 := by omega
  have hn : 0 ≤ b % 3 ∧ b % 3 ≤ 2 := by omega
  have hg : 0 ≤ b / 3 % 3 ∧ b / 3 % 3 ≤ 2 := by omega
  generalize a % 3 = m at *
  generalize a / 3 % 3 = f at *
  generalize b % 3 = n at *
  generalize b / 3 % 3 = g at *
  have pl := punch_law hm hf hn hg
  obtain ⟨L, hL⟩ : ∃ L, looseG g = L := ⟨_, rfl⟩
  rw [hL] at pl
  unfold looseG at hL
  rw [hL]
  have hB : Hid (Below w.heap.size w ((((w1.alloc (.cells #[.int .i64 m, .int .i64 f] 23)).alloc (.cells #[.int .i64 n, .int .i64 g] 23)).alloc (.cells #[.int .i64 n, .int .i64 L] 23)).alloc (.cells #[.int .i64 2, .int .i64 2] 23))) := by show Below _ _ _; (have zz0 := Below.size b1; (try simp at zz0); repeat (first | with_reducible exact Below.refl _ _ | with_reducible refine Below.drew ?_ | with_reducible refine below_drewN ?_ _ | with_reducible refine Below.alloc ?_ (by first | omega | (simp; done) | (simp; omega)) _ | with_reducible refine Below.setCell ?_ (by first | omega | (simp; done) | (simp; omega)) _ | (with_reducible refine Below.trans ?_ (Below.mono b1 (by first | omega | (simp; done) | (simp; omega))))))
  have LL : Last ((((w1.alloc (.cells #[.int .i64 m, .int .i64 f] 23)).alloc (.cells #[.int .i64 n, .int .i64 g] 23)).alloc (.cells #[.int .i64 n, .int .i64 L] 23)).alloc (.cells #[.int .i64 2, .int .i64 2] 23)) w1.heap.size (w1.heap.size + 1) (w1.heap.size + 1 + 1) (w1.heap.size + 1 + 1 + 1) m f n g L := by
    have h0 := Cs.new w1 [.int .i64 m, .int .i64 f] 23
    have h1 := Cs.new (w1.alloc (.cells #[.int .i64 m, .int .i64 f] 23)) [.int .i64 n, .int .i64 g] 23
    have h2 := Cs.new ((w1.alloc (.cells #[.int .i64 m, .int .i64 f] 23)).alloc (.cells #[.int .i64 n, .int .i64 g] 23)) [.int .i64 n, .int .i64 L] 23
    have h3 := Cs.new (((w1.alloc (.cells #[.int .i64 m, .int .i64 f] 23)).alloc (.cells #[.int .i64 n, .int .i64 g] 23)).alloc (.cells #[.int .i64 n, .int .i64 L] 23)) [.int .i64 2, .int .i64 2] 23
    simp only [World.size_alloc] at h1 h2 h3
    exact ⟨((h0.alloc _).alloc _).alloc _, (h1.alloc _).alloc _, h2.alloc _, h3⟩
  clear hL b1 ha0 ha1 hb0 hb1 hm hf hn hg
  generalize ((((w1.alloc (.cells #[.int .i64 m, .int .i64 f] 23)).alloc (.cells #[.int .i64 n, .int .i64 g] 23)).alloc (.cells #[.int .i64 n, .int .i64 L] 23)).alloc (.cells #[.int .i64 2, .int .i64 2] 23)) = w4 at *
  generalize w1.heap.size = x at *
  have k0 := LL.X.cell 0 _ rfl
  have k1 := LL.X.cell 1 _ rfl
  by_cases em : m = 0
  · by_cases ef : f = 2
    · subst em ef
      go_upto_region 9 with fail
      have x0 := cell_regrown (LL.X.cell 0 _ rfl)
      have x1 := cell_regrown (LL.X.cell 1 _ rfl)
      have y0 := cell_regrown (LL.Y.cell 0 _ rfl)
      have y1 := cell_regrown (LL.Y.cell 1 _ rfl)
      have z0 := cell_regrown (LL.Z.cell 0 _ rfl)
      have z1 := cell_regrown (LL.Z.cell 1 _ rfl)
      have s0 := cell_regrown (LL.S.cell 0 _ rfl)
      have s1 := cell_regrown (LL.S.cell 1 _ rfl)
      have K1 := fun d os => Calls.regrown_of (punch_any 0 2 n g (grow (redrawn w4 d) os))
      have K2 := fun d os => Calls.regrown_of (punch_any n g 0 2 (grow (redrawn w4 d) os))
      have K3 := fun d os => Calls.regrown_of (punch_any 2 2 2 2 (grow (redrawn w4 d) os))
      have K4 := fun d os => Calls.regrown_of (punch_any 0 2 n L (grow (redrawn w4 d) os))
      have K5 := fun d os => Calls.regrown_of (through_any 0 2 n g (grow (redrawn w4 d) os))
      have K6 := fun d os => Calls.regrown_of (through_any n g 0 2 (grow (redrawn w4 d) os))
      rw [punch_comm n g 0 2] at K2
      rw [show punchT 2 2 2 2 = false by decide] at K3
      clear LL k0 k1
      cases hP : punchT 0 2 n g
      · rw [hP] at K1 K2
        clear K4 K5 K6 hP pl
        (refine wp_region_quiet_below (by kernel_rfl) (by kernel_rfl) ?_; (repeat (go_big_quiet_step (first | with_reducible exact K1 _ _ | with_reducible exact K2 _ _ | with_reducible exact K3 _ _ | with_reducible exact K4 _ _ | with_reducible exact K5 _ _ | with_reducible exact K6 _ _))); refine wpQuiet_nil ?_; intro _ hw'; obtain ⟨⟨dq, osq⟩, hw''⟩ := hw'; subst hw'')
        go_wp2
        go_ret
        exact ⟨rfl, hB.out.trans ((below_regrown w4 dq osq).mono hB.out.size)⟩
      · have hC := pl.2 hP
        have hT := punch_through hP
        clear pl
        rw [hP] at K1 K2
        rw [hC] at K4
        rcases hT with hD | hE
        · rw [hD] at K5
          clear K6 hP hC hD
          (refine wp_region_quiet_below (by kernel_rfl) (by kernel_rfl) ?_; (repeat (go_big_quiet_step (first | with_reducible exact K1 _ _ | with_reducible exact K2 _ _ | with_reducible exact K3 _ _ | with_reducible exact K4 _ _ | with_reducible exact K5 _ _ | with_reducible exact K6 _ _))); refine wpQuiet_nil ?_; intro _ hw'; obtain ⟨⟨dq, osq⟩, hw''⟩ := hw'; subst hw'')
          go_wp2
          go_ret
          exact ⟨rfl, hB.out.trans ((below_regrown w4 dq osq).mono hB.out.size)⟩
        · rw [hE] at K6
          cases hD : thruT 0 2 n g
          · rw [hD] at K5
            clear hP hC hD hE
            (refine wp_region_quiet_below (by kernel_rfl) (by kernel_rfl) ?_; (repeat (go_big_quiet_step (first | with_reducible exact K1 _ _ | with_reducible exact K2 _ _ | with_reducible exact K3 _ _ | with_reducible exact K4 _ _ | with_reducible exact K5 _ _ | with_reducible exact K6 _ _))); refine wpQuiet_nil ?_; intro _ hw'; obtain ⟨⟨dq, osq⟩, hw''⟩ := hw'; subst hw'')
            go_wp2
            go_ret
            exact ⟨rfl, hB.out.trans ((below_regrown w4 dq osq).mono hB.out.size)⟩
          · rw [hD] at K5
            clear K6 hP hC hD hE
            (refine wp_region_quiet_below (by kernel_rfl) (by kernel_rfl) ?_; (repeat (go_big_quiet_step (first | with_reducible exact K1 _ _ | with_reducible exact K2 _ _ | with_reducible exact K3 _ _ | with_reducible exact K4 _ _ | with_reducible exact K5 _ _ | with_reducible exact K6 _ _))); refine wpQuiet_nil ?_; intro _ hw'; obtain ⟨⟨dq, osq⟩, hw''⟩ := hw'; subst hw'')
            go_wp2
            go_ret
            exact ⟨rfl, hB.out.trans ((below_regrown w4 dq osq).mono hB.out.size)⟩
    · subst em
      have ef' : (f == 2) = false := by rw [beq_eq_false_iff_ne]; exact ef
      have e2 : (f != 2) = true := by simp [bne, ef']
      go_upto_region 9 with fail
      have x0 := cell_regrown (LL.X.cell 0 _ rfl)
      have x1 := cell_regrown (LL.X.cell 1 _ rfl)
      have y0 := cell_regrown (LL.Y.cell 0 _ rfl)
      have y1 := cell_regrown (LL.Y.cell 1 _ rfl)
      have z0 := cell_regrown (LL.Z.cell 0 _ rfl)
      have z1 := cell_regrown (LL.Z.cell 1 _ rfl)
      have s0 := cell_regrown (LL.S.cell 0 _ rfl)
      have s1 := cell_regrown (LL.S.cell 1 _ rfl)
      have K1 := fun d os => Calls.regrown_of (punch_any 0 f n g (grow (redrawn w4 d) os))
      have K2 := fun d os => Calls.regrown_of (punch_any n g 0 f (grow (redrawn w4 d) os))
      have K3 := fun d os => Calls.regrown_of (punch_any 2 2 2 2 (grow (redrawn w4 d) os))
      have K4 := fun d os => Calls.regrown_of (punch_any 0 f n L (grow (redrawn w4 d) os))
      have K5 := fun d os => Calls.regrown_of (through_any 0 f n g (grow (redrawn w4 d) os))
      have K6 := fun d os => Calls.regrown_of (through_any n g 0 f (grow (redrawn w4 d) os))
      rw [punch_comm n g 0 f] at K2
      rw [show punchT 2 2 2 2 = false by decide] at K3
      clear LL k0 k1
      have hP := pl.1 rfl ef
      have hC := pl.2 hP
      have hT := punch_through hP
      clear pl ef ef' e2
      rw [hP] at K1 K2
      rw [hC] at K4
      rcases hT with hD | hE
      · rw [hD] at K5
        clear K6 hP hC hD
        (refine wp_region_quiet_below (by kernel_rfl) (by kernel_rfl) ?_; (repeat (go_big_quiet_step (first | with_reducible exact K1 _ _ | with_reducible exact K2 _ _ | with_reducible exact K3 _ _ | with_reducible exact K4 _ _ | with_reducible exact K5 _ _ | with_reducible exact K6 _ _))); refine wpQuiet_nil ?_; intro _ hw'; obtain ⟨⟨dq, osq⟩, hw''⟩ := hw'; subst hw'')
        go_wp2
        go_ret
        exact ⟨rfl, hB.out.trans ((below_regrown w4 dq osq).mono hB.out.size)⟩
      · rw [hE] at K6
        cases hD : thruT 0 f n g
        · rw [hD] at K5
          clear hP hC hD hE
          (refine wp_region_quiet_below (by kernel_rfl) (by kernel_rfl) ?_; (repeat (go_big_quiet_step (first | with_reducible exact K1 _ _ | with_reducible exact K2 _ _ | with_reducible exact K3 _ _ | with_reducible exact K4 _ _ | with_reducible exact K5 _ _ | with_reducible exact K6 _ _))); refine wpQuiet_nil ?_; intro _ hw'; obtain ⟨⟨dq, osq⟩, hw''⟩ := hw'; subst hw'')
          go_wp2
          go_ret
          exact ⟨rfl, hB.out.trans ((below_regrown w4 dq osq).mono hB.out.size)⟩
        · rw [hD] at K5
          clear K6 hP hC hD hE
          (refine wp_region_quiet_below (by kernel_rfl) (by kernel_rfl) ?_; (repeat (go_big_quiet_step (first | with_reducible exact K1 _ _ | with_reducible exact K2 _ _ | with_reducible exact K3 _ _ | with_reducible exact K4 _ _ | with_reducible exact K5 _ _ | with_reducible exact K6 _ _))); refine wpQuiet_nil ?_; intro _ hw'; obtain ⟨⟨dq, osq⟩, hw''⟩ := hw'; subst hw'')
          go_wp2
          go_ret
          exact ⟨rfl, hB.out.trans ((below_regrown w4 dq osq).mono hB.out.size)⟩
  · have em' : (m == 0) = false := by rw [beq_eq_false_iff_ne]; exact em
    go_upto_region 9 with fail
    have x0 := cell_regrown (LL.X.cell 0 _ rfl)
    have x1 := cell_regrown (LL.X.cell 1 _ rfl)
    have y0 := cell_regrown (LL.Y.cell 0 _ rfl)
    have y1 := cell_regrown (LL.Y.cell 1 _ rfl)
    have z0 := cell_regrown (LL.Z.cell 0 _ rfl)
    have z1 := cell_regrown (LL.Z.cell 1 _ rfl)
    have s0 := cell_regrown (LL.S.cell 0 _ rfl)
    have s1 := cell_regrown (LL.S.cell 1 _ rfl)
    have K1 := fun d os => Calls.regrown_of (punch_any m f n g (grow (redrawn w4 d) os))
    have K2 := fun d os => Calls.regrown_of (punch_any n g m f (grow (redrawn w4 d) os))
    have K3 := fun d os => Calls.regrown_of (punch_any 2 2 2 2 (grow (redrawn w4 d) os))
    have K4 := fun d os => Calls.regrown_of (punch_any m f n L (grow (redrawn w4 d) os))
    have K5 := fun d os => Calls.regrown_of (through_any m f n g (grow (redrawn w4 d) os))
    have K6 := fun d os => Calls.regrown_of (through_any n g m f (grow (redrawn w4 d) os))
    rw [punch_comm n g m f] at K2
    rw [show punchT 2 2 2 2 = false by decide] at K3
    clear LL k0 k1
    cases hP : punchT m f n g
    · rw [hP] at K1 K2
      clear K4 K5 K6 hP pl
      (refine wp_region_quiet_below (by kernel_rfl) (by kernel_rfl) ?_; (repeat (go_big_quiet_step (first | with_reducible exact K1 _ _ | with_reducible exact K2 _ _ | with_reducible exact K3 _ _ | with_reducible exact K4 _ _ | with_reducible exact K5 _ _ | with_reducible exact K6 _ _))); refine wpQuiet_nil ?_; intro _ hw'; obtain ⟨⟨dq, osq⟩, hw''⟩ := hw'; subst hw'')
      go_wp2
      go_ret
      exact ⟨rfl, hB.out.trans ((below_regrown w4 dq osq).mono hB.out.size)⟩
    · have hC := pl.2 hP
      have hT := punch_through hP
      clear pl
      rw [hP] at K1 K2
      rw [hC] at K4
      rcases hT with hD | hE
      · rw [hD] at K5
        clear K6 hP hC hD
        (refine wp_region_quiet_below (by kernel_rfl) (by kernel_rfl) ?_; (repeat (go_big_quiet_step (first | with_reducible exact K1 _ _ | with_reducible exact K2 _ _ | with_reducible exact K3 _ _ | with_reducible exact K4 _ _ | with_reducible exact K5 _ _ | with_reducible exact K6 _ _))); refine wpQuiet_nil ?_; intro _ hw'; obtain ⟨⟨dq, osq⟩, hw''⟩ := hw'; subst hw'')
        go_wp2
        go_ret
        exact ⟨rfl, hB.out.trans ((below_regrown w4 dq osq).mono hB.out.size)⟩
      · rw [hE] at K6
        cases hD : thruT m f n g
        · rw [hD] at K5
          clear hP hC hD hE
          (refine wp_region_quiet_below (by kernel_rfl) (by kernel_rfl) ?_; (repeat (go_big_quiet_step (first | with_reducible exact K1 _ _ | with_reducible exact K2 _ _ | with_reducible exact K3 _ _ | with_reducible exact K4 _ _ | with_reducible exact K5 _ _ | with_reducible exact K6 _ _))); refine wpQuiet_nil ?_; intro _ hw'; obtain ⟨⟨dq, osq⟩, hw''⟩ := hw'; subst hw'')
          go_wp2
          go_ret
          exact ⟨rfl, hB.out.trans ((below_regrown w4 dq osq).mono hB.out.size)⟩
        · rw [hD] at K5
          clear K6 hP hC hD hE
          (refine wp_region_quiet_below (by kernel_rfl) (by kernel_rfl) ?_; (repeat (go_big_quiet_step (first | with_reducible exact K1 _ _ | with_reducible exact K2 _ _ | with_reducible exact K3 _ _ | with_reducible exact K4 _ _ | with_reducible exact K5 _ _ | with_reducible exact K6 _ _))); refine wpQuiet_nil ?_; intro _ hw'; obtain ⟨⟨dq, osq⟩, hw''⟩ := hw'; subst hw'')
          go_wp2
          go_ret
          exact ⟨rfl, hB.out.trans ((below_regrown w4 dq osq).mono hB.out.size)⟩

theorem rulePunch_run (a b : Int) (w : World) (ha : (Lit.int .u8 a).wf = true) (hb : (Lit.int .u8 b).wf = true) (ht : Tab w) :
    Calls Tryd.prog 4 #[.int .u8 a, .int .u8 b] w fun e w' => e = .returned (.bool true) ∧ Below w.heap.size w w' :=
  rulePunch_walk a b (bounds_u8 ha) (bounds_u8 hb) w ht


theorem rulePunch_own : ownKnob Tryd.prog.godebug = none := by kernel_rfl
theorem rulePunch_laid : laidOutB Tryd.prog = true := by kernel_rfl
set_option maxRecDepth 100000 in
theorem rulePunch_lifted (os : Os) (started : os.Started) (H : Type) (enc : TypeId × Value → H) :
    ReturnsInHanded {} Tryd.checked os 4 .any (fun w args => (Rows.rulePunchSpec.pre enc Tryd.prog Tryd.f4 [] false w args ∧ laidMetH Tryd.prog seatLaid w) ∧ sizedMet enc Tryd.prog Tryd.f4 (OpenSpec.ofChange Rows.rulePunchSpec) false w args) (Rows.rulePunchSpec.post enc Tryd.prog Tryd.f4 false true false false) := by
  refine returnsInHanded_of_change_and (C := Tryd.checked) (X := fun w _ => laidMetH Tryd.prog seatLaid w) (fun _ _ _ hh h => h.of_heap hh) rulePunch_own started (by kernel_rfl) Tryd.func4
    (ChangeSpec.witness_shaped (enc := enc) (C := Tryd.checked) (os := os) (X := fun w _ => laidMetH Tryd.prog seatLaid w) false (World.doorLaid Tryd.prog seatSteps os) #[.int .u8 0, .int .u8 0] 8 rfl (World.shaped_of_RefB (by kernel_rfl) (by kernel_rfl)) (by kernel_rfl) (by kernel_rfl) (by kernel_rfl) (door_met os _)) ?_
  intro W base args ds gs before hval0 hW hcnd hsz hL _
  have hval : ∀ (j : Nat) t v, Tryd.f4.params[j]? = some t → args[j]? = some v → Value.okWide Tryd.prog W .any base t v := hval0
  have hW' := hW
  obtain ⟨p, q, hA0, hV, rfl, hfz, hnd⟩ := hW
  have hA : DataW.TrodAll enc Tryd.prog W 0 (fun _ => true) true Tryd.f4.params.toList args.toList ds p := hA0
  rw [Tryd.params4] at hA hval
  obtain ⟨v0, vs0, d0, ds0, p0, q0, hargs, rfl, rfl, h0, r0⟩ := trodAll_cons hA
  obtain ⟨v1, vs1, d1, ds1, p1, q1, rfl, rfl, rfl, h1, r1⟩ := trodAll_cons r0
  obtain ⟨rfl, rfl, rfl⟩ := trodAll_nil r1
  obtain rfl : args = #[v0, v1] := by cases args; simp_all
  obtain ⟨rfl, rfl⟩ := trodVars_none hV
  obtain ⟨a0, rfl, rfl, rfl, w0⟩ := open_int Tryd.underlying5 (hval 0 5 v0 rfl rfl) h0
  obtain ⟨a1, rfl, rfl, rfl, w1⟩ := open_int Tryd.underlying5 (hval 1 5 v1 rfl rfl) h1
  clear hA0 hval0
  refine (rulePunch_run a0 a1 W w0 w1 (tab_of_laid hL)).mono fun e W' ⟨he, bel⟩ => ?_
  subst he
  exact ⟨_, rfl, _, _, _, [], _, [], hW', trodAll_mk1 (shut_bool Tryd.underlying4 _), (trodAll_cons_mk (shut_int Tryd.underlying5 w0) (trodAll_cons_mk (shut_int Tryd.underlying5 w1) trodAll_mk0)), rfl, bel.frame _, fun h => by cases h⟩
theorem rulePunch_over : Rows.rulePunchRow.holds Tryd.pinned (OpenSpec.ofChange Rows.rulePunchSpec) :=
  OpenClaim.holds_of_wide 4 Tryd.f4 rfl rfl rfl rfl rfl rfl rfl ⟨rfl, rfl, rfl, rfl, rfl⟩ rfl rfl rfl rfl rfl (by kernel_rfl) Tryd.func4 (by kernel_rfl)
    (of_decide_eq_true (by kernel_rfl)) (by unfold Func.isWrapper; first | (rw [if_pos (by decide +kernel)]; kernel_rfl) | (rw [if_neg (by decide +kernel)]; exact ⟨rfl, rfl⟩))
    (fun os started H enc _ => rulePunch_lifted os started H enc)
theorem rulePunch_holds : Rows.RulePunchCardSaid :=
  Claim7.holds_tied_plain_at .later [] [.data] true Rows.rulePunchCard.stood.harness false rulePunch_over (fun _ h => by cases h) (by kernel_rfl) (fun _ h => by cases h) rulePunch_row_tie rfl ⟨rfl, rfl⟩ (by kernel_rfl) rfl
    (fun f fn hf hfn => by
      obtain rfl : f = 4 := Option.some.inj ((show Tryd.prog.funcNamed "scuttlebutt/scuttlebuttlaw07.RulePunch" = some 4 by kernel_rfl).symm.trans hf) |>.symm
      obtain rfl : fn = Tryd.f4 := (Option.some.inj (Tryd.func4.symm.trans hfn)).symm
      exact ⟨by kernel_rfl, fun j t ht => by
        rw [Tryd.params4] at ht
        have hm : t ∈ [5, 5] := by simpa using Array.mem_of_getElem? ht
        have hall : ([5, 5].all fun u => !Tryd.prog.wantsStandIn u) = true := by kernel_rfl
        exact (show Tryd.prog.wantsStandIn t = false by simpa using List.all_eq_true.1 hall t hm)⟩)
    (by kernel_rfl)
#print axioms rulePunch_holds
end Go.Proofs.YthlbagcdindhdaaDoor
