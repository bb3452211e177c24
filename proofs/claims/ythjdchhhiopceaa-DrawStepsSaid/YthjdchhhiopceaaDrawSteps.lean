/- The statement DrawSteps: for all seeds a, b and every n: each draw moves both streams by the same step, and two streams are the same just if their seeds are. No conditions. -/
import Derived.Test.YthjdchhhiopceaaDrawSame
import Derived.ChangeOld
import Derived.ShutString
import Derived.OpenShut
namespace Go.Proofs.Ythjdchhhiopceaa
open Go.RowKit Go.ChangeShapes Go.WideShapes Go.ChangeAt
set_option linter.unusedVariables false
set_option linter.unusedSimpArgs false

/-- two streams, in blocks p and q, as far as they have gone -/
structure TwoSt (w wr : World) (a b : Int) (p q : Nat) (s t : Int) : Prop where
  cs : wr.cell? ⟨p, 0, none⟩ = some (.int .u64 s)
  ct : wr.cell? ⟨q, 0, none⟩ = some (.int .u64 t)
  fs : wr.frozen? ⟨p, 0, none⟩ = false
  ft : wr.frozen? ⟨q, 0, none⟩ = false
  lp : p < wr.heap.size
  lq : q < wr.heap.size
  hp : w.heap.size ≤ p
  hq : w.heap.size ≤ q
  ne : ¬ p = q
  below : Below w.heap.size w wr
  rs : 0 ≤ s ∧ s ≤ 18446744073709551615
  rt : 0 ≤ t ∧ t ≤ 18446744073709551615
  alike : a = b ↔ s = t

def StepsJ (w : World) (a b m : Int) (p q : Nat) (i : Value) (wr : World) : Prop :=
  ∃ (k : Int) (s t : Int), i = .int .i64 k ∧ 0 ≤ k ∧ k ≤ m ∧ TwoSt w wr a b p q s t

theorem two_next {w wr w2 : World} {a b : Int} {p q : Nat} {s t : Int} (M : TwoSt w wr a b p q s t) (hb : Below w.heap.size w w2)
    (c1 : w2.cell? ⟨p, 0, none⟩ = some (.int .u64 (nx s))) (c2 : w2.cell? ⟨q, 0, none⟩ = some (.int .u64 (nx t))) (f1 : w2.frozen? ⟨p, 0, none⟩ = false) (f2 : w2.frozen? ⟨q, 0, none⟩ = false) (hz : wr.heap.size ≤ w2.heap.size) :
    TwoSt w w2 a b p q (nx s) (nx t) :=
  ⟨c1, c2, f1, f2, Nat.lt_of_lt_of_le M.lp hz, Nat.lt_of_lt_of_le M.lq hz, M.hp, M.hq, M.ne, hb, nx_range s, nx_range t,
    M.alike.trans ⟨fun h => by rw [h], fun h => nx_inj _ _ M.rs M.rt h⟩⟩

set_option maxRecDepth 100000 in
set_option maxHeartbeats 1600000 in
theorem drawSteps_walk (a b n : Int) (ha : 0 ≤ a ∧ a ≤ 18446744073709551615) (hb : 0 ≤ b ∧ b ≤ 18446744073709551615) (hn : 0 ≤ n ∧ n ≤ 255) (w : World) :
    Calls Try.prog 7 #[.int .u64 a, .int .u64 b, .int .u8 n] w fun e w' => e = .returned (.bool true) ∧ Below w.heap.size w w' := by
  obtain ⟨n0, n1⟩ := hn
  have hm0 := Int.emod_nonneg n (show (51 : Int) ≠ 0 by omega)
  have hm1 := Int.emod_lt_of_pos n (show (0 : Int) < 51 by omega)
  go_enter Try.func7, Try.ntmps7
  go_wp2_with fail
  refine (examples_yes _).mono ?_; rintro e w1 ⟨rfl, b1⟩
  go_wp2_with fail
  refine (new_any _ _).mono ?_; rintro e w2 ⟨rfl, b2⟩
  go_wp2_with fail
  refine (new_any _ _).mono ?_; rintro e w3 ⟨rfl, b3⟩; obtain ⟨hc3, hf3, hz3⟩ := bcell b3; (try simp at hz3); have kc3_0 := fun o => hc3 (w2.heap.size) o (by first | omega | (simp; done) | (simp; omega)); have kf3_0 := fun o => hf3 (w2.heap.size) o (by first | omega | (simp; done) | (simp; omega)); have kl3_0 : w2.heap.size < w3.heap.size := (by omega); clear hc3 hf3
  go_wp2_with fail
  go_loopw [10] (fun i wr => StepsJ w a b (n % 51) w2.heap.size w3.heap.size i wr) (fun i _ => ((n % 51) - intOf i).toNat)
  case atStart =>
    refine ⟨0, a, b, rfl, by omega, by omega, ?_⟩
    refine ⟨?_, ?_, ?_, ?_, ?_, ?_, ?_, ?_, ?_, ?_, ha, hb, Iff.rfl⟩
    · go_simp
    · go_simp
    · go_simp
    · go_simp
    · simp; omega
    · simp
    · have := b1.size; have := b2.size; omega
    · have := b1.size; have := b2.size; omega
    · omega
    · (have zz0 := Below.size b3; (try simp at zz0); have zz1 := Below.size b2; (try simp at zz1); have zz2 := Below.size b1; (try simp at zz2); repeat (first | exact Below.refl _ _ | refine Below.drew ?_ | refine below_drewN ?_ _ | refine Below.alloc ?_ (by first | omega | (simp; done) | (simp; omega)) _ | refine Below.setCell ?_ (by first | omega | (simp; done) | (simp; omega)) _ | (with_reducible refine Below.trans ?_ (Below.mono b3 (by first | omega | (simp; done) | (simp; omega)))) | (with_reducible refine Below.trans ?_ (Below.mono b2 (by first | omega | (simp; done) | (simp; omega)))) | (with_reducible refine Below.trans ?_ (Below.mono b1 (by first | omega | (simp; done) | (simp; omega))))))
  case round =>
    obtain ⟨k, s, t, rfl, k0, k1, M⟩ := hrel
    have MH := Lib.hid M
    have M1 := M.cs
    have M2 := M.ct
    have M3 := M.fs
    have M4 := M.ft
    have M5 := M.lp
    have M6 := M.lq
    have M7 : ¬ w2.heap.size = w3.heap.size := M.ne
    have M8 : ¬ w3.heap.size = w2.heap.size := fun h => M7 h.symm
    clear M
    by_cases hlt : k < n % 51
    · by_cases hab : a = b
      · subst hab
        obtain rfl : s = t := MH.out.alike.1 rfl
        go_wp2_with fail
        refine (next_any _ _).mono ?_; rintro e w4 ⟨rfl, b4⟩; obtain ⟨hc4, hf4, hz4⟩ := bcell b4; (try simp at hz4); have kc4_0 := fun o => hc4 (w2.heap.size) o (by first | omega | (simp; done) | (simp; omega)); have kf4_0 := fun o => hf4 (w2.heap.size) o (by first | omega | (simp; done) | (simp; omega)); have kl4_0 : w2.heap.size < w4.heap.size := (by omega); have kc4_1 := fun o => hc4 (w3.heap.size) o (by first | omega | (simp; done) | (simp; omega)); have kf4_1 := fun o => hf4 (w3.heap.size) o (by first | omega | (simp; done) | (simp; omega)); have kl4_1 : w3.heap.size < w4.heap.size := (by omega); clear hc4 hf4
        go_wp2_with fail
        refine (next_any _ _).mono ?_; rintro e w5 ⟨rfl, b5⟩; obtain ⟨hc5, hf5, hz5⟩ := bcell b5; (try simp at hz5); have kc5_0 := fun o => hc5 (w2.heap.size) o (by first | omega | (simp; done) | (simp; omega)); have kf5_0 := fun o => hf5 (w2.heap.size) o (by first | omega | (simp; done) | (simp; omega)); have kl5_0 : w2.heap.size < w5.heap.size := (by omega); have kc5_1 := fun o => hc5 (w3.heap.size) o (by first | omega | (simp; done) | (simp; omega)); have kf5_1 := fun o => hf5 (w3.heap.size) o (by first | omega | (simp; done) | (simp; omega)); have kl5_1 : w3.heap.size < w5.heap.size := (by omega); have kc5_2 := fun o => hc5 (w4.heap.size) o (by first | omega | (simp; done) | (simp; omega)); have kf5_2 := fun o => hf5 (w4.heap.size) o (by first | omega | (simp; done) | (simp; omega)); have kl5_2 : w4.heap.size < w5.heap.size := (by omega); clear hc5 hf5
        go_wp2_with fail
        go_roundw
        case rel =>
          refine ⟨k + 1, nx s, nx s, rfl, by omega, by omega, two_next MH.out ?_ ?_ ?_ ?_ ?_ ?_⟩
          · have mb := MH.out.below
            have mp := MH.out.hp
            have mq := MH.out.hq
            (have zz0 := Below.size b5; (try simp at zz0); have zz1 := Below.size b4; (try simp at zz1); have zz2 := Below.size mb; (try simp at zz2); repeat (first | exact Below.refl _ _ | refine Below.drew ?_ | refine below_drewN ?_ _ | refine Below.alloc ?_ (by first | omega | (simp; done) | (simp; omega)) _ | refine Below.setCell ?_ (by first | omega | (simp; done) | (simp; omega)) _ | (with_reducible refine Below.trans ?_ (Below.mono b5 (by first | omega | (simp; done) | (simp; omega)))) | (with_reducible refine Below.trans ?_ (Below.mono b4 (by first | omega | (simp; done) | (simp; omega)))) | (with_reducible refine Below.trans ?_ (Below.mono mb (by first | omega | (simp; done) | (simp; omega))))))
          · go_simp
          · go_simp
          · go_simp
          · go_simp
          · simp; omega
        case measure => simp [intOf] <;> omega
      · have hst : ¬ s = t := fun h => hab (MH.out.alike.2 h)
        have h1 : (a == b) = false := by simpa using hab
        have h2 : (nx s == nx t) = false := by simpa using fun h => hst (nx_inj _ _ MH.out.rs MH.out.rt h)
        have h3 : (num s == num t) = false := by simpa using fun h => hst (num_inj _ _ MH.out.rs MH.out.rt h)
        have h4 : IntKind.u64.wrap (nx s - s) = IntKind.u64.wrap (nx t - t) := nx_step _ _ MH.out.rs MH.out.rt
        clear hst
        go_wp2_with fail
        refine (next_any _ _).mono ?_; rintro e w4 ⟨rfl, b4⟩; obtain ⟨hc4, hf4, hz4⟩ := bcell b4; (try simp at hz4); have kc4_0 := fun o => hc4 (w2.heap.size) o (by first | omega | (simp; done) | (simp; omega)); have kf4_0 := fun o => hf4 (w2.heap.size) o (by first | omega | (simp; done) | (simp; omega)); have kl4_0 : w2.heap.size < w4.heap.size := (by omega); have kc4_1 := fun o => hc4 (w3.heap.size) o (by first | omega | (simp; done) | (simp; omega)); have kf4_1 := fun o => hf4 (w3.heap.size) o (by first | omega | (simp; done) | (simp; omega)); have kl4_1 : w3.heap.size < w4.heap.size := (by omega); clear hc4 hf4
        go_wp2_with fail
        refine (next_any _ _).mono ?_; rintro e w5 ⟨rfl, b5⟩; obtain ⟨hc5, hf5, hz5⟩ := bcell b5; (try simp at hz5); have kc5_0 := fun o => hc5 (w2.heap.size) o (by first | omega | (simp; done) | (simp; omega)); have kf5_0 := fun o => hf5 (w2.heap.size) o (by first | omega | (simp; done) | (simp; omega)); have kl5_0 : w2.heap.size < w5.heap.size := (by omega); have kc5_1 := fun o => hc5 (w3.heap.size) o (by first | omega | (simp; done) | (simp; omega)); have kf5_1 := fun o => hf5 (w3.heap.size) o (by first | omega | (simp; done) | (simp; omega)); have kl5_1 : w3.heap.size < w5.heap.size := (by omega); have kc5_2 := fun o => hc5 (w4.heap.size) o (by first | omega | (simp; done) | (simp; omega)); have kf5_2 := fun o => hf5 (w4.heap.size) o (by first | omega | (simp; done) | (simp; omega)); have kl5_2 : w4.heap.size < w5.heap.size := (by omega); clear hc5 hf5
        go_wp2_with fail
        go_roundw
        case rel =>
          refine ⟨k + 1, nx s, nx t, rfl, by omega, by omega, two_next MH.out ?_ ?_ ?_ ?_ ?_ ?_⟩
          · have mb := MH.out.below
            have mp := MH.out.hp
            have mq := MH.out.hq
            (have zz0 := Below.size b5; (try simp at zz0); have zz1 := Below.size b4; (try simp at zz1); have zz2 := Below.size mb; (try simp at zz2); repeat (first | exact Below.refl _ _ | refine Below.drew ?_ | refine below_drewN ?_ _ | refine Below.alloc ?_ (by first | omega | (simp; done) | (simp; omega)) _ | refine Below.setCell ?_ (by first | omega | (simp; done) | (simp; omega)) _ | (with_reducible refine Below.trans ?_ (Below.mono b5 (by first | omega | (simp; done) | (simp; omega)))) | (with_reducible refine Below.trans ?_ (Below.mono b4 (by first | omega | (simp; done) | (simp; omega)))) | (with_reducible refine Below.trans ?_ (Below.mono mb (by first | omega | (simp; done) | (simp; omega))))))
          · go_simp
          · go_simp
          · go_simp
          · go_simp
          · simp; omega
        case measure => simp [intOf] <;> omega
    · go_wp2
      go_ret
      exact ⟨rfl, MH.out.below⟩

theorem drawSteps_run (a b n : Int) (w : World) (wa : (Lit.int .u64 a).wf = true) (wb : (Lit.int .u64 b).wf = true) (wn : (Lit.int .u8 n).wf = true) :
    Calls Try.prog 7 #[.int .u64 a, .int .u64 b, .int .u8 n] w fun e w' => e = .returned (.bool true) ∧ Below w.heap.size w w' :=
  drawSteps_walk a b n (bounds_u64 wa) (bounds_u64 wb) (bounds_u8 wn) w

theorem drawSteps_own : ownKnob Try.prog.godebug = none := by kernel_rfl
theorem drawSteps_laid : laidOutB Try.prog = true := by kernel_rfl
set_option maxRecDepth 100000 in
theorem drawSteps_lifted (os : Os) (started : os.Started) (H : Type) (enc : TypeId × Value → H) :
    ReturnsInHanded {} Try.checked os 7 .any (Rows.drawStepsSpec.pre6 enc Try.prog Try.f7 Rows.drawStepsRow.domain false) (Rows.drawStepsSpec.post enc Try.prog Try.f7 false true false false) := by
  refine returnsInHanded_of_change (C := Try.checked) drawSteps_own started (by kernel_rfl) Try.func7
    (ChangeSpec.witness6 (enc := enc) (C := Try.checked) false ⟨#[], #[.int .u64 0, .int .u64 0, .int .u8 0], []⟩ 8 (by kernel_rfl) (by kernel_rfl) (by kernel_rfl) (by kernel_rfl)) ?_
  intro W base args ds gs before hval0 hW hcnd _
  have hval : ∀ (j : Nat) t v, Try.f7.params[j]? = some t → args[j]? = some v → Value.okWide Try.prog W .any base t v := hval0
  have hW' := hW
  obtain ⟨p, q, hA0, hV, rfl, hfz, hnd⟩ := hW
  have hA : DataW.TrodAll enc Try.prog W 0 (fun _ => true) true Try.f7.params.toList args.toList ds p := hA0
  rw [Try.params7] at hA hval
  obtain ⟨v0, vs0, d0, ds0, p0, q0, hargs, rfl, rfl, h0, r0⟩ := trodAll_cons hA
  obtain ⟨v1, vs1, d1, ds1, p1, q1, rfl, rfl, rfl, h1, r1⟩ := trodAll_cons r0
  obtain ⟨v2, vs2, d2, ds2, p2, q2, rfl, rfl, rfl, h2, r2⟩ := trodAll_cons r1
  obtain ⟨rfl, rfl, rfl⟩ := trodAll_nil r2
  obtain rfl : args = #[v0, v1, v2] := by cases args; simp_all
  obtain ⟨rfl, rfl⟩ := trodVars_none hV
  obtain ⟨a0, rfl, rfl, rfl, w0⟩ := open_int Try.underlying22 (hval 0 22 v0 rfl rfl) h0
  obtain ⟨a1, rfl, rfl, rfl, w1⟩ := open_int Try.underlying22 (hval 1 22 v1 rfl rfl) h1
  obtain ⟨a2, rfl, rfl, rfl, w2⟩ := open_int Try.underlying5 (hval 2 5 v2 rfl rfl) h2
  clear hA0 hval0
  refine (drawSteps_run a0 a1 a2 W w0 w1 w2).mono fun e W' ⟨he, bel⟩ => ?_
  subst he
  exact ⟨_, rfl, _, _, _, [], _, [], hW', trodAll_mk1 (shut_bool Try.underlying4 _), (trodAll_cons_mk (shut_int Try.underlying22 w0) (trodAll_cons_mk (shut_int Try.underlying22 w1) (trodAll_cons_mk (shut_int Try.underlying5 w2) trodAll_mk0))), rfl, bel.frame _, fun h => by cases h⟩
theorem drawSteps_over : Rows.drawStepsRow.holds Try.pinned (OpenSpec.ofChange Rows.drawStepsSpec) :=
  OpenClaim.holds_of_wide 7 Try.f7 rfl rfl rfl rfl rfl rfl rfl ⟨rfl, rfl, rfl, rfl, rfl⟩ rfl rfl rfl rfl rfl (by kernel_rfl) Try.func7 (by kernel_rfl)
    (of_decide_eq_true (by kernel_rfl)) (by unfold Func.isWrapper; first | (rw [if_pos (by decide +kernel)]; kernel_rfl) | (rw [if_neg (by decide +kernel)]; exact ⟨rfl, rfl⟩))
    (fun os started H enc _ => drawSteps_lifted os started H enc)
theorem drawSteps_holds : Rows.DrawStepsSaid := drawSteps_over
#print axioms drawSteps_holds
end Go.Proofs.Ythjdchhhiopceaa
