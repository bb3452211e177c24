/- The statement PackBad: for every text, size and number of bytes: a reader that is bad reads nothing any more, and is never done. No conditions. -/
import Derived.Test.YtopidocnohoilaaPackEx
import Derived.ChangeOld
import Derived.ChangeMaps5
import Derived.ShutString
import Derived.OpenShut
import Derived.SizedLaws
namespace Go.Proofs.Ytopidocnohoilaa
open Go.RowKit Go.ChangeShapes Go.WideShapes Go.ChangeAt
open Go.ChangeMaps (open_string shut_string)
set_option linter.unusedVariables false
set_option linter.unusedSimpArgs false

set_option maxRecDepth 100000 in
set_option maxHeartbeats 1600000 in
theorem packBad_walk (s : ByteArray) (z n : Int) (hs : s.size ≤ 9223372036854775807) (hz : -9223372036854775808 ≤ z ∧ z ≤ 9223372036854775807) (hn : 0 ≤ n ∧ n ≤ 255) (w : World) :
    Calls Try.prog 6 #[.string s, .int .i64 z, .int .u8 n] w fun e w' => e = .returned (.bool true) ∧ Below w.heap.size w w' := by
  have e1 : Hid (rdn s false 9 = (0, ⟨#[]⟩, true)) := rdn_no (by unfold okN; omega)
  have e2 : ∀ z, Hid (rdn ⟨#[]⟩ true z = (0, ⟨#[]⟩, true)) := fun z => rdn_bad _ z
  have e3 : Hid (rtx ⟨#[]⟩ true = (⟨#[]⟩, ⟨#[]⟩, true)) := rtx_bad _
  have hem : (⟨#[]⟩ : ByteArray).size ≤ 9223372036854775807 := by decide
  obtain ⟨n0, n1⟩ := hn
  obtain ⟨z0, z1⟩ := hz
  go_enter Try.func6, Try.ntmps6
  go_wp2_with fail
  refine (examples_yes _).mono ?_; rintro e w1 ⟨rfl, b1⟩
  go_wp2_with fail
  refine (read_any _ _).mono ?_; rintro e w2 ⟨rfl, b2⟩
  go_wp2_with fail
  refine (num_is e1 hs _).mono ?_; rintro e w3 ⟨rfl, b3⟩
  go_wp2_with fail
  refine (num_is (e2 _) hem _).mono ?_; rintro e w4 ⟨rfl, b4⟩; obtain ⟨hc4, hf4, hz4⟩ := bcell b4; (try simp at hz4); have kc4_0 := fun o => hc4 (w3.heap.size) o (by first | omega | (simp; done) | (simp; omega)); have kf4_0 := fun o => hf4 (w3.heap.size) o (by first | omega | (simp; done) | (simp; omega)); have kl4_0 : w3.heap.size < w4.heap.size := (by omega); clear hc4 hf4
  go_wp2_with fail
  refine (txr_is e3 hem _).mono ?_; rintro e w5 ⟨rfl, b5⟩; obtain ⟨hc5, hf5, hz5⟩ := bcell b5; (try simp at hz5); have kc5_0 := fun o => hc5 (w3.heap.size) o (by first | omega | (simp; done) | (simp; omega)); have kf5_0 := fun o => hf5 (w3.heap.size) o (by first | omega | (simp; done) | (simp; omega)); have kl5_0 : w3.heap.size < w5.heap.size := (by omega); have kc5_1 := fun o => hc5 (w4.heap.size) o (by first | omega | (simp; done) | (simp; omega)); have kf5_1 := fun o => hf5 (w4.heap.size) o (by first | omega | (simp; done) | (simp; omega)); have kl5_1 : w4.heap.size < w5.heap.size := (by omega); clear hc5 hf5
  go_wp2_with fail
  refine (num_is (e2 _) hem _).mono ?_; rintro e w6 ⟨rfl, b6⟩; obtain ⟨hc6, hf6, hz6⟩ := bcell b6; (try simp at hz6); have kc6_0 := fun o => hc6 (w3.heap.size) o (by first | omega | (simp; done) | (simp; omega)); have kf6_0 := fun o => hf6 (w3.heap.size) o (by first | omega | (simp; done) | (simp; omega)); have kl6_0 : w3.heap.size < w6.heap.size := (by omega); have kc6_1 := fun o => hc6 (w4.heap.size) o (by first | omega | (simp; done) | (simp; omega)); have kf6_1 := fun o => hf6 (w4.heap.size) o (by first | omega | (simp; done) | (simp; omega)); have kl6_1 : w4.heap.size < w6.heap.size := (by omega); have kc6_2 := fun o => hc6 (w5.heap.size) o (by first | omega | (simp; done) | (simp; omega)); have kf6_2 := fun o => hf6 (w5.heap.size) o (by first | omega | (simp; done) | (simp; omega)); have kl6_2 : w5.heap.size < w6.heap.size := (by omega); clear hc6 hf6
  go_wp2_with fail
  refine (done_bad _ _).mono ?_; rintro e w7 ⟨rfl, b7⟩
  go_wp2_with fail
  go_ret
  refine ⟨rfl, ?_⟩
  (have zz0 := Below.size b7; (try simp at zz0); have zz1 := Below.size b6; (try simp at zz1); have zz2 := Below.size b5; (try simp at zz2); have zz3 := Below.size b4; (try simp at zz3); have zz4 := Below.size b3; (try simp at zz4); have zz5 := Below.size b2; (try simp at zz5); have zz6 := Below.size b1; (try simp at zz6); repeat (first | exact Below.refl _ _ | refine Below.drew ?_ | refine below_drewN ?_ _ | refine Below.alloc ?_ (by first | omega | (simp; done) | (simp; omega)) _ | refine Below.setCell ?_ (by first | omega | (simp; done) | (simp; omega)) _ | (with_reducible refine Below.trans ?_ (Below.mono b7 (by first | omega | (simp; done) | (simp; omega)))) | (with_reducible refine Below.trans ?_ (Below.mono b6 (by first | omega | (simp; done) | (simp; omega)))) | (with_reducible refine Below.trans ?_ (Below.mono b5 (by first | omega | (simp; done) | (simp; omega)))) | (with_reducible refine Below.trans ?_ (Below.mono b4 (by first | omega | (simp; done) | (simp; omega)))) | (with_reducible refine Below.trans ?_ (Below.mono b3 (by first | omega | (simp; done) | (simp; omega)))) | (with_reducible refine Below.trans ?_ (Below.mono b2 (by first | omega | (simp; done) | (simp; omega)))) | (with_reducible refine Below.trans ?_ (Below.mono b1 (by first | omega | (simp; done) | (simp; omega))))))

theorem packBad_run (s : ByteArray) (z n : Int) (w : World) (ws : s.size ≤ 140737488355327) (wz : (Lit.int .i64 z).wf = true) (wn : (Lit.int .u8 n).wf = true) :
    Calls Try.prog 6 #[.string s, .int .i64 z, .int .u8 n] w fun e w' => e = .returned (.bool true) ∧ Below w.heap.size w w' :=
  packBad_walk s z n (by omega) (bounds_i64 wz) (bounds_u8 wn) w

theorem packBad_own : ownKnob Try.prog.godebug = none := by kernel_rfl
theorem packBad_laid : laidOutB Try.prog = true := by kernel_rfl
set_option maxRecDepth 100000 in
theorem packBad_lifted (os : Os) (started : os.Started) (H : Type) (enc : TypeId × Value → H) :
    ReturnsInHanded {} Try.checked os 6 .any (Rows.packBadSpec.pre6 enc Try.prog Try.f6 Rows.packBadRow.domain false) (Rows.packBadSpec.post enc Try.prog Try.f6 false true false false) := by
  refine returnsInHanded_of_change_sized (C := Try.checked) packBad_own started (by kernel_rfl) Try.func6
    (ChangeSpec.witness6 (enc := enc) (C := Try.checked) false ⟨#[], #[.string ⟨#[]⟩, .int .i64 0, .int .u8 0], []⟩ 8 (by kernel_rfl) (by kernel_rfl) (by kernel_rfl) (by kernel_rfl)) ?_
  intro W base args ds gs before hval0 hW hcnd hsz _
  have hval : ∀ (j : Nat) t v, Try.f6.params[j]? = some t → args[j]? = some v → Value.okWide Try.prog W .any base t v := hval0
  have hW' := hW
  obtain ⟨p, q, hA0, hV, rfl, hfz, hnd⟩ := hW
  have hA : DataW.TrodAll enc Try.prog W 0 (fun _ => true) true Try.f6.params.toList args.toList ds p := hA0
  rw [Try.params6] at hA hval
  obtain ⟨v0, vs0, d0, ds0, p0, q0, hargs, rfl, rfl, h0, r0⟩ := trodAll_cons hA
  obtain ⟨v1, vs1, d1, ds1, p1, q1, rfl, rfl, rfl, h1, r1⟩ := trodAll_cons r0
  obtain ⟨v2, vs2, d2, ds2, p2, q2, rfl, rfl, rfl, h2, r2⟩ := trodAll_cons r1
  obtain ⟨rfl, rfl, rfl⟩ := trodAll_nil r2
  obtain rfl : args = #[v0, v1, v2] := by cases args; simp_all
  obtain ⟨rfl, rfl⟩ := trodVars_none hV
  obtain ⟨a0, rfl, rfl, rfl, m0⟩ := open_string Try.underlying9 (hval 0 9 v0 rfl rfl) h0
  obtain ⟨a1, rfl, rfl, rfl, w1⟩ := open_int Try.underlying3 (hval 1 3 v1 rfl rfl) h1
  obtain ⟨a2, rfl, rfl, rfl, w2⟩ := open_int Try.underlying5 (hval 2 5 v2 rfl rfl) h2
  have w0 : a0.size ≤ 140737488355327 := by
    have h := sized_string (j := 0) (t := 9) (bytes := a0.data.toList) hsz rfl rfl
    have h2 := reachBytes_lt
    have h3 := Lib.size_eq a0
    omega
  clear hA0 hval0
  refine (packBad_run a0 a1 a2 W w0 w1 w2).mono fun e W' ⟨he, bel⟩ => ?_
  subst he
  exact ⟨_, rfl, _, _, _, [], _, [], hW', trodAll_mk1 (shut_bool Try.underlying4 _), (trodAll_cons_mk (shut_string Try.underlying9 m0) (trodAll_cons_mk (shut_int Try.underlying3 w1) (trodAll_cons_mk (shut_int Try.underlying5 w2) trodAll_mk0))), rfl, bel.frame _, fun h => by cases h⟩
theorem packBad_over : Rows.packBadRow.holds Try.pinned (OpenSpec.ofChange Rows.packBadSpec) :=
  OpenClaim.holds_of_wide 6 Try.f6 rfl rfl rfl rfl rfl rfl rfl ⟨rfl, rfl, rfl, rfl, rfl⟩ rfl rfl rfl rfl rfl (by kernel_rfl) Try.func6 (by kernel_rfl)
    (of_decide_eq_true (by kernel_rfl)) (by unfold Func.isWrapper; first | (rw [if_pos (by decide +kernel)]; kernel_rfl) | (rw [if_neg (by decide +kernel)]; exact ⟨rfl, rfl⟩))
    (fun os started H enc _ => packBad_lifted os started H enc)
theorem packBad_holds : Rows.PackBadSaid := packBad_over
#print axioms packBad_holds
end Go.Proofs.Ytopidocnohoilaa
