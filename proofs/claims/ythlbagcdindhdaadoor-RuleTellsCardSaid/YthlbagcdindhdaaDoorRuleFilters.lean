/- The statement RuleFilters: whoever passes a strict filter passes a less strict one, who was met passes all, of a filter that is none nobody passes; for every list of addresses (its first 12) and every address. No conditions but the row's own: the table of words lies as the program's text lays it. -/
import Derived.Test.YthlbagcdindhdaaDoorRuleLaid
import Derived.SevenTiedAt
import Derived.ChangeOld
import Derived.ChangeMaps5
import Derived.ShutString
import Derived.OpenShut
import Derived.SizedLaws
import Derived.Lib.SmallJoins
import Derived.Deep.DeepCutAuto
import Derived.Deep.SlicePairs
namespace Go.Proofs.YthlbagcdindhdaaDoor
open Go.Sort Go.RowKit Go.BigFrame Go.ChangeShapes Go.WideShapes Go.ChangeAt
open Go.ChangeMaps (open_string shut_string)
set_option linter.unusedVariables false
set_option linter.unusedSimpArgs false

/-- what is known of a slice of addresses that came in: the first k are a list that can be read -/
theorem pair_list {w : World} {a : Option Addr} {len cap : Nat} (h : PairRow (IsInt .u32) (IsInt .u16) w a len cap) : ∀ k, k ≤ len → ∃ l : List (Int × Int), l.length = k ∧ RdA w w.heap.size a l := by
  intro k hk
  by_cases h0 : 0 < len
  · obtain ⟨b, off, rfl, hb, hc⟩ := h.at_ h0
    suffices ∃ l : List (Int × Int), l.length = k ∧ ∀ i (h : i < l.length), w.cell? ⟨b, off + i * 2, none⟩ = some (.int .u32 l[i].1) ∧ w.cell? ⟨b, off + i * 2 + 1, none⟩ = some (.int .u16 l[i].2) by
      obtain ⟨l, hl, hx⟩ := this
      exact ⟨l, hl, fun _ => ⟨b, off, rfl, hb, hx⟩⟩
    induction k with
    | zero => exact ⟨[], rfl, fun i h => absurd h (by simp)⟩
    | succ k ih =>
      obtain ⟨l, hl, hx⟩ := ih (by omega)
      obtain ⟨v0, v1, e0, e1, ⟨n0, rfl, _⟩, ⟨n1, rfl, _⟩⟩ := hc k (by omega)
      refine ⟨l ++ [(n0, n1)], by simp [hl], fun i hi => ?_⟩
      have hi2 : i < l.length + 1 := by simpa using hi
      by_cases hik : i < l.length
      · rw [List.getElem_append_left hik]; exact hx i hik
      · obtain rfl : i = k := by omega
        rw [List.getElem_append_right (by omega)]
        simp only [hl, Nat.sub_self, List.getElem_cons_zero]
        exact ⟨e0, e1⟩
  · obtain rfl : k = 0 := by omega
    exact ⟨[], rfl, RdA.nil _ _ _⟩

set_option maxRecDepth 100000 in
set_option maxHeartbeats 16000000 in
theorem ruleFilters_walk (a : Option Addr) (len cap m : Nat) (l : List (Int × Int)) (p q t : Int) (own : Bool) (hm : m = min len 12) (hlm : l.length = m) (hlen : len ≤ 9223372036854775807) (hcap : len ≤ cap) (ht0 : 0 ≤ t ∧ t ≤ 255) (w : World) (hr : RdA w w.heap.size a l) (ht : Tab w) :
    Calls Tryd.prog 6 #[.slice a len cap, .agg #[.int .u32 p, .int .u16 q], .int .u8 t, .bool own] w fun e w' => e = .returned (.bool true) ∧ Below w.heap.size w w' := by
  have hm1 : m ≤ 12 := by omega
  have hm2 : m ≤ cap := by omega
  have HM := Lib.hid hm
  have HT := Lib.hid ht
  have HR := Lib.hid hr
  have PA : Hid (∀ (f p q : Int) (w : World), RdA w w.heap.size a l → Calls Tryd.prog 14 #[.agg #[.int .i64 0, .int .i64 f], .slice a m cap, .agg #[.int .u32 p, .int .u16 q]] w fun e w' => e = .returned (.bool (passT f l p q)) ∧ Below w.heap.size w w') := fun f p q w hr => by
    have h := passes_any 0 f a cap l (by omega) p q w hr
    rw [hlm] at h
    exact h
  have HL := Lib.hid hlm
  clear hm ht hr hlm
  have X : Hid (Cs w.heap.size [.int .u32 p, .int .u16 q] (w.alloc (.cells #[.int .u32 p, .int .u16 q] 28))) := Cs.new w [.int .u32 p, .int .u16 q] 28
  have hB : Hid (Below w.heap.size w (w.alloc (.cells #[.int .u32 p, .int .u16 q] 28))) := by show Below _ _ _; (repeat (first | with_reducible exact Below.refl _ _ | with_reducible refine Below.drew ?_ | with_reducible refine below_drewN ?_ _ | with_reducible refine Below.alloc ?_ (by first | omega | (simp; done) | (simp; omega)) _ | with_reducible refine Below.setCell ?_ (by first | omega | (simp; done) | (simp; omega)) _))
  go_enter Tryd.func6, Tryd.ntmps6
  go_wp2_with fail
  refine (examples_yes _ (HT.out.below hB.out)).mono ?_; rintro e w1 ⟨rfl, d⟩
  replace hB : Hid (Below w.heap.size w _) := (hB.out).trans (d.mono (hB.out).size); replace X := Lib.hid (X.out.keep d); clear d
  clear HT
  go_upto_region 4 with fail
  go_cut [0] (fun x wx => x = .slice a m cap ∧ w1 = wx)
  case first =>
    by_cases h12 : len ≤ 12
    · obtain rfl : m = len := by have := HM.out; omega
      go_wp2_with fail
      go_meet
      exact ⟨rfl, rfl⟩
    · obtain rfl : m = 12 := by have := HM.out; omega
      go_wp2_with fail
      go_meet
      exact ⟨rfl, rfl⟩
  case rest =>
    obtain ⟨rfl, rfl⟩ := hcut
    clear HM hlen hcap
    have hmi : (m : Int) ≤ 12 := by omega
    by_cases h0 : m = 0
    · subst h0
      obtain rfl : l = [] := List.eq_nil_of_length_eq_zero HL.out
      replace PA := PA.out
      have x0 := X.out.cell 0 _ rfl
      have x1 := X.out.cell 1 _ rfl
      have xl := X.out.lt
      have P0 := PA 0 p q
      have P1 := PA 1 p q
      have P2 := PA 2 p q
      have P3 := PA 3 p q
      rw [show passT 0 [] p q = true from rfl] at P0
      rw [show passT 1 [] p q = hostIn [] p from rfl] at P1
      rw [show passT 2 [] p q = bothIn [] p q from rfl] at P2
      rw [show passT 3 [] p q = false from rfl] at P3
      rw [show hostIn [] p = false from rfl] at P1
      rw [show bothIn [] p q = false from rfl] at P2
      clear PA HL
      cases own
      all_goals
        go_wp2_with fail
        refine (P0 _ ((HR.out.below hB.out).more hB.out.size)).mono ?_; rintro e w11 ⟨rfl, d⟩
        replace hB : Hid (Below w.heap.size w _) := (hB.out).trans (d.mono (hB.out).size); replace X := Lib.hid (X.out.keep d); clear d
        clear x0 x1 xl
        have x0 := X.out.cell 0 _ rfl
        have x1 := X.out.cell 1 _ rfl
        have xl := X.out.lt
        go_wp2_with fail
        refine (P1 _ ((HR.out.below hB.out).more hB.out.size)).mono ?_; rintro e w12 ⟨rfl, d⟩
        replace hB : Hid (Below w.heap.size w _) := (hB.out).trans (d.mono (hB.out).size); replace X := Lib.hid (X.out.keep d); clear d
        clear x0 x1 xl
        have x0 := X.out.cell 0 _ rfl
        have x1 := X.out.cell 1 _ rfl
        have xl := X.out.lt
        go_wp2_with fail
        refine (P2 _ ((HR.out.below hB.out).more hB.out.size)).mono ?_; rintro e w13 ⟨rfl, d⟩
        replace hB : Hid (Below w.heap.size w _) := (hB.out).trans (d.mono (hB.out).size); replace X := Lib.hid (X.out.keep d); clear d
        clear x0 x1 xl
        have x0 := X.out.cell 0 _ rfl
        have x1 := X.out.cell 1 _ rfl
        have xl := X.out.lt
        go_wp2_with fail
        refine (P3 _ ((HR.out.below hB.out).more hB.out.size)).mono ?_; rintro e w14 ⟨rfl, d⟩
        replace hB : Hid (Below w.heap.size w _) := (hB.out).trans (d.mono (hB.out).size); replace X := Lib.hid (X.out.keep d); clear d
        clear x0 x1 xl
        have x0 := X.out.cell 0 _ rfl
        have x1 := X.out.cell 1 _ rfl
        have xl := X.out.lt
        go_wp2
        go_ret
        exact ⟨rfl, hB.out⟩
    · have hmp : (0 : Int) < m := by omega
      cases own
      · replace PA := PA.out
        have x0 := X.out.cell 0 _ rfl
        have x1 := X.out.cell 1 _ rfl
        have xl := X.out.lt
        have P0 := PA 0 p q
        have P1 := PA 1 p q
        have P2 := PA 2 p q
        have P3 := PA 3 p q
        rw [show passT 0 l p q = true from rfl] at P0
        rw [show passT 1 l p q = hostIn l p from rfl] at P1
        rw [show passT 2 l p q = bothIn l p q from rfl] at P2
        rw [show passT 3 l p q = false from rfl] at P3
        clear PA HL
        cases hc : bothIn l p q
        · rw [hc] at P2
          generalize hostIn l p = bb at *
          clear hc
          go_wp2_with fail
          refine (P0 _ ((HR.out.below hB.out).more hB.out.size)).mono ?_; rintro e w11 ⟨rfl, d⟩
          replace hB : Hid (Below w.heap.size w _) := (hB.out).trans (d.mono (hB.out).size); replace X := Lib.hid (X.out.keep d); clear d
          clear x0 x1 xl
          have x0 := X.out.cell 0 _ rfl
          have x1 := X.out.cell 1 _ rfl
          have xl := X.out.lt
          go_wp2_with fail
          refine (P1 _ ((HR.out.below hB.out).more hB.out.size)).mono ?_; rintro e w12 ⟨rfl, d⟩
          replace hB : Hid (Below w.heap.size w _) := (hB.out).trans (d.mono (hB.out).size); replace X := Lib.hid (X.out.keep d); clear d
          clear x0 x1 xl
          have x0 := X.out.cell 0 _ rfl
          have x1 := X.out.cell 1 _ rfl
          have xl := X.out.lt
          go_wp2_with fail
          refine (P2 _ ((HR.out.below hB.out).more hB.out.size)).mono ?_; rintro e w13 ⟨rfl, d⟩
          replace hB : Hid (Below w.heap.size w _) := (hB.out).trans (d.mono (hB.out).size); replace X := Lib.hid (X.out.keep d); clear d
          clear x0 x1 xl
          have x0 := X.out.cell 0 _ rfl
          have x1 := X.out.cell 1 _ rfl
          have xl := X.out.lt
          go_wp2_with fail
          refine (P3 _ ((HR.out.below hB.out).more hB.out.size)).mono ?_; rintro e w14 ⟨rfl, d⟩
          replace hB : Hid (Below w.heap.size w _) := (hB.out).trans (d.mono (hB.out).size); replace X := Lib.hid (X.out.keep d); clear d
          clear x0 x1 xl
          have x0 := X.out.cell 0 _ rfl
          have x1 := X.out.cell 1 _ rfl
          have xl := X.out.lt
          go_wp2
          go_ret
          exact ⟨rfl, hB.out⟩
        · rw [hc] at P2
          rw [both_host hc] at P1
          clear hc
          go_wp2_with fail
          refine (P0 _ ((HR.out.below hB.out).more hB.out.size)).mono ?_; rintro e w11 ⟨rfl, d⟩
          replace hB : Hid (Below w.heap.size w _) := (hB.out).trans (d.mono (hB.out).size); replace X := Lib.hid (X.out.keep d); clear d
          clear x0 x1 xl
          have x0 := X.out.cell 0 _ rfl
          have x1 := X.out.cell 1 _ rfl
          have xl := X.out.lt
          go_wp2_with fail
          refine (P1 _ ((HR.out.below hB.out).more hB.out.size)).mono ?_; rintro e w12 ⟨rfl, d⟩
          replace hB : Hid (Below w.heap.size w _) := (hB.out).trans (d.mono (hB.out).size); replace X := Lib.hid (X.out.keep d); clear d
          clear x0 x1 xl
          have x0 := X.out.cell 0 _ rfl
          have x1 := X.out.cell 1 _ rfl
          have xl := X.out.lt
          go_wp2_with fail
          refine (P2 _ ((HR.out.below hB.out).more hB.out.size)).mono ?_; rintro e w13 ⟨rfl, d⟩
          replace hB : Hid (Below w.heap.size w _) := (hB.out).trans (d.mono (hB.out).size); replace X := Lib.hid (X.out.keep d); clear d
          clear x0 x1 xl
          have x0 := X.out.cell 0 _ rfl
          have x1 := X.out.cell 1 _ rfl
          have xl := X.out.lt
          go_wp2_with fail
          refine (P3 _ ((HR.out.below hB.out).more hB.out.size)).mono ?_; rintro e w14 ⟨rfl, d⟩
          replace hB : Hid (Below w.heap.size w _) := (hB.out).trans (d.mono (hB.out).size); replace X := Lib.hid (X.out.keep d); clear d
          clear x0 x1 xl
          have x0 := X.out.cell 0 _ rfl
          have x1 := X.out.cell 1 _ rfl
          have xl := X.out.lt
          go_wp2
          go_ret
          exact ⟨rfl, hB.out⟩
      · obtain ⟨b, off, rfl, hbl, hc⟩ := HR.out.below hB.out (by rw [HL.out]; omega)
        obtain ⟨k, hk⟩ : ∃ k : Nat, (t % (m : Int)) = (k : Int) := ⟨(t % (m : Int)).toNat, by have := Int.emod_nonneg t (show (m : Int) ≠ 0 by omega); omega⟩
        have hk2 : t.tmod (m : Int) = (k : Int) := by rw [tmod_pos _ _ ht0.1]; exact hk
        have hkm : (k : Int) < m := by rw [← hk]; exact Int.emod_lt_of_pos _ hmp
        have hk0 : (0 : Int) ≤ k := by omega
        obtain ⟨c0, c1⟩ := hc k (by rw [HL.out]; omega)
        have hin : Hid (bothIn l (l[k]'(by rw [HL.out]; omega)).1 (l[k]'(by rw [HL.out]; omega)).2 = true) := both_mem (List.getElem_mem _)
        generalize (l[k]'(by rw [HL.out]; omega)) = r at *
        obtain ⟨p1, q1⟩ := r
        simp only at c0 c1 hin
        clear hc
        have x0 := X.out.cell 0 _ rfl
        have x1 := X.out.cell 1 _ rfl
        have xf0 := X.out.free 0 _ rfl
        have xf1 := X.out.free 1 _ rfl
        have xl := X.out.lt
        go_upto_region 7 with fail
        replace X : Hid (Cs w.heap.size [.int .u32 p1, .int .u16 q1] ((w1.setCell ⟨w.heap.size, 0, none⟩ (.int .u32 p1)).setCell ⟨w.heap.size, 1, none⟩ (.int .u16 q1))) := (X.out.set 0 _ (by simp)).set 1 _ (by simp)
        replace hB : Hid (Below w.heap.size w ((w1.setCell ⟨w.heap.size, 0, none⟩ (.int .u32 p1)).setCell ⟨w.heap.size, 1, none⟩ (.int .u16 q1))) := by
          have hb := hB.out
          show Below _ _ _
          (have zzh := Below.size hb; repeat (first | with_reducible exact hb | with_reducible refine Below.setCell ?_ (by first | omega | (simp; done) | (simp; omega)) _ | with_reducible refine Below.alloc ?_ (by first | omega | (simp; done) | (simp; omega)) _ | with_reducible refine Below.drew ?_))
        clear x0 x1 xf0 xf1 xl c0 c1 hk hk2 hkm hk0 hbl
        generalize ((w1.setCell ⟨w.heap.size, 0, none⟩ (.int .u32 p1)).setCell ⟨w.heap.size, 1, none⟩ (.int .u16 q1)) = wa at *
        replace PA := PA.out
        have x0 := X.out.cell 0 _ rfl
        have x1 := X.out.cell 1 _ rfl
        have xl := X.out.lt
        have P0 := PA 0 p1 q1
        have P1 := PA 1 p1 q1
        have P2 := PA 2 p1 q1
        have P3 := PA 3 p1 q1
        rw [show passT 0 l p1 q1 = true from rfl] at P0
        rw [show passT 1 l p1 q1 = hostIn l p1 from rfl, both_host hin.out] at P1
        rw [show passT 2 l p1 q1 = bothIn l p1 q1 from rfl, hin.out] at P2
        rw [show passT 3 l p1 q1 = false from rfl] at P3
        clear PA HL hin
        go_wp2_with fail
        refine (P0 _ ((HR.out.below hB.out).more hB.out.size)).mono ?_; rintro e w11 ⟨rfl, d⟩
        replace hB : Hid (Below w.heap.size w _) := (hB.out).trans (d.mono (hB.out).size); replace X := Lib.hid (X.out.keep d); clear d
        clear x0 x1 xl
        have x0 := X.out.cell 0 _ rfl
        have x1 := X.out.cell 1 _ rfl
        have xl := X.out.lt
        go_wp2_with fail
        refine (P1 _ ((HR.out.below hB.out).more hB.out.size)).mono ?_; rintro e w12 ⟨rfl, d⟩
        replace hB : Hid (Below w.heap.size w _) := (hB.out).trans (d.mono (hB.out).size); replace X := Lib.hid (X.out.keep d); clear d
        clear x0 x1 xl
        have x0 := X.out.cell 0 _ rfl
        have x1 := X.out.cell 1 _ rfl
        have xl := X.out.lt
        go_wp2_with fail
        refine (P2 _ ((HR.out.below hB.out).more hB.out.size)).mono ?_; rintro e w13 ⟨rfl, d⟩
        replace hB : Hid (Below w.heap.size w _) := (hB.out).trans (d.mono (hB.out).size); replace X := Lib.hid (X.out.keep d); clear d
        clear x0 x1 xl
        have x0 := X.out.cell 0 _ rfl
        have x1 := X.out.cell 1 _ rfl
        have xl := X.out.lt
        go_wp2_with fail
        refine (P3 _ ((HR.out.below hB.out).more hB.out.size)).mono ?_; rintro e w14 ⟨rfl, d⟩
        replace hB : Hid (Below w.heap.size w _) := (hB.out).trans (d.mono (hB.out).size); replace X := Lib.hid (X.out.keep d); clear d
        clear x0 x1 xl
        have x0 := X.out.cell 0 _ rfl
        have x1 := X.out.cell 1 _ rfl
        have xl := X.out.lt
        go_wp2
        go_ret
        exact ⟨rfl, hB.out⟩

theorem ruleFilters_run (a : Option Addr) (len cap : Nat) (p q t : Int) (own : Bool) (w : World) (wl : PairRow (IsInt .u32) (IsInt .u16) w a len cap) (_ : (Lit.int .u32 p).wf = true) (_ : (Lit.int .u16 q).wf = true) (wt : (Lit.int .u8 t).wf = true) (ht : Tab w) :
    Calls Tryd.prog 6 #[.slice a len cap, .agg #[.int .u32 p, .int .u16 q], .int .u8 t, .bool own] w fun e w' => e = .returned (.bool true) ∧ Below w.heap.size w w' := by
  obtain ⟨l, hl, hr⟩ := pair_list wl (min len 12) (by omega)
  have hcap : len ≤ cap := by rcases wl with ⟨_, h, _⟩ | ⟨_, _, h, _⟩ <;> omega
  exact ruleFilters_walk a len cap (min len 12) l p q t own rfl hl wl.len hcap (bounds_u8 wt) w hr ht


theorem ruleFilters_own : ownKnob Tryd.prog.godebug = none := by kernel_rfl
theorem ruleFilters_laid : laidOutB Tryd.prog = true := by kernel_rfl
set_option maxRecDepth 100000 in
theorem ruleFilters_lifted (os : Os) (started : os.Started) (H : Type) (enc : TypeId × Value → H) :
    ReturnsInHanded {} Tryd.checked os 6 .any (fun w args => (Rows.ruleFiltersSpec.pre enc Tryd.prog Tryd.f6 [] false w args ∧ laidMetH Tryd.prog seatLaid w) ∧ sizedMet enc Tryd.prog Tryd.f6 (OpenSpec.ofChange Rows.ruleFiltersSpec) false w args) (Rows.ruleFiltersSpec.post enc Tryd.prog Tryd.f6 false true false false) := by
  refine returnsInHanded_of_change_and (C := Tryd.checked) (X := fun w _ => laidMetH Tryd.prog seatLaid w) (fun _ _ _ hh h => h.of_heap hh) ruleFilters_own started (by kernel_rfl) Tryd.func6
    (ChangeSpec.witness_shaped (enc := enc) (C := Tryd.checked) (os := os) (X := fun w _ => laidMetH Tryd.prog seatLaid w) false (World.doorLaid Tryd.prog seatSteps os) #[.slice none 0 0, .agg #[.int .u32 0, .int .u16 0], .int .u8 0, .bool false] 8 rfl (World.shaped_of_RefB (by kernel_rfl) (by kernel_rfl)) (by kernel_rfl) (by kernel_rfl) (by kernel_rfl) (door_met os _)) ?_
  intro W base args ds gs before hval0 hW hcnd hsz hL _
  have hval : ∀ (j : Nat) t v, Tryd.f6.params[j]? = some t → args[j]? = some v → Value.okWide Tryd.prog W .any base t v := hval0
  have hW' := hW
  obtain ⟨p, q, hA0, hV, rfl, hfz, hnd⟩ := hW
  have hA : DataW.TrodAll enc Tryd.prog W 0 (fun _ => true) true Tryd.f6.params.toList args.toList ds p := hA0
  rw [Tryd.params6] at hA hval
  obtain ⟨v0, vs0, d0, ds0, p0, q0, hargs, rfl, rfl, h0, r0⟩ := trodAll_cons hA
  obtain ⟨v1, vs1, d1, ds1, p1, q1, rfl, rfl, rfl, h1, r1⟩ := trodAll_cons r0
  obtain ⟨v2, vs2, d2, ds2, p2, q2, rfl, rfl, rfl, h2, r2⟩ := trodAll_cons r1
  obtain ⟨v3, vs3, d3, ds3, p3, q3, rfl, rfl, rfl, h3, r3⟩ := trodAll_cons r2
  obtain ⟨rfl, rfl, rfl⟩ := trodAll_nil r3
  obtain rfl : args = #[v0, v1, v2, v3] := by cases args; simp_all
  obtain ⟨rfl, rfl⟩ := trodVars_none hV
  obtain ⟨a0, len0, cap0, rfl⟩ := okWide_slice Tryd.underlying24 (hval 0 24 v0 rfl rfl)
  have k0 := h0
  have lt0 : ∀ x ∈ p0, x.block < W.heap.size := by obtain ⟨m, hm⟩ := k0; exact DataW.trod_lt m _ _ _ hm
  have w0 : PairRow (IsInt .u32) (IsInt .u16) W a0 len0 cap0 := by
    obtain ⟨fuel, hf⟩ := h0
    rcases Deep.open_slice_pairs Tryd.underlying24 Tryd.underlying28 (by kernel_rfl) rfl rfl (by kernel_rfl) (by kernel_rfl) hf with ⟨hcs, _⟩ | ⟨x, l, c, m, n, V0, V1, D0, D1, P0, P1, hcs, _, hl, hm, hmm, _, hc⟩
    · simp [Value.cells] at hcs
      obtain ⟨rfl, rfl, rfl⟩ := hcs
      exact .inl ⟨rfl, rfl, rfl⟩
    · simp [Value.cells] at hcs
      obtain ⟨rfl, rfl, rfl⟩ := hcs
      refine .inr ⟨_, rfl, hl, hm, fun i hi => ?_⟩
      obtain ⟨g0, g1, g2, g3⟩ := hc i (by rw [hmm]; simp; omega)
      obtain ⟨u0, e0, _, z0⟩ := DataW.trod_int Tryd.underlying25 g2
      obtain ⟨u1, e1, _, z1⟩ := DataW.trod_int Tryd.underlying26 g3
      exact ⟨_, _, g0, g1, ⟨u0, (List.cons.inj e0).1, z0⟩, ⟨u1, (List.cons.inj e1).1, z1⟩⟩
  have k1 := h1
  have lt1 : ∀ x ∈ p1, x.block < W.heap.size := by obtain ⟨m, hm⟩ := k1; exact DataW.trod_lt m _ _ _ hm
  obtain ⟨c1_0, c1_1, y1_0, y1_1, n1, rfl, rfl, rfl, t1_0, t1_1⟩ := Joins.open_agg2 Tryd.underlying28 (by kernel_rfl) (by kernel_rfl) (hval 1 28 v1 rfl rfl) h1
  obtain ⟨a1_0, e1_0, rfl, w1_0⟩ := DataW.trod_int Tryd.underlying25 t1_0
  obtain rfl := (List.cons.inj e1_0).1
  obtain ⟨a1_1, e1_1, rfl, w1_1⟩ := DataW.trod_int Tryd.underlying26 t1_1
  obtain rfl := (List.cons.inj e1_1).1
  obtain ⟨a2, rfl, rfl, rfl, w2⟩ := open_int Tryd.underlying5 (hval 2 5 v2 rfl rfl) h2
  obtain ⟨a3, rfl, rfl, rfl⟩ := open_bool Tryd.underlying4 (hval 3 4 v3 rfl rfl) h3
  clear hA0 hval0
  refine (ruleFilters_run a0 len0 cap0 a1_0 a1_1 a2 a3 W w0 w1_0 w1_1 w2 (tab_of_laid hL)).mono fun e W' ⟨he, bel⟩ => ?_
  subst he
  exact ⟨_, rfl, _, _, _, [], _, [], hW', trodAll_mk1 (shut_bool Tryd.underlying4 _), (trodAll_cons_mk (Below.trod ruleFilters_laid (by kernel_rfl) (of_decide_eq_true (by kernel_rfl)) k0 bel lt0) (trodAll_cons_mk (Below.trod ruleFilters_laid (by kernel_rfl) (of_decide_eq_true (by kernel_rfl)) k1 bel lt1) (trodAll_cons_mk (shut_int Tryd.underlying5 w2) (trodAll_cons_mk (shut_bool Tryd.underlying4 _) trodAll_mk0)))), rfl, bel.frame _, fun h => by cases h⟩
theorem ruleFilters_over : Rows.ruleFiltersRow.holds Tryd.pinned (OpenSpec.ofChange Rows.ruleFiltersSpec) :=
  OpenClaim.holds_of_wide 6 Tryd.f6 rfl rfl rfl rfl rfl rfl rfl ⟨rfl, rfl, rfl, rfl, rfl⟩ rfl rfl rfl rfl rfl (by kernel_rfl) Tryd.func6 (by kernel_rfl)
    (of_decide_eq_true (by kernel_rfl)) (by unfold Func.isWrapper; first | (rw [if_pos (by decide +kernel)]; kernel_rfl) | (rw [if_neg (by decide +kernel)]; exact ⟨rfl, rfl⟩))
    (fun os started H enc _ => ruleFilters_lifted os started H enc)
theorem ruleFilters_holds : Rows.RuleFiltersCardSaid :=
  Claim7.holds_tied_plain_at .later [] [.data] true Rows.ruleFiltersCard.stood.harness false ruleFilters_over (fun _ h => by cases h) (by kernel_rfl) (fun _ h => by cases h) ruleFilters_row_tie rfl ⟨rfl, rfl⟩ (by kernel_rfl) rfl
    (fun f fn hf hfn => by
      obtain rfl : f = 6 := Option.some.inj ((show Tryd.prog.funcNamed "scuttlebutt/scuttlebuttlaw07.RuleFilters" = some 6 by kernel_rfl).symm.trans hf) |>.symm
      obtain rfl : fn = Tryd.f6 := (Option.some.inj (Tryd.func6.symm.trans hfn)).symm
      exact ⟨by kernel_rfl, fun j t ht => by
        rw [Tryd.params6] at ht
        have hm : t ∈ [24, 28, 5, 4] := by simpa using Array.mem_of_getElem? ht
        have hall : ([24, 28, 5, 4].all fun u => !Tryd.prog.wantsStandIn u) = true := by kernel_rfl
        exact (show Tryd.prog.wantsStandIn t = false by simpa using List.all_eq_true.1 hall t hm)⟩)
    (by kernel_rfl)
#print axioms ruleFilters_holds
end Go.Proofs.YthlbagcdindhdaaDoor
