/- ReachClass: it is unknown till there were rounds enough; public as long as something was heard in one of the last ones, else private: for any number of rounds, in whichever of at most forty something is heard. -/
import Derived.Test.YtnkjepemliccpaaRcArg
namespace Go.Proofs.Ytnkjepemliccpaa
open Go.Sort Go.RowKit Go.BigFrame Go.ChangeShapes Go.WideShapes Go.Deep
set_option linter.unusedVariables false
set_option linter.unusedSimpArgs false

def revL (f : Nat → Bool) : Nat → List Bool
  | 0 => []
  | i + 1 => f i :: revL f i
def sinceF (f : Nat → Bool) : Nat → Nat
  | 0 => 1000
  | i + 1 => if f i = true then 0 else sinceF f i + 1
theorem rev_len (f : Nat → Bool) : ∀ i, (revL f i).length = i
  | 0 => rfl
  | i + 1 => by show (revL f i).length + 1 = _; rw [rev_len f i]
theorem since_le (f : Nat → Bool) : ∀ i, sinceF f i ≤ 1000 + i
  | 0 => Nat.le_refl _
  | i + 1 => by
    have := since_le f i
    show (if f i = true then 0 else sinceF f i + 1) ≤ _
    split <;> omega
theorem any_since (f : Nat → Bool) : ∀ i m, m ≤ 1000 → ((revL f i).take m).any id = decide (sinceF f i < m)
  | 0, m, hm => by
    show (List.take m []).any id = decide (1000 < m)
    rw [decide_eq_false (by omega)]; simp
  | i + 1, 0, hm => by rw [decide_eq_false (by omega)]; rfl
  | i + 1, m + 1, hm => by
    show (f i :: (revL f i).take m).any id = decide ((if f i = true then 0 else sinceF f i + 1) < m + 1)
    rw [List.any_cons, any_since f i m (by omega)]
    cases hf : f i with
    | true => simp
    | false =>
      simp
theorem take_take_cons {α : Type} (n : Nat) (a : α) (l : List α) : (a :: l.take n).take n = (a :: l).take n := by
  cases n with
  | zero => rfl
  | succ n => simp [List.take_take]
/-- what the loop keeps -/
structure KeepC (n : Nat) (f : Nat → Bool) (i : Nat) (k : Rc) : Prop where
  r : k.rounds = n
  on : k.on = false
  past : k.past = (revL f i).take n
theorem class_of {n i : Nat} {f : Nat → Bool} {k : Rc} (h : KeepC n f i k) (hn : n ≤ 8) : classI k = if i < n then 0 else if sinceF f i < n then 1 else 2 := by
  unfold classI
  rw [h.r, h.past, List.length_take, rev_len, any_since f i n (by omega)]
  by_cases hi : i < n
  · rw [if_pos (by omega), if_pos hi]
  · rw [if_neg (by omega), if_neg hi]
    simp only [decide_eq_true_eq]
theorem keep_end {n i : Nat} {f : Nat → Bool} {k : Rc} (h : KeepC n f i k) (s : Int) {b : Bool} (hb : f i = b) : KeepC n f (i + 1) (endD { k with on := true, seq := s, got := b }) := by
  rw [endD_yes rfl]
  refine ⟨h.r, rfl, ?_⟩
  show (b :: k.past).take k.rounds = (f i :: revL f i).take n
  rw [h.past, h.r, hb, take_take_cons]
theorem end_seq (k : Rc) : (endD k).seq = k.seq := by unfold endD; split <;> rfl
def ClJ (n : Nat) (f : Nat → Bool) (w : World) (g : Nat) (sv iv : Value) (wr : World) : Prop := ∃ (i : Nat) (k : Rc), iv = .int .i64 (i : Nat) ∧ sv = .int .i64 (sinceF f i : Nat) ∧ i ≤ 40 ∧ KeepC n f i k ∧ St w [hR g k] wr
set_option maxHeartbeats 12800000 in
set_option maxRecDepth 20000 in
theorem class_walk (y : Int) (a : Option Addr) (m cap : Nat) (f : Nat → Bool) (w : World) (hml : m ≤ 9223372036854775807) (hr : Hid (RdB w w.heap.size a m f)) (hy : 0 ≤ y ∧ y < 256) :
    Calls Try.prog 4 #[.int .u8 y, .slice a m cap] w fun e w' => e = .returned (.bool true) ∧ Below w.heap.size w w' := by
  have E := ex_any w
  obtain ⟨q, hq⟩ : ∃ q : Nat, y % 8 = q := ⟨(y % 8).toNat, by omega⟩
  have hq8 : q ≤ 7 := by omega
  have hym : y.tmod 8 = q := by rw [tmod_pos _ _ hy.1]; exact hq
  have ym8 := IntWalk.u8_in (q : Int) ⟨by omega, by omega⟩
  have ym64 := IntWalk.i64_in (q : Int) ⟨by omega, by omega⟩
  obtain ⟨n, hn⟩ : ∃ n : Nat, n = 1 + q := ⟨_, rfl⟩
  have hnq : (1 : Int) + q = n := by omega
  have ym1 : IntKind.i64.wrap (1 + (q : Int)) = n := by rw [hnq]; exact IntWalk.i64_in _ ⟨by omega, by omega⟩
  have hn1 : 1 ≤ n := by omega
  have hn8 : n ≤ 8 := by omega
  have hA : argN n 10 = false := by
    unfold argN
    rw [decide_eq_false (by omega), decide_eq_false (by omega)]; rfl
  clear hq hy hn
  go_enter Try.func4, Try.ntmps4
  go_wp2_with fail
  refine E.mono ?_; rintro e w0 ⟨rfl, b0'⟩
  have K := new_l (r := n) (h := 10) hA (by decide) (n := n) (Int.toNat_natCast n) (St.start w w0 b0')
  clear E b0' hA
  go_wp2_with fail
  refine K.mono ?_; rintro e w1 ⟨g, rfl, s⟩
  have S0 : Hid (ClJ n f w g (.int .i64 1000) (.int .i64 0) w1) := ⟨0, _, rfl, rfl, by omega, ⟨rfl, rfl, by show [] = List.take n []; simp⟩, s⟩
  clear K s ym1 hym ym8 ym64 hnq
  go_wp2_with fail
  go_loopw [9, 10, 11] (fun sv iv _ wr => ClJ n f w g sv iv wr) (fun _ iv _ _ => 41 - (intOf iv).toNat)
  case atStart => exact S0.out
  case round =>
    obtain ⟨i, k, rfl, rfl, hi, hk, hs⟩ := hrel
    clear S0
    have HS := Lib.hid hs
    have HK := Lib.hid hk
    have HSL := Lib.hid (since_le f i)
    have hI0 : (0 : Int) ≤ i := by omega
    clear hs hk
    obtain ⟨bb, hbb⟩ : ∃ bb, bb = (decide ((i : Int) < m) && decide ((i : Int) < 40)) := ⟨_, rfl⟩
    replace hbb := Lib.hid hbb
    go_upto_region 10 with fail
    go_cut [37] (fun c wx => c = .bool bb ∧ wr = wx)
    case first =>
      by_cases c1 : (i : Int) < m
      · by_cases c2 : (i : Int) < 40
        · have hq : bb = true := by rw [hbb.out, decide_eq_true c1, decide_eq_true c2]; rfl
          subst hq
          go_wp2_with fail
          go_meet
          exact ⟨rfl, rfl⟩
        · have hq : bb = false := by rw [hbb.out, decide_eq_false c2, Bool.and_false]
          subst hq
          go_wp2_with fail
          go_meet
          exact ⟨rfl, rfl⟩
      · have hq : bb = false := by rw [hbb.out, decide_eq_false c1, Bool.false_and]
        subst hq
        go_wp2_with fail
        go_meet
        exact ⟨rfl, rfl⟩
    case rest =>
    obtain ⟨rfl, rfl⟩ := hcut
    cases bb with
    | false =>
      have BE := Lib.hid HS.out.below
      clear hbb HS HK HSL
      go_wp2
      go_ret
      exact ⟨rfl, BE.out⟩
    | true =>
      have h1 : i < m ∧ i < 40 := by
        have := hbb.out
        simp only [Bool.true_eq, Bool.and_eq_true, decide_eq_true_eq] at this
        omega
      clear hbb
      have h1n : (i : Int) < m := by omega
      have hi1 : Hid (i + 1 ≤ 40) := by show i + 1 ≤ 40; omega
      obtain ⟨ba, oa, rfl, hbl, hcc⟩ := (hr.out.below HS.out.below) (by omega)
      have R1 : Hid (∀ w', Below w.heap.size w w' → w'.cell? ⟨ba, oa + i, none⟩ = some (.bool (f i)) ∧ ba < w'.heap.size) := fun w' b => by
        obtain ⟨ba', oa', e, hb2, hc2⟩ := (hr.out.below b) (by omega)
        injection e with e
        injection e with e1 e2
        subst e1 e2
        exact ⟨hc2 i (by omega), Nat.lt_of_lt_of_le hb2 b.size⟩
      clear hcc hbl
      have i8 := IntWalk.i64_in ((i : Int) + 1) ⟨by omega, by omega⟩
      have iu : IntKind.u32.wrap (i : Int) = i := IntWalk.u32_in _ ⟨by omega, by omega⟩
      have iu1 : IntKind.u32.wrap ((i : Int) + 1) = (i : Int) + 1 := IntWalk.u32_in _ ⟨by omega, by omega⟩
      have hR := roundD_yes (k := k) (seq := (i : Int)) (now := 0) (by decide) HK.out.on
      have K := round_l (i : Int) 0 hR.1 hR.2 [] [] HS.out
      have hN : heardB { k with on := true, seq := (i : Int), got := false } ((i : Int) + 1) = false := by
        unfold heardB; simp; omega
      have hY : heardB { k with on := true, seq := (i : Int), got := false } (i : Int) = true := by unfold heardB; simp
      have hYD := heardD_yes hY
      have KE := Lib.hid (fun b hb => keep_end HK.out (i : Int) (b := b) hb)
      have SE : sinceF f (i + 1) = if f i = true then 0 else sinceF f i + 1 := rfl
      have CL := Lib.hid (fun k' h => class_of (n := n) (i := i + 1) (f := f) (k := k') h hn8)
      generalize hfi : f i = fi at *
      clear HS hR h1
      go_wp2_with fail
      refine K.mono ?_; rintro e w4 ⟨rfl, s⟩
      clear K
      have K := heard_l ((i : Int) + 1) hN (heardD_no hN) [] [] s
      clear s hN
      go_wp2_with fail
      refine K.mono ?_; rintro e w5 ⟨rfl, s⟩
      clear K
      have c0 := (R1.out w5 s.below).1
      have cl := (R1.out w5 s.below).2
      cases fi with
      | true =>
        have ES : Hid (sinceF f (i + 1) = 0) := by show _ = _; rw [SE]; rfl
        clear SE
        have K := heard_l (i : Int) hY hYD [] [] s
        clear s
        go_wp2_with fail
        refine K.mono ?_; rintro e w6 ⟨rfl, s⟩
        clear K c0 cl
        have KE2 := Lib.hid (KE.out true rfl)
        clear KE hYD hY
        have K := end_l (k := { k with on := true, seq := (i : Int), got := true }) rfl rfl [] [] s
        have hN2 : heardB (endD { k with on := true, seq := (i : Int), got := true }) (i : Int) = false := by unfold heardB; rw [KE2.out.on]; rfl
        clear s
        generalize endD { k with on := true, seq := (i : Int), got := true } = k' at *
        go_wp2_with fail
        refine K.mono ?_; rintro e w7 ⟨rfl, s⟩
        clear K
        have K := heard_l (i : Int) hN2 (heardD_no hN2) [] [] s
        clear s hN2
        go_wp2_with fail
        refine K.mono ?_; rintro e w8 ⟨rfl, s⟩
        clear K
        have HC := CL.out k' KE2.out
        rw [ES.out] at HC
        by_cases d1 : i + 1 < n
        · have d1' : (i : Int) + 1 < n := by omega
          have K := class_l (e := 0) (HC.trans (by rw [if_pos d1])) s (g := g) (by simp)
          clear s HC
          go_wp2_with fail
          refine K.mono ?_; rintro e w9 ⟨rfl, s⟩
          replace s := Lib.hid s
          clear K
          go_wp2
          go_roundw
          case rel => exact ⟨i + 1, k', by go_num, by rw [ES.out]; first | rfl | go_num, hi1.out, KE2.out, s.out⟩
          case measure => simp [intOf]; omega
        · have d1' : ¬ (i : Int) + 1 < n := by omega
          have d2' : (0 : Int) < n := by omega
          have K := class_l (e := 1) (HC.trans (by rw [if_neg d1, if_pos (by omega)])) s (g := g) (by simp)
          clear s HC
          go_wp2_with fail
          refine K.mono ?_; rintro e w9 ⟨rfl, s⟩
          replace s := Lib.hid s
          clear K
          go_wp2
          go_roundw
          case rel => exact ⟨i + 1, k', by go_num, by rw [ES.out]; first | rfl | go_num, hi1.out, KE2.out, s.out⟩
          case measure => simp [intOf]; omega
      | false =>
        have ES : Hid (sinceF f (i + 1) = sinceF f i + 1) := by show _ = _; rw [SE]; rfl
        clear SE
        have is8 := IntWalk.i64_in ((sinceF f i : Nat) + 1 : Int) ⟨by omega, by have := HSL.out; omega⟩
        have KE2 := Lib.hid (KE.out false rfl)
        clear KE hYD hY
        have K := end_l (k := { k with on := true, seq := (i : Int), got := false }) rfl rfl [] [] s
        have hN2 : heardB (endD { k with on := true, seq := (i : Int), got := false }) (i : Int) = false := by unfold heardB; rw [KE2.out.on]; rfl
        clear s
        generalize endD { k with on := true, seq := (i : Int), got := false } = k' at *
        go_wp2_with fail
        refine K.mono ?_; rintro e w7 ⟨rfl, s⟩
        clear K c0 cl
        have K := heard_l (i : Int) hN2 (heardD_no hN2) [] [] s
        clear s hN2
        go_wp2_with fail
        refine K.mono ?_; rintro e w8 ⟨rfl, s⟩
        clear K
        have HC := CL.out k' KE2.out
        rw [ES.out] at HC
        by_cases d1 : i + 1 < n
        · have d1' : (i : Int) + 1 < n := by omega
          have K := class_l (e := 0) (HC.trans (by rw [if_pos d1])) s (g := g) (by simp)
          clear s HC
          go_wp2_with fail
          refine K.mono ?_; rintro e w9 ⟨rfl, s⟩
          replace s := Lib.hid s
          clear K
          go_wp2
          go_roundw
          case rel => exact ⟨i + 1, k', by go_num, by rw [ES.out]; first | rfl | go_num, hi1.out, KE2.out, s.out⟩
          case measure => simp [intOf]; omega
        · have d1' : ¬ (i : Int) + 1 < n := by omega
          by_cases d2 : sinceF f i + 1 < n
          · have d2' : ((sinceF f i : Nat) : Int) + 1 < n := by omega
            have K := class_l (e := 1) (HC.trans (by rw [if_neg d1, if_pos d2])) s (g := g) (by simp)
            clear s HC
            go_wp2_with fail
            refine K.mono ?_; rintro e w9 ⟨rfl, s⟩
            replace s := Lib.hid s
            clear K
            go_wp2
            go_roundw
            case rel => exact ⟨i + 1, k', by go_num, by rw [ES.out]; first | rfl | go_num, hi1.out, KE2.out, s.out⟩
            case measure => simp [intOf]; omega
          · have d2' : ¬ ((sinceF f i : Nat) : Int) + 1 < n := by omega
            have K := class_l (e := 2) (HC.trans (by rw [if_neg d1, if_neg d2])) s (g := g) (by simp)
            clear s HC
            go_wp2_with fail
            refine K.mono ?_; rintro e w9 ⟨rfl, s⟩
            replace s := Lib.hid s
            clear K
            go_wp2
            go_roundw
            case rel => exact ⟨i + 1, k', by go_num, by rw [ES.out]; first | rfl | go_num, hi1.out, KE2.out, s.out⟩
            case measure => simp [intOf]; omega
theorem class_run (y : Int) (a : Option Addr) (len cap : Nat) (w : World) (wy : (Lit.int .u8 y).wf = true) (wz : BoolRow w a len cap) :
    Calls Try.prog 4 #[.int .u8 y, .slice a len cap] w fun e w' => e = .returned (.bool true) ∧ Below w.heap.size w w' := by
  obtain ⟨f, h1, h2⟩ := arg_bools wz
  have h5 := bounds_u8 wy
  exact class_walk y a len cap f w h2 h1 ⟨h5.1, by omega⟩
theorem reachClass_own : ownKnob Try.prog.godebug = none := by kernel_rfl
theorem reachClass_laid : laidOutB Try.prog = true := by kernel_rfl
set_option maxRecDepth 100000 in
theorem reachClass_lifted (os : Os) (started : os.Started) (H : Type) (enc : TypeId × Value → H) :
    ReturnsInHanded {} Try.checked os 4 .any (Rows.reachClassSpec.pre6 enc Try.prog Try.f4 Rows.reachClassRow.domain false) (Rows.reachClassSpec.post enc Try.prog Try.f4 false true false false) := by
  refine returnsInHanded_of_change (C := Try.checked) reachClass_own started (by kernel_rfl) Try.func4
    (ChangeSpec.witness6 (enc := enc) (C := Try.checked) false ⟨#[], #[.int .u8 0, .slice none 0 0], []⟩ 8 (by kernel_rfl) (by kernel_rfl) (by kernel_rfl) (by kernel_rfl)) ?_
  intro W base args ds gs before hval0 hW hcnd _
  have hval : ∀ (j : Nat) t v, Try.f4.params[j]? = some t → args[j]? = some v → Value.okWide Try.prog W .any base t v := hval0
  have hW' := hW
  obtain ⟨p, q, hA0, hV, rfl, hfz, hnd⟩ := hW
  have hA : DataW.TrodAll enc Try.prog W 0 (fun _ => true) true Try.f4.params.toList args.toList ds p := hA0
  rw [Try.params4] at hA hval
  obtain ⟨v0, vs0, d0, ds0, p0, q0, hargs, rfl, rfl, h0, r0⟩ := trodAll_cons hA
  obtain ⟨v1, vs1, d1, ds1, p1, q1, rfl, rfl, rfl, h1, r1⟩ := trodAll_cons r0
  obtain ⟨rfl, rfl, rfl⟩ := trodAll_nil r1
  obtain rfl : args = #[v0, v1] := by cases args; simp_all
  obtain ⟨rfl, rfl⟩ := trodVars_none hV
  obtain ⟨a0, rfl, rfl, rfl, w0⟩ := open_int Try.underlying5 (hval 0 5 v0 rfl rfl) h0
  obtain ⟨a1, len1, cap1, rfl⟩ := okWide_slice Try.underlying53 (hval 1 53 v1 rfl rfl)
  have k1 := h1
  have lt1 : ∀ x ∈ p1, x.block < W.heap.size := by obtain ⟨m, hm⟩ := k1; exact DataW.trod_lt m _ _ _ hm
  have w1 : BoolRow W a1 len1 cap1 := by
    obtain ⟨fuel, hf⟩ := h1
    rcases Deep.open_bools Try.underlying53 Try.underlying4 (by kernel_rfl) hf with ⟨hcs, _⟩ | ⟨x, l, c, B, hcs, _, hl, hm, _, hcell⟩
    · simp [Value.cells] at hcs
      obtain ⟨rfl, rfl, rfl⟩ := hcs
      exact .inl ⟨rfl, rfl, rfl⟩
    · simp [Value.cells] at hcs
      obtain ⟨rfl, rfl, rfl⟩ := hcs
      exact .inr ⟨_, rfl, hl, hm, B, hcell⟩
  clear hA0 hval0
  refine (class_run a0 a1 len1 cap1 W w0 w1).mono fun e W' ⟨he, bel⟩ => ?_
  subst he
  exact ⟨_, rfl, _, _, _, [], _, [], hW', trodAll_mk1 (shut_bool Try.underlying4 _), (trodAll_cons_mk (shut_int Try.underlying5 w0) (trodAll_cons_mk (Below.trod reachClass_laid (by kernel_rfl) (of_decide_eq_true (by kernel_rfl)) k1 bel lt1) trodAll_mk0)), rfl, bel.frame _, fun h => by cases h⟩
theorem reachClass_over : Rows.reachClassRow.holds Try.pinned (OpenSpec.ofChange Rows.reachClassSpec) :=
  OpenClaim.holds_of_wide 4 Try.f4 rfl rfl rfl rfl rfl rfl rfl ⟨rfl, rfl, rfl, rfl, rfl⟩ rfl rfl rfl rfl rfl (by kernel_rfl) Try.func4 (by kernel_rfl)
    (of_decide_eq_true (by kernel_rfl)) (by unfold Func.isWrapper; first | (rw [if_pos (by decide +kernel)]; kernel_rfl) | (rw [if_neg (by decide +kernel)]; exact ⟨rfl, rfl⟩))
    (fun os started H enc _ => reachClass_lifted os started H enc)
theorem reachClass_holds : Rows.ReachClassSaid := reachClass_over
#print axioms reachClass_holds
end Go.Proofs.Ytnkjepemliccpaa
