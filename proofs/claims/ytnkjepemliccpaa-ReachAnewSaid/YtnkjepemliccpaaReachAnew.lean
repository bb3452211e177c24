/- ReachAnew: as at first nothing is known: no class, no address, no round is on: whoever voted, in however many rounds something was heard. -/
import Derived.Test.YtnkjepemliccpaaRcArg
namespace Go.Proofs.Ytnkjepemliccpaa
open Go.Sort Go.RowKit Go.BigFrame Go.ChangeShapes Go.WideShapes Go.Deep
set_option linter.unusedVariables false
set_option linter.unusedSimpArgs false

/-- what the loops keep -/
structure KeepA (k : Rc) : Prop where
  r : k.rounds = 2
  h : k.hold = 100
  on : k.on = false
theorem keep_see {k : Rc} (h : KeepA k) (i : Int) (ip pt : Nat) (now : Int) : KeepA (seeD k i ip pt now) := by
  unfold seeD; split
  · exact ⟨h.r, h.h, h.on⟩
  · exact h
def AnJ (w : World) (g : Nat) (iv : Value) (wr : World) : Prop := ∃ (i : Nat) (k : Rc), iv = .int .i64 (i : Nat) ∧ i ≤ 20 ∧ KeepA k ∧ St w [hR g k] wr
def AmJ (m : Nat) (w : World) (g : Nat) (iv : Value) (wr : World) : Prop := ∃ (i : Nat) (k : Rc), iv = .int .i64 (i : Nat) ∧ i ≤ m ∧ KeepA k ∧ St w [hR g k] wr
theorem addr_new (now : Int) : addrR (newR 2 100) now = ⟨0, 0, 0⟩ := by
  have : allV (newR 2 100).vote = [] := by kernel_rfl
  unfold addrR; rw [this]; rfl
set_option maxHeartbeats 6400000 in
set_option maxRecDepth 20000 in
theorem anew_walk (a : Option Addr) (n cap : Nat) (zs : List Int) (y : Int) (w : World) (hnl : n ≤ 9223372036854775807) (hn : Hid (zs.length = n)) (h8 : Hid (∀ z ∈ zs, 0 ≤ z ∧ z < 256)) (hr : Hid (Rd .u8 w w.heap.size a zs)) (hy : 0 ≤ y ∧ y < 256) :
    Calls Try.prog 6 #[.slice a n cap, .int .u8 y] w fun e w' => e = .returned (.bool true) ∧ Below w.heap.size w w' := by
  have E := ex_any w
  obtain ⟨m, hm⟩ : ∃ m : Nat, y % 5 = m := ⟨(y % 5).toNat, by omega⟩
  have hm5 : m ≤ 4 := by omega
  have hym : y.tmod 5 = m := by rw [tmod_pos _ _ hy.1]; exact hm
  have ym8 := IntWalk.u8_in (m : Int) ⟨by omega, by omega⟩
  have ym64 := IntWalk.i64_in (m : Int) ⟨by omega, by omega⟩
  clear hm hy
  go_enter Try.func6, Try.ntmps6
  go_wp2_with fail
  refine E.mono ?_; rintro e w0 ⟨rfl, b0'⟩
  have K := new_l (r := 2) (h := 100) (by decide) (by decide) (n := 2) rfl (St.start w w0 b0')
  clear E b0'
  go_wp2_with fail
  refine K.mono ?_; rintro e w1 ⟨g, rfl, s⟩
  have S0 : Hid (AnJ w g (.int .i64 0) w1) := ⟨0, _, rfl, by omega, ⟨rfl, rfl, rfl⟩, s⟩
  clear K s
  go_wp2_with fail
  go_loopw [8] (fun iv wr => AnJ w g iv wr) (fun iv _ => 21 - (intOf iv).toNat)
  case atStart => exact S0.out
  case round =>
    obtain ⟨i, k, rfl, hi, hk, hs⟩ := hrel
    clear S0
    have HS := Lib.hid hs
    have HK := Lib.hid hk
    have hI0 : (0 : Int) ≤ i := by omega
    clear hs hk
    obtain ⟨bb, hbb⟩ : ∃ bb, bb = (decide ((i : Int) < n) && decide ((i : Int) < 20)) := ⟨_, rfl⟩
    replace hbb := Lib.hid hbb
    go_upto_region 8 with fail
    go_cut [32] (fun c wx => c = .bool bb ∧ wr = wx)
    case first =>
      by_cases c1 : (i : Int) < n
      · by_cases c2 : (i : Int) < 20
        · have hq : bb = true := by rw [hbb.out, decide_eq_true c1, decide_eq_true c2]; rfl
          subst hq
          go_wp2_with fail
          go_meet
          exact ⟨rfl, rfl⟩
        · have hq : bb = false := by rw [hbb.out, decide_eq_false c2, Bool.and_false]
          subst hq
          go_wp2_with fail
          go_meet
          exact ⟨rfl, rfl⟩
      · have hq : bb = false := by rw [hbb.out, decide_eq_false c1, Bool.false_and]
        subst hq
        go_wp2_with fail
        go_meet
        exact ⟨rfl, rfl⟩
    case rest =>
    obtain ⟨rfl, rfl⟩ := hcut
    cases bb with
    | true =>
      have h1 : i < n ∧ i < 20 := by
        have := hbb.out
        simp only [Bool.true_eq, Bool.and_eq_true, decide_eq_true_eq] at this
        omega
      clear hbb
      have h1n : (i : Int) < n := by omega
      have h1m : (i : Int) < 20 := by omega
      have hi1 : Hid (i + 1 ≤ 20) := by show i + 1 ≤ 20; omega
      obtain ⟨ba, oa, rfl, hbl, hcc⟩ := (hr.out.below HS.out.below) (by rw [hn.out]; omega)
      have c0 := hcc i (by rw [hn.out]; omega)
      have hx8 := h8.out (zs.getD i 0) (by rw [List.getD_eq_getElem?_getD, List.getElem?_eq_getElem (by rw [hn.out]; omega)]; exact List.getElem_mem _)
      generalize zs.getD i 0 = x at *
      obtain ⟨v, hv⟩ : ∃ v, x % 32 = v := ⟨_, rfl⟩
      have hv2 : x.tmod 32 = v := by rw [tmod_pos _ _ hx8.1]; exact hv
      have hv0 : 0 ≤ v ∧ v < 32 := by omega
      have v5 := IntWalk.u8_in v ⟨by omega, by omega⟩
      have v6 := IntWalk.i64_in v ⟨by omega, by omega⟩
      have v7 := IntWalk.i64_in (1 + v) ⟨by omega, by omega⟩
      have v8 := IntWalk.i64_in ((i : Int) + 1) ⟨by omega, by omega⟩
      have K := see_l (1 + v) 4 4 0 (by decide) (by decide) (by decide) rfl rfl [] [] HS.out
      generalize seeE (1 + v) 4 4 0 = ee at *
      have KK := Lib.hid (keep_see HK.out (1 + v) 4 4 0)
      generalize seeD k (1 + v) 4 4 0 = k' at *
      clear hcc HS h1 hbl hx8 hv HK
      go_wp2_with fail
      refine K.mono ?_; rintro e w4 ⟨rfl, s⟩
      replace s := Lib.hid s
      clear K c0
      go_wp2
      go_roundw
      case rel => exact ⟨i + 1, k', by go_num, hi1.out, KK.out, s.out⟩
      case measure => simp [intOf]; omega
    | false =>
      clear hbb
      have S1 : Hid (AmJ m w g (.int .i64 0) wr) := ⟨0, k, rfl, Nat.zero_le _, HK.out, HS.out⟩
      clear HS HK
      go_wp2_with fail
      go_loopw [9] (fun iv wr => AmJ m w g iv wr) (fun iv _ => 5 - (intOf iv).toNat)
      case atStart => exact S1.out
      case round =>
        obtain ⟨j, k, rfl, hj, hk, hs⟩ := hrel
        clear S1
        have HS := Lib.hid hs
        have HK := Lib.hid hk
        clear hs hk
        have j8 := IntWalk.i64_in ((j : Int) + 1) ⟨by omega, by omega⟩
        by_cases h1 : j < m
        · have h1m : (j : Int) < m := by omega
          have hj1 : Hid (j + 1 ≤ m) := by show j + 1 ≤ m; omega
          have hR := roundD_yes (k := k) (seq := 7) (now := 0) (by decide) HK.out.on
          have K := round_l 7 0 hR.1 hR.2 [] [] HS.out
          have hH : heardB { k with on := true, seq := 7, got := false } 7 = true := by unfold heardB; simp
          have hD := heardD_yes hH
          have hE := endD_yes (k := { k with on := true, seq := 7, got := true }) rfl
          have HK2 : Hid (KeepA (endD { k with on := true, seq := 7, got := true })) := by rw [hE]; exact ⟨HK.out.r, HK.out.h, rfl⟩
          clear HS h1 HK hR
          go_wp2_with fail
          refine K.mono ?_; rintro e w4 ⟨rfl, s⟩
          clear K
          have K := heard_l 7 hH hD [] [] s
          clear s
          go_wp2_with fail
          refine K.mono ?_; rintro e w5 ⟨rfl, s⟩
          clear K
          have K := end_l (k := { k with on := true, seq := 7, got := true }) rfl rfl [] [] s
          clear s
          go_wp2_with fail
          refine K.mono ?_; rintro e w6 ⟨rfl, s⟩
          replace s := Lib.hid s
          clear K hH hD hE
          go_wp2
          go_roundw
          case rel => exact ⟨j + 1, _, by go_num, hj1.out, HK2.out, s.out⟩
          case measure => simp [intOf]; omega
        · have h1m : ¬ (j : Int) < m := by omega
          have hR := roundD_yes (k := k) (seq := 9) (now := 0) (by decide) HK.out.on
          have K := round_l 9 0 hR.1 hR.2 [] [] HS.out
          have hZ : resetD { k with on := true, seq := 9, got := false } = newR 2 100 := by
            show newR k.rounds k.hold = _
            rw [HK.out.r, HK.out.h]
          clear HS h1 HK hR
          go_wp2_with fail
          refine K.mono ?_; rintro e w4 ⟨rfl, s⟩
          clear K
          have K := reset_l hZ [] [] s
          clear s
          go_wp2_with fail
          refine K.mono ?_; rintro e w5 ⟨rfl, s⟩
          clear K hZ
          have K := addr_l 0 (addr_new 0) (b := false) (by decide) s (g := g) (by simp)
          clear s
          go_wp2_with fail
          refine K.mono ?_; rintro e w6 ⟨rfl, s⟩
          clear K
          have s2 := s.keep ((Below.refl _ w6).alloc (Nat.le_refl _) (.cells #[.int .u32 0, .int .u16 0] 35))
          clear s
          go_upto_region 20 with fail
          generalize (w6.alloc (.cells #[.int .u32 0, .int .u16 0] 35)) = w7 at *
          try dsimp only [List.append]
          have K := class_l (e := 0) rfl s2 (g := g) (k := newR 2 100) (by simp)
          clear s2
          go_wp2_with fail
          refine K.mono ?_; rintro e w8 ⟨rfl, s⟩
          clear K
          have K := votes_l (L := []) (k := newR 2 100) (by kernel_rfl) s (g := g) (by simp)
          clear s
          go_wp2_with fail
          refine K.mono ?_; rintro e w9 ⟨u, rfl, s⟩
          clear K
          simp only [List.length_nil]
          have K := heard_l (b := false) (k := newR 2 100) (k' := newR 2 100) 9 rfl (heardD_no rfl) [_] [] s
          clear s
          go_wp2_with fail
          refine K.mono ?_; rintro e w10 ⟨rfl, s⟩
          clear K
          have K := end_l (b := false) (k := newR 2 100) (k' := newR 2 100) rfl (endD_no rfl) [_] [] s
          clear s
          go_wp2_with fail
          refine K.mono ?_; rintro e w11 ⟨rfl, s⟩
          clear K
          have K := round_l (e := 0) (k := newR 2 100) 3 0 rfl rfl [_] [] s
          clear s
          go_wp2_with fail
          refine K.mono ?_; rintro e w12 ⟨rfl, s⟩
          have BE := Lib.hid s.below
          clear K s
          go_wp2
          go_ret
          exact ⟨rfl, BE.out⟩
theorem anew_run (a : Option Addr) (len cap : Nat) (zs : List Int) (y : Int) (w : World) (wz : ArgRow .u8 w a len cap zs) (wy : (Lit.int .u8 y).wf = true) :
    Calls Try.prog 6 #[.slice a len cap, .int .u8 y] w fun e w' => e = .returned (.bool true) ∧ Below w.heap.size w w' := by
  obtain ⟨za, h1, h2, h3, h4⟩ := arg_u8m wz
  have h5 := bounds_u8 wy
  exact anew_walk a len cap za y w h4 h1 h2 h3 ⟨h5.1, by omega⟩
theorem reachAnew_own : ownKnob Try.prog.godebug = none := by kernel_rfl
theorem reachAnew_laid : laidOutB Try.prog = true := by kernel_rfl
set_option maxRecDepth 100000 in
theorem reachAnew_lifted (os : Os) (started : os.Started) (H : Type) (enc : TypeId × Value → H) :
    ReturnsInHanded {} Try.checked os 6 .any (Rows.reachAnewSpec.pre6 enc Try.prog Try.f6 Rows.reachAnewRow.domain false) (Rows.reachAnewSpec.post enc Try.prog Try.f6 false true false false) := by
  refine returnsInHanded_of_change (C := Try.checked) reachAnew_own started (by kernel_rfl) Try.func6
    (ChangeSpec.witness6 (enc := enc) (C := Try.checked) false ⟨#[], #[.slice none 0 0, .int .u8 0], []⟩ 8 (by kernel_rfl) (by kernel_rfl) (by kernel_rfl) (by kernel_rfl)) ?_
  intro W base args ds gs before hval0 hW hcnd _
  have hval : ∀ (j : Nat) t v, Try.f6.params[j]? = some t → args[j]? = some v → Value.okWide Try.prog W .any base t v := hval0
  have hW' := hW
  obtain ⟨p, q, hA0, hV, rfl, hfz, hnd⟩ := hW
  have hA : DataW.TrodAll enc Try.prog W 0 (fun _ => true) true Try.f6.params.toList args.toList ds p := hA0
  rw [Try.params6] at hA hval
  obtain ⟨v0, vs0, d0, ds0, p0, q0, hargs, rfl, rfl, h0, r0⟩ := trodAll_cons hA
  obtain ⟨v1, vs1, d1, ds1, p1, q1, rfl, rfl, rfl, h1, r1⟩ := trodAll_cons r0
  obtain ⟨rfl, rfl, rfl⟩ := trodAll_nil r1
  obtain rfl : args = #[v0, v1] := by cases args; simp_all
  obtain ⟨rfl, rfl⟩ := trodVars_none hV
  obtain ⟨a0, len0, cap0, rfl⟩ := okWide_slice Try.underlying62 (hval 0 62 v0 rfl rfl)
  have k0 := h0
  have lt0 : ∀ x ∈ p0, x.block < W.heap.size := by obtain ⟨m, hm⟩ := k0; exact DataW.trod_lt m _ _ _ hm
  obtain ⟨z0, w0⟩ : ∃ zs, ArgRow .u8 W a0 len0 cap0 zs := by
    obtain ⟨fuel, hf⟩ := h0
    rcases open_ints Try.underlying62 Try.underlying5 (by kernel_rfl) hf with ⟨hcs, _⟩ | ⟨x, l, c, zs, hcs, _, hl, hm, hz, _, hcell, hwz⟩
    · simp [Value.cells] at hcs
      obtain ⟨rfl, rfl, rfl⟩ := hcs
      exact ⟨[], .inl ⟨rfl, rfl, rfl, rfl⟩⟩
    · simp [Value.cells] at hcs
      obtain ⟨rfl, rfl, rfl⟩ := hcs
      exact ⟨zs, .inr ⟨_, rfl, hl, hm, by simpa using hz, hcell, hwz⟩⟩
  obtain ⟨a1, rfl, rfl, rfl, w1⟩ := open_int Try.underlying5 (hval 1 5 v1 rfl rfl) h1
  clear hA0 hval0
  refine (anew_run a0 len0 cap0 z0 a1 W w0 w1).mono fun e W' ⟨he, bel⟩ => ?_
  subst he
  exact ⟨_, rfl, _, _, _, [], _, [], hW', trodAll_mk1 (shut_bool Try.underlying4 _), (trodAll_cons_mk (Below.trod reachAnew_laid (by kernel_rfl) (of_decide_eq_true (by kernel_rfl)) k0 bel lt0) (trodAll_cons_mk (shut_int Try.underlying5 w1) trodAll_mk0)), rfl, bel.frame _, fun h => by cases h⟩
theorem reachAnew_over : Rows.reachAnewRow.holds Try.pinned (OpenSpec.ofChange Rows.reachAnewSpec) :=
  OpenClaim.holds_of_wide 6 Try.f6 rfl rfl rfl rfl rfl rfl rfl ⟨rfl, rfl, rfl, rfl, rfl⟩ rfl rfl rfl rfl rfl (by kernel_rfl) Try.func6 (by kernel_rfl)
    (of_decide_eq_true (by kernel_rfl)) (by unfold Func.isWrapper; first | (rw [if_pos (by decide +kernel)]; kernel_rfl) | (rw [if_neg (by decide +kernel)]; exact ⟨rfl, rfl⟩))
    (fun os started H enc _ => reachAnew_lifted os started H enc)
theorem reachAnew_holds : Rows.ReachAnewSaid := reachAnew_over
#print axioms reachAnew_holds
end Go.Proofs.Ytnkjepemliccpaa
