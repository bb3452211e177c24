/- RingPlays: who is next, and some of a list, are told, deed by deed, as the chapter says: for every seed and every list of deeds. -/
import Derived.Test.YtheipflmkjiimaaRiDeeds
import Derived.Deep.DeepCutAuto
namespace Go.Proofs.Ytheipflmkjiimaa
open Go.Sort Go.RowKit Go.BigFrame Go.ChangeShapes Go.WideShapes Go.Deep
set_option linter.unusedVariables false
set_option linter.unusedSimpArgs false

def PyJ (n : Nat) (w : World) (g gx : Nat) (iv : Value) (wr : World) : Prop := ∃ (i : Nat) (s : Int) (v vx : Sl) (L : List Int), iv = .int .i64 (i : Nat) ∧ i ≤ n ∧ i ≤ 60 ∧ St w [hR g s v L, hR gx s vx L] wr
set_option maxHeartbeats 12800000 in
set_option maxRecDepth 100000 in
theorem plays_walk (s : Int) (a : Option Addr) (n cap : Nat) (w : World) (hD : Hid (DeedRow w a n cap)) :
    Calls Try.prog 3 #[.int .u64 s, .slice a n cap] w fun e w' => e = .returned (.bool true) ∧ Below w.heap.size w w' := by
  have E := ex_any w
  go_enter Try.func3, Try.ntmps3
  go_wp2_with fail
  refine E.mono ?_; rintro e w1 ⟨rfl, b1⟩
  have K := new_l s (St.start w w1 b1)
  clear E b1
  go_wp2_with fail
  refine K.mono ?_; rintro e w2 ⟨g, rfl, s2⟩
  have K := rnew_l s s2
  clear s2
  go_wp2_with fail
  refine K.mono ?_; rintro e w3 ⟨gx, rfl, s3⟩
  have S0 : Hid (PyJ n w g gx (.int .i64 0) w3) := ⟨0, s, _, _, _, rfl, Nat.zero_le _, by omega, by
    have h2 := s3.apart
    rw [List.pairwise_cons] at h2
    refine ⟨fun h hh => s3.all h (by simp only [List.mem_cons, List.not_mem_nil, or_false] at hh ⊢; exact hh.symm), ?_, s3.below⟩
    refine List.pairwise_cons.2 ⟨fun k hk b h3 h4 => ?_, List.pairwise_singleton _ _⟩
    have hk2 : k = hR gx s ⟨none, 0, 0⟩ [] := by simpa using hk
    subst hk2
    exact h2.1 _ (by simp) b h4 h3⟩
  clear K s3
  go_wp2_with fail
  go_loopw [8] (fun iv wr => PyJ n w g gx iv wr) (fun iv _ => 61 - (intOf iv).toNat)
  case atStart => exact S0.out
  case round =>
    obtain ⟨i, s1, v, vx, L, rfl, hi, hi60, hs⟩ := hrel
    clear S0
    have HS := Lib.hid hs
    have hI0 : (0 : Int) ≤ i := by omega
    clear hs
    by_cases h1 : i < n
    · have h1' : (i : Int) < n := by omega
      have h1d : decide ((i : Int) < n) = true := decide_eq_true h1'
      by_cases h2 : i < 60
      · have h2' : (i : Int) < 60 := by omega
        have h2d : decide ((i : Int) < 60) = true := decide_eq_true h2'
        have hi1 : Hid (i + 1 ≤ n) := h1
        have hi2 : Hid (i + 1 ≤ 60) := h2
        obtain ⟨ba, oa, rfl, hbl, hcc⟩ := hD.out.at_ (by omega)
        obtain ⟨d, hfit, hc⟩ := hcc i h1
        obtain ⟨zs, wz⟩ := hfit.l
        obtain ⟨ys, hyn, hy8, hyr, _⟩ := arg_u8 wz
        have hbw := HS.out.below
        have c0 := (hbw.cell (p := ⟨ba, oa + i * 3 + 0, none⟩) hbl).trans (hc 0 _ rfl)
        have c1 := (hbw.cell (p := ⟨ba, oa + i * 3 + 1, none⟩) hbl).trans (hc 1 _ rfl)
        have c2 := (hbw.cell (p := ⟨ba, oa + i * 3 + 2, none⟩) hbl).trans (hc 2 _ rfl)
        simp only [Nat.add_zero] at c0
        obtain ⟨so, da, dn, dcap, k⟩ := d
        simp only at hyn hyr c0 c1 c2
        have HY := Lib.hid hyn
        have HY8 := Lib.hid hy8
        have HYR := Lib.hid hyr
        clear hcc hc hfit wz hyn hy8 hyr hbw h1 h2 hbl
        obtain ⟨X, hX⟩ : ∃ X, listD ys = X := ⟨_, rfl⟩
        have HX12 : Hid (X.length ≤ 1000) := by have := listD_le ys; rw [hX] at this; show _ ≤ _; omega
        have KL : Hid (∀ H wz, St w H wz → Calls Try.prog 13 #[.agg #[.bool so, .slice da dn dcap, .int .i64 k]] wz fun e w' => ∃ u : Sl, e = .returned (.slice u.a X.length u.c) ∧ St w (hI u X :: H) w') := fun H wz st => by
          have := list_l st so da dn dcap k ys HY HY8 HYR.out
          rwa [hX] at this
        clear hX HY HY8 HYR
        have SD : Hid (St w [hC wr.heap.size [.bool so, .slice da dn dcap, .int .i64 k], hR g s1 v L, hR gx s1 vx L] (wr.alloc (.cells #[.bool so, .slice da dn dcap, .int .i64 k] 31))) := HS.out.box [.bool so, .slice da dn dcap, .int .i64 k] 31
        go_upto_region 12 with fail
        generalize (wr.alloc (.cells #[.bool so, .slice da dn dcap, .int .i64 k] 31)) = w4 at *
        generalize wr.heap.size = db at *
        clear c0 c1 c2 HS
        have x0 := (SD.out.cs (b := db) (vs := [.bool so, .slice da dn dcap, .int .i64 k]) (by simp)).cell 0 _ rfl
        have x1 := (SD.out.cs (b := db) (vs := [.bool so, .slice da dn dcap, .int .i64 k]) (by simp)).cell 1 _ rfl
        have x2 := (SD.out.cs (b := db) (vs := [.bool so, .slice da dn dcap, .int .i64 k]) (by simp)).cell 2 _ rfl
        go_upto_if 40 with fail
        go_cut [10] (fun c wx => c = .bool true ∧ ∃ s2 v2 vx2 L2, St w [hR g s2 v2 L2, hR gx s2 vx2 L2] wx)
        case first =>
          cases so
          · have K := KL.out _ _ SD.out
            clear SD
            go_wp2_with fail
            refine K.mono ?_; rintro e w5 ⟨u5, rfl, s5⟩
            have K := next_l u5 (l := X) HX12.out [_, _] [_] (by simp) s5
            clear s5 x0 x1 x2
            go_wp2_with fail
            refine K.mono ?_; rintro e w6 ⟨rfl, v6, s6⟩
            have SD := Lib.hid (s6.sub (H' := [hC db [.bool false, .slice da dn dcap, .int .i64 k], hR g (stR s1 L X) v6 (leftR s1 L X), hR gx s1 vx L]) (by simp))
            have x0 := (SD.out.cs (b := db) (vs := [.bool false, .slice da dn dcap, .int .i64 k]) (by simp)).cell 0 _ rfl
            have x1 := (SD.out.cs (b := db) (vs := [.bool false, .slice da dn dcap, .int .i64 k]) (by simp)).cell 1 _ rfl
            have x2 := (SD.out.cs (b := db) (vs := [.bool false, .slice da dn dcap, .int .i64 k]) (by simp)).cell 2 _ rfl
            have K := KL.out _ _ SD.out
            clear SD s6
            go_wp2_with fail
            refine K.mono ?_; rintro e w7 ⟨u7, rfl, s7⟩
            have K := rnext_l u7 (l := X) HX12.out [_, _, _] [] (by simp) s7
            clear s7 x0 x1 x2
            go_wp2_with fail
            refine K.mono ?_; rintro e w8 ⟨rfl, v8, s8⟩
            have SF := Lib.hid (s8.sub (H' := [hR g (stR s1 L X) v6 (leftR s1 L X), hR gx (stR s1 L X) v8 (leftR s1 L X)]) (by simp))
            clear K s8
            generalize idR s1 L X = id at *
            generalize okR X = ok at *
            go_wp2_with fail
            go_meet
            exact ⟨by simp, _, _, _, _, SF.out⟩
          · obtain ⟨kq, hkq⟩ : ∃ kq, k.tmod 15 = kq := ⟨_, rfl⟩
            obtain ⟨A, hA'⟩ : ∃ A, someD s1 X kq = A := ⟨_, rfl⟩
            obtain ⟨s2, hs2⟩ : ∃ s2, (mixL s1 X).2 = s2 := ⟨_, rfl⟩
            have HD12 : Hid (A.length ≤ 100000) := by have h1 := someD_len s1 X kq; have h2 := HX12.out; unfold much at h1; rw [← hA']; show _ ≤ _; omega
            have KS : Hid (∀ (H1 H2 : List Hl) (u : Sl) wz, hI u X ∈ H1 ++ H2 → St w (H1 ++ hR g s1 v L :: H2) wz → Calls Try.prog 12 #[.pointer (some ⟨g, 0, none⟩), .slice u.a X.length u.c, .int .i64 kq] wz fun e w' => ∃ t : Sl, e = .returned (.slice t.a A.length t.c) ∧ St w (hA t.a A :: (H1 ++ hR g s2 v L :: H2)) w') := fun H1 H2 u wz hu st => by
              have := some_l u kq HX12.out H1 H2 hu st
              rwa [hA', hs2] at this
            have KR : Hid (∀ (H1 H2 : List Hl) (u : Sl) wz, hI u X ∈ H1 ++ H2 → St w (H1 ++ hR gx s1 vx L :: H2) wz → Calls Try.prog 14 #[.pointer (some ⟨gx, 0, none⟩), .slice u.a X.length u.c, .int .i64 kq] wz fun e w' => ∃ t : Sl, e = .returned (.slice t.a A.length t.c) ∧ St w (hA t.a A :: (H1 ++ hR gx s2 vx L :: H2)) w') := fun H1 H2 u wz hu st => by
              have := rsome_l u kq HX12.out H1 H2 hu st
              rwa [hA', hs2] at this
            clear hA' hs2
            have mkS : Hid (∀ H w', hC db [.bool true, .slice da dn dcap, .int .i64 k] ∈ H → St w H w' → w'.cell? ⟨db, 0, none⟩ = some (.bool true) ∧ w'.cell? ⟨db, 1, none⟩ = some (.slice da dn dcap) ∧ w'.cell? ⟨db, 2, none⟩ = some (.int .i64 k)) := fun H w' hm st =>
              ⟨(st.cs hm).cell 0 _ rfl, (st.cs hm).cell 1 _ rfl, (st.cs hm).cell 2 _ rfl⟩
            go_upto_region 14 with fail
            have SA := Lib.hid SD.out.drew
            clear SD x0 x1 x2
            go_region_held (fun w' => w'.cell? ⟨db, 0, none⟩ = some (.bool true) ∧ w'.cell? ⟨db, 1, none⟩ = some (.slice da dn dcap) ∧ w'.cell? ⟨db, 2, none⟩ = some (.int .i64 k)) (exact mkS.out _ _ (by simp) SA.out) (first | (go_at_call 13; refine (KL.out _ _ SA.out).mono ?_; rintro e wA ⟨uA, rfl, sA⟩; have SA := Lib.hid sA; clear sA) | (go_at_call 12; (first | (refine (KS.out [_, _] _ _ _ (by simp) SA.out).mono ?_) | (refine (KS.out [_, _, _] _ _ _ (by simp) SA.out).mono ?_) | (refine (KS.out [_, _, _, _] _ _ _ (by simp) SA.out).mono ?_)); rintro e wA ⟨tA, rfl, sA⟩; have SA := Lib.hid sA; clear sA) | (go_at_call 14; (first | (refine (KR.out [_, _, _] _ _ _ (by simp) SA.out).mono ?_) | (refine (KR.out [_, _, _, _] _ _ _ (by simp) SA.out).mono ?_) | (refine (KR.out [_, _, _, _, _] _ _ _ (by simp) SA.out).mono ?_)); rintro e wA ⟨tB, rfl, sA⟩; have SA := Lib.hid sA; clear sA) | (go_at_call 11; refine (same_yes _ _ _ _ _ A HD12.out rfl _ (SA.out.rdA (by simp)) (SA.out.rdA (by simp))).mono ?_; rintro e wA ⟨rfl, bA⟩; have SA := Lib.hid (SA.out.keep bA); clear bA) | fail)
            all_goals go_wp2_with fail
            all_goals go_meet
            all_goals exact ⟨rfl, s2, v, vx, L, SA.out.sub (by simp only [List.cons_append, List.nil_append]; repeat (first | exact List.Sublist.refl _ | apply List.Sublist.cons))⟩
        case rest =>
          obtain ⟨rfl, s2, v2, vx2, L2, hs⟩ := hcut
          generalize wc = w5 at *
          clear SD x0 x1 x2 KL HX12
          have hxn := (hs.get (h := hR gx s2 vx2 L2) (by simp)).n
          have hsm := (hs.get (h := hR gx s2 vx2 L2) (by simp)).small
          obtain ⟨xa, xn, xc⟩ := vx2
          simp only at hxn
          subst hxn
          have HS := Lib.hid hs
          have hL : Hid (L2.length ≤ 100000) := by show _ ≤ _; omega
          clear hs hsm
          go_upto_region 18 with fail
          go_cut [15] (fun c wx => c = .bool true ∧ St w [hR g s2 v2 L2, hR gx s2 ⟨xa, L2.length, xc⟩ L2] wx)
          case first =>
            have SA := Lib.hid HS.out.drew
            have mkS : Hid (∀ H w', hR gx s2 ⟨xa, L2.length, xc⟩ L2 ∈ H → St w H w' → w'.cell? ⟨gx, 1, none⟩ = some (.slice xa L2.length xc) ∧ True) := fun H w' hm st => ⟨(st.get hm).box.cell 1 _ rfl, trivial⟩
            have KLf : Hid (∀ wz, St w [hR g s2 v2 L2, hR gx s2 ⟨xa, L2.length, xc⟩ L2] wz → Calls Try.prog 17 #[.pointer (some ⟨g, 0, none⟩)] wz fun e w' => ∃ t : Sl, e = .returned (.slice t.a L2.length t.c) ∧ St w [hA t.a L2, hR g s2 v2 L2, hR gx s2 ⟨xa, L2.length, xc⟩ L2] w') := fun wz st => left_l (g := g) (s := s2) (v := v2) (L := L2) st (by simp)
            clear HS
            go_region_held (fun w' => w'.cell? ⟨gx, 1, none⟩ = some (.slice xa L2.length xc) ∧ True) (exact mkS.out _ _ (by simp) SA.out) (first
              | (go_at_call 17; refine (KLf.out _ SA.out).mono ?_; rintro e wA ⟨tA, rfl, sA⟩; have SA := Lib.hid sA; clear sA)
              | (go_at_call 11; refine (same_yes _ _ _ _ _ L2 hL.out rfl _ (SA.out.rdA (by simp)) (SA.out.get (h := hR gx s2 ⟨xa, L2.length, xc⟩ L2) (by simp)).rd).mono ?_; rintro e wA ⟨rfl, bA⟩; have SA := Lib.hid (SA.out.keep bA); clear bA)
              | fail)
            all_goals go_wp2_with fail
            all_goals go_meet
            all_goals exact ⟨rfl, SA.out.sub (by simp)⟩
          case rest =>
            obtain ⟨rfl, hs⟩ := hcut
            generalize wc = w6 at *
            clear HS
            have x0 := (hs.get (h := hR gx s2 ⟨xa, L2.length, xc⟩ L2) (by simp)).box.cell 0 _ rfl
            have LS := fun d os => Calls.regrown_of ((state_l (g := g) (s := s2) (v := v2) (L := L2) (hs.keep (below_regrown w6 d os)) (by simp)).mono fun e w'' ⟨he, hw⟩ => ⟨he, by rw [hw]; exact Below.refl _ _⟩)
            have HS := Lib.hid hs
            clear hs
            go_upto_region 19 with fail
            have k0 := cell_regrown x0
            clear x0
            (refine wp_region_quiet_below (by kernel_rfl) (by kernel_rfl) ?_; (repeat (go_big_quiet_step (first | with_reducible exact LS _ _))); refine wpQuiet_nil ?_; intro _ hw'; obtain ⟨⟨dq, osq⟩, hw''⟩ := hw'; subst hw'')
            have HS2 := Lib.hid (HS.out.keep (below_regrown w6 dq osq))
            clear LS k0 HS
            go_wp2
            go_roundw
            case rel => exact ⟨i + 1, s2, v2, ⟨xa, L2.length, xc⟩, L2, by go_num, hi1.out, hi2.out, HS2.out⟩
            case measure => simp [intOf]; omega
      · obtain rfl : i = 60 := by omega
        have h2d : decide (((60 : Nat) : Int) < 60) = false := rfl
        have HB := Lib.hid HS.out.below
        clear HS
        go_wp2
        go_ret
        exact ⟨rfl, HB.out⟩
    · obtain rfl : i = n := by omega
      have h1d : decide ((i : Int) < i) = false := decide_eq_false (by omega)
      have HB := Lib.hid HS.out.below
      clear HS
      go_wp2
      go_ret
      exact ⟨rfl, HB.out⟩
theorem plays_run (s : Int) (a : Option Addr) (len cap : Nat) (w : World) (_ : (Lit.int .u64 s).wf = true) (wz : DeedRow w a len cap) :
    Calls Try.prog 3 #[.int .u64 s, .slice a len cap] w fun e w' => e = .returned (.bool true) ∧ Below w.heap.size w w' :=
  plays_walk s a len cap w wz
theorem ringPlays_own : ownKnob Try.prog.godebug = none := by kernel_rfl
theorem ringPlays_laid : laidOutB Try.prog = true := by kernel_rfl
set_option maxRecDepth 100000 in
theorem ringPlays_lifted (os : Os) (started : os.Started) (H : Type) (enc : TypeId × Value → H) :
    ReturnsInHanded {} Try.checked os 3 .any (Rows.ringPlaysSpec.pre6 enc Try.prog Try.f3 Rows.ringPlaysRow.domain false) (Rows.ringPlaysSpec.post enc Try.prog Try.f3 false true false false) := by
  refine returnsInHanded_of_change (C := Try.checked) ringPlays_own started (by kernel_rfl) Try.func3
    (ChangeSpec.witness6 (enc := enc) (C := Try.checked) false ⟨#[], #[.int .u64 0, .slice none 0 0], []⟩ 8 (by kernel_rfl) (by kernel_rfl) (by kernel_rfl) (by kernel_rfl)) ?_
  intro W base args ds gs before hval0 hW hcnd _
  have hval : ∀ (j : Nat) t v, Try.f3.params[j]? = some t → args[j]? = some v → Value.okWide Try.prog W .any base t v := hval0
  have hW' := hW
  obtain ⟨p, q, hA0, hV, rfl, hfz, hnd⟩ := hW
  have hA : DataW.TrodAll enc Try.prog W 0 (fun _ => true) true Try.f3.params.toList args.toList ds p := hA0
  rw [Try.params3] at hA hval
  obtain ⟨v0, vs0, d0, ds0, p0, q0, hargs, rfl, rfl, h0, r0⟩ := trodAll_cons hA
  obtain ⟨v1, vs1, d1, ds1, p1, q1, rfl, rfl, rfl, h1, r1⟩ := trodAll_cons r0
  obtain ⟨rfl, rfl, rfl⟩ := trodAll_nil r1
  obtain rfl : args = #[v0, v1] := by cases args; simp_all
  obtain ⟨rfl, rfl⟩ := trodVars_none hV
  obtain ⟨a0, rfl, rfl, rfl, w0⟩ := open_int Try.underlying22 (hval 0 22 v0 rfl rfl) h0
  obtain ⟨a1, len1, cap1, rfl⟩ := okWide_slice Try.underlying23 (hval 1 23 v1 rfl rfl)
  have k1 := h1
  have lt1 : ∀ x ∈ p1, x.block < W.heap.size := by obtain ⟨m, hm⟩ := k1; exact DataW.trod_lt m _ _ _ hm
  have w1 : DeedRow W a1 len1 cap1 := by
    obtain ⟨fuel, hf⟩ := h1
    exact deeds_open hf
  clear hA0 hval0
  refine (plays_run a0 a1 len1 cap1 W w0 w1).mono fun e W' ⟨he, bel⟩ => ?_
  subst he
  exact ⟨_, rfl, _, _, _, [], _, [], hW', trodAll_mk1 (shut_bool Try.underlying4 _), (trodAll_cons_mk (shut_int Try.underlying22 w0) (trodAll_cons_mk (Below.trod ringPlays_laid (by kernel_rfl) (of_decide_eq_true (by kernel_rfl)) k1 bel lt1) trodAll_mk0)), rfl, bel.frame _, fun h => by cases h⟩
theorem ringPlays_over : Rows.ringPlaysRow.holds Try.pinned (OpenSpec.ofChange Rows.ringPlaysSpec) :=
  OpenClaim.holds_of_wide 3 Try.f3 rfl rfl rfl rfl rfl rfl rfl ⟨rfl, rfl, rfl, rfl, rfl⟩ rfl rfl rfl rfl rfl (by kernel_rfl) Try.func3 (by kernel_rfl)
    (of_decide_eq_true (by kernel_rfl)) (by unfold Func.isWrapper; first | (rw [if_pos (by decide +kernel)]; kernel_rfl) | (rw [if_neg (by decide +kernel)]; exact ⟨rfl, rfl⟩))
    (fun os started H enc _ => ringPlays_lifted os started H enc)
theorem ringPlays_holds : Rows.RingPlaysSaid := ringPlays_over
#print axioms ringPlays_holds
end Go.Proofs.Ytheipflmkjiimaa
