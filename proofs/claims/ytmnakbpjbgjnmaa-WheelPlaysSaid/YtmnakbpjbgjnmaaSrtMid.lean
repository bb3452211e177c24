/- slices.symMergeCmpFunc over timers: the general case, and all. -/
import Derived.Test.YtmnakbpjbgjnmaaSrtLast
namespace Go.Proofs.Ytmnakbpjbgjnmaa
open Go.Sort Go.RowKit Go.BigFrame
set_option linter.unusedVariables false
set_option linter.unusedSimpArgs false

def MidJ (s0 r0 nn g cap : Nat) (w0 : World) (D : List Tm) (sv rv : Value) (wr : World) : Prop := ∃ s r : Nat, sv = .int .i64 (s : Nat) ∧ rv = .int .i64 (r : Nat) ∧ Mid kt D nn s0 r0 s r ∧ SR 39 g cap D w0 wr
set_option maxHeartbeats 12800000 in
set_option maxRecDepth 20000 in
theorem sym_mid (n g cap N : Nat) (w0 : World) (hl : n ≤ 1000000) (IH : SymC N n g cap w0) (X A B Z : List Tm) (hA : 1 < A.length) (hB : 1 < B.length) (hN : A.length + B.length ≤ N + 1) (hn : n = X.length + A.length + B.length + Z.length) (sA : Srt kt A) (sB : Srt kt B) (w : World) (av mv bv : Int)
    (h : SR 39 g cap (X ++ A ++ B ++ Z) w0 w) (ha : av = (X.length : Nat)) (hm : mv = ((X.length + A.length : Nat) : Int)) (hb : bv = ((X.length + A.length + B.length : Nat) : Int)) :
    Calls Try.prog 35 #[.slice (some ⟨g, 0, none⟩) n cap, .int .i64 av, .int .i64 mv, .int .i64 bv, .func (.func 28) #[] #[]] w (MergePost g cap X (A ++ B) Z w0) := by
  subst ha hm hb
  have HIH := Lib.hid IH
  have HSR := Lib.hid h
  have HsA := Lib.hid sA
  have HsB := Lib.hid sB
  have HDN : Hid ((X ++ A ++ B ++ Z).length = n) := by show _ = _; rw [hn]; simp only [List.length_append]
  obtain ⟨mid, hmid⟩ : ∃ mid, mid = (X.length + (X.length + A.length + B.length)) / 2 := ⟨_, rfl⟩
  obtain ⟨nn, hnn⟩ : ∃ nn, nn = mid + (X.length + A.length) := ⟨_, rfl⟩
  obtain ⟨s0, hs0⟩ : ∃ s0, s0 = lo0 X.length (X.length + A.length) (X.length + A.length + B.length) mid := ⟨_, rfl⟩
  obtain ⟨r0, hr0⟩ : ∃ r0, r0 = hi0 (X.length + A.length) mid := ⟨_, rfl⟩
  have HS0R : Hid (s0 ≤ r0) := by show s0 ≤ r0; rw [hs0, hr0]; exact lo_le_hi (by omega) (by omega) hmid
  have HBD : Hid (∀ s r, s0 ≤ s → s ≤ r → r ≤ r0 → X.length ≤ s ∧ r ≤ X.length + A.length ∧ X.length + A.length ≤ nn - r ∧ nn - s ≤ X.length + A.length + B.length ∧ r ≤ mid ∧ nn ≤ 2000000) := fun s r h1 h2 h3 => by
    have := mid_bounds (a := X.length) (m := X.length + A.length) (b := X.length + A.length + B.length) (s := s) (r := r) (by omega) (by omega) hmid (by omega) h2 (by omega)
    omega
  have HHV : Hid (∀ s, Mid kt (X ++ A ++ B ++ Z) nn s0 r0 s s → ∃ A1 A2 B1 B2, Halves kt X A B Z s (nn - s) A1 A2 B1 B2) := fun s hM => by
    subst hnn hs0 hr0
    exact hM.halves (by omega) (by omega) hmid sA sB
  have f1 : ((X.length + A.length : Nat) : Int) - (X.length : Nat) = (A.length : Nat) := by omega
  have f2 : (((A.length : Nat) : Int) == 1) = false := by rw [beq_eq_false_iff_ne]; omega
  have f3 : ((X.length + A.length + B.length : Nat) : Int) - ((X.length + A.length : Nat) : Int) = (B.length : Nat) := by omega
  have f4 : (((B.length : Nat) : Int) == 1) = false := by rw [beq_eq_false_iff_ne]; omega
  have f5 : ((X.length : Nat) + ((X.length + A.length + B.length : Nat) : Int)) / 2 = (mid : Nat) := by omega
  have f6 : (mid : Int) + ((X.length + A.length : Nat) : Int) = (nn : Nat) := by omega
  have f7 : ((A.length : Nat) : Int) ≠ 1 := by omega
  have f8 : ((B.length : Nat) : Int) ≠ 1 := by omega
  have o1 : (0 : Int) ≤ (X.length : Nat) := by omega
  have o2 : ((X.length + A.length + B.length : Nat) : Int) ≤ 1000000 := by omega
  have o3 : (n : Int) ≤ 1000000 := by omega
  have o4 : (0 : Int) ≤ (A.length : Nat) := by omega
  have o5 : (0 : Int) ≤ (B.length : Nat) := by omega
  have o6 : ((A.length : Nat) : Int) ≤ 1000000 := by omega
  have o7 : ((B.length : Nat) : Int) ≤ 1000000 := by omega
  have o8 : (0 : Int) ≤ mid := by omega
  have o9 : (mid : Int) ≤ 1000000 := by omega
  have o10 : (0 : Int) ≤ nn := by omega
  have o11 : (nn : Int) ≤ 2000000 := by omega
  have o12 : ((X.length + A.length : Nat) : Int) ≤ 1000000 := by omega
  have o13 : (0 : Int) ≤ ((X.length + A.length : Nat) : Int) := by omega
  have o14 : (0 : Int) ≤ ((X.length + A.length + B.length : Nat) : Int) := by omega
  have o15 : (0 : Int) < nn := by omega
  have o16 : (0 : Int) ≤ s0 := by omega
  have o17 : (0 : Int) ≤ r0 := by omega
  have HS00 : Hid (if X.length + A.length > mid then s0 = nn - (X.length + A.length + B.length) ∧ X.length + A.length + B.length ≤ nn ∧ r0 = mid else s0 = X.length ∧ r0 = X.length + A.length) := by
    show if X.length + A.length > mid then _ else _
    unfold lo0 at hs0
    unfold hi0 at hr0
    split at hs0
    · rw [if_pos (by assumption)] at hr0 ⊢
      exact ⟨by omega, by omega, hr0⟩
    · rw [if_neg (by assumption)] at hr0 ⊢
      exact ⟨hs0, hr0⟩
  clear h sA sB IH
  have HAB : Hid (1 < A.length ∧ 1 < B.length) := ⟨hA, hB⟩
  have HLN0 : Hid (nn = mid + (X.length + A.length) ∧ mid < X.length + A.length + B.length ∧ n = X.length + A.length + B.length + Z.length) := ⟨hnn, by omega, hn⟩
  have HN := Lib.hid hN
  clear hs0 hr0 hmid hn hnn hN hA hB
  generalize hbq : X.length + A.length + B.length = bb at *
  generalize hmq : X.length + A.length = m at *
  generalize haq : X.length = a0 at *
  have HLA := Lib.hid haq
  have HLB := Lib.hid hmq
  have HLM := Lib.hid hbq
  have HLN : Hid ((nn = mid + m ∧ mid < bb ∧ n = bb + Z.length) ∧ A.length + B.length ≤ N + 1) := ⟨HLN0.out, HN.out⟩
  clear haq hmq hbq HLN0 HN
  generalize A.length = la at f1 f2 f7 o4 o6
  generalize B.length = lb at f3 f4 f8 o5 o7
  go_enter Try.func35, Try.ntmps35
  go_upto_if 140 with fail
  go_cut [20, 21] (fun sv rv wx => sv = .int .i64 (s0 : Nat) ∧ rv = .int .i64 (r0 : Nat) ∧ wx = w)
  case first =>
    as_aux_lemma =>
      by_cases hgt : m > mid
      · obtain ⟨z0, z1, z2⟩ : s0 = nn - bb ∧ bb ≤ nn ∧ r0 = mid := by have := HS00.out; rw [if_pos hgt] at this; exact this
        have y1 : (nn : Int) - bb = (s0 : Nat) := by omega
        have y2 : (mid : Int) < m := by omega
        have E2 := Lib.hid z2
        clear z0 z1 z2 HS00
        go_wp2_with fail
        go_meet
        exact ⟨rfl, by rw [E2.out], rfl⟩
      · obtain ⟨z0, z1⟩ : s0 = a0 ∧ r0 = m := by have := HS00.out; rw [if_neg hgt] at this; exact this
        have y2 : decide ((mid : Int) < m) = false := decide_eq_false (by omega)
        have y3 : decide (mid < m) = false := decide_eq_false (by omega)
        have E1 := Lib.hid z0
        have E2 := Lib.hid z1
        clear z0 z1 HS00
        go_wp2_with fail
        go_meet
        exact ⟨by rw [E1.out], by rw [E2.out], rfl⟩
  case rest =>
  obtain ⟨rfl, rfl, rfl⟩ := hcut
  have S0 : Hid (MidJ s0 r0 nn g cap w0 (X ++ A ++ B ++ Z) (.int .i64 (s0 : Nat)) (.int .i64 (r0 : Nat)) wc) := ⟨s0, r0, rfl, rfl, Mid.start HS0R.out, HSR.out⟩
  go_wp2_with fail
  go_loopw [20, 21] (fun sv rv wr => MidJ s0 r0 nn g cap w0 (X ++ A ++ B ++ Z) sv rv wr) (fun sv rv _ => (intOf rv).toNat - (intOf sv).toNat)
  case atStart => exact S0.out
  case round =>
    obtain ⟨s, r, rfl, rfl, hM, hS⟩ := hrel
    clear S0
    obtain ⟨q1, q2, q3, q4, q5, q6⟩ := HBD.out s r hM.1 hM.2.1 hM.2.2.1
    have hs0 : (0 : Int) ≤ s := by omega
    have hr0 : (0 : Int) ≤ r := by omega
    have HLN1 := HLN.out
    have HLM1 := HLM.out
    have hrn : (r : Int) ≤ n := by omega
    by_cases hij : s < r
    · as_aux_lemma =>
        have hij' : (s : Int) < r := by omega
        obtain ⟨c, hcq, hc1, hc2⟩ : ∃ c : Nat, ((s : Int) + r) / 2 = (c : Int) ∧ s ≤ c ∧ c < r := ⟨(s + r) / 2, by omega, by omega, by omega⟩
        obtain ⟨e, heq, he1⟩ : ∃ e : Nat, (nn : Int) - 1 - c = (e : Int) ∧ e = nn - 1 - c := ⟨nn - 1 - c, by omega, rfl⟩
        have hcD : c < (X ++ A ++ B ++ Z).length := by rw [HDN.out]; omega
        have heD : e < (X ++ A ++ B ++ Z).length := by rw [HDN.out]; omega
        have hx : (X ++ A ++ B ++ Z)[c]? = some (X ++ A ++ B ++ Z)[c] := List.getElem?_eq_getElem hcD
        have hy : (X ++ A ++ B ++ Z)[e]? = some (X ++ A ++ B ++ Z)[e] := List.getElem?_eq_getElem heD
        generalize (X ++ A ++ B ++ Z)[c] = x at *
        generalize (X ++ A ++ B ++ Z)[e] = y at *
        have k1 : ¬ y.t < x.t → Mid kt (X ++ A ++ B ++ Z) nn s0 r0 (c + 1) r := fun hp => hM.up hc1 hc2 hx (by rw [← he1]; exact hy) hp
        have k2 : y.t < x.t → Mid kt (X ++ A ++ B ++ Z) nn s0 r0 s c := fun hp => hM.down hc1 hc2 hx (by rw [← he1]; exact hy) hp
        have hcn : (c : Int) < n := by omega
        have hcn2 : c < n := by omega
        have hc0 : (0 : Int) ≤ c := by omega
        have hen2 : e < n := by have := HDN.out; omega
        have hen : (e : Int) < n := by omega
        have he0 : (0 : Int) ≤ e := by omega
        have c0 := hS.cell hy 0 _ rfl
        have c1 := hS.cell hy 1 _ rfl
        have c2 := hS.cell hy 2 _ rfl
        have d0 := hS.cell hx 0 _ rfl
        have d1 := hS.cell hx 1 _ rfl
        have d2 := hS.cell hx 2 _ rfl
        have gl := hS.lt
        have HS := Lib.hid hS; have K1 := Lib.hid k1; have K2 := Lib.hid k2; have HH1 := Lib.hid hc1; have HH2 := Lib.hid hc2
        have N1 := first_any y x
        have hcr : (c : Int) < r := by omega
        clear hM hS k1 k2 hx hy hcD heD hij hc1 hc2 he1 HLN1 HLM1 q1 q2 q3 q4 q5 q6
        obtain ⟨x1, x2, x3⟩ := x
        obtain ⟨y1, y2, y3⟩ := y
        simp only [Nat.add_zero] at c0 c1 c2 d0 d1 d2 N1
        go_wp2_with fail
        have c0 := cell_regrown c0; have d0 := cell_regrown d0
        have c1 := cell_regrown c1; have d1 := cell_regrown d1
        have c2 := cell_regrown c2; have d2 := cell_regrown d2
        have KK := fun d os => Calls.regrown_of (N1 (grow (redrawn wr d) os))
        clear N1
        by_cases hxy : y3 < x3
        · rw [cmpI_lt hxy] at KK
          have HO := Lib.hid (K2.out (by omega))
          clear K1 K2 hxy
          (refine wp_region_quiet_below (by kernel_rfl) (by kernel_rfl) ?_; (repeat (go_big_quiet_step (first | with_reducible exact KK _ _))); refine wpQuiet_nil ?_; intro _ hw'; obtain ⟨⟨dq, osq⟩, hw''⟩ := hw'; subst hw'')
          have bq := below_regrown wr dq osq
          clear KK c0 c1 c2 d0 d1 d2
          have SS := Lib.hid (HS.out.keep bq)
          clear bq HS
          simp only at *
          generalize grow (redrawn wr dq) osq = w2 at *
          go_wp2_with fail
          go_roundw
          case rel => exact ⟨s, c, rfl, rfl, HO.out, SS.out⟩
          case measure => have := HH1.out; have := HH2.out; simp [intOf]; omega
        · have hge := cmpI_ge hxy
          generalize cmpI y3 x3 = cc at *
          have hcc : decide (cc < 0) = false := decide_eq_false (by omega)
          have HO := Lib.hid (K1.out (by omega))
          clear K1 K2 hxy
          (refine wp_region_quiet_below (by kernel_rfl) (by kernel_rfl) ?_; (repeat (go_big_quiet_step (first | with_reducible exact KK _ _))); refine wpQuiet_nil ?_; intro _ hw'; obtain ⟨⟨dq, osq⟩, hw''⟩ := hw'; subst hw'')
          have bq := below_regrown wr dq osq
          clear KK c0 c1 c2 d0 d1 d2
          have SS := Lib.hid (HS.out.keep bq)
          clear bq HS
          simp only at *
          generalize grow (redrawn wr dq) osq = w2 at *
          go_wp2_with fail
          go_roundw
          case rel => exact ⟨c + 1, r, by go_num, rfl, HO.out, SS.out⟩
          case measure => have := HH1.out; have := HH2.out; simp [intOf]; omega
    · as_aux_lemma =>
        obtain rfl : s = r := by have := hM.2.1; omega
        obtain ⟨A1, A2, B1, B2, hV⟩ := HHV.out s hM
        obtain ⟨e, heq, he1⟩ : ∃ e : Nat, (nn : Int) - s = (e : Int) ∧ e = nn - s := ⟨nn - s, by omega, rfl⟩
        have la := hV.la; have lb := hV.lb; have eA := hV.a; have eB := hV.b
        have lA := congrArg List.length eA; have lB := congrArg List.length eB
        simp only [List.length_append] at lA lB
        have HV := Lib.hid hV
        have sA1 := (srt_app.1 (eA ▸ HsA.out : Srt kt (A1 ++ A2))).1; have sA2 := (srt_app.1 (eA ▸ HsA.out : Srt kt (A1 ++ A2))).2.1
        have sB1 := (srt_app.1 (eB ▸ HsB.out : Srt kt (B1 ++ B2))).1; have sB2 := (srt_app.1 (eB ▸ HsB.out : Srt kt (B1 ++ B2))).2.1
        have LAB := HAB.out; have LA := HLA.out; have LB := HLB.out; have LM := HLM.out; have LN := HLN.out
        have HLen : Hid (X.length + A1.length + B1.length = mid ∧ mid + A2.length = e ∧ e + B2.length = bb) := ⟨by omega, by omega, by omega⟩
        have hLen := HLen.out
        have hD1 : X ++ A ++ B ++ Z = (X ++ A1) ++ A2 ++ B1 ++ (B2 ++ Z) := by rw [eA, eB]; simp
        have hS' := hS
        rw [hD1] at hS'
        have hsm : s < m → m < e → Calls Try.prog 36 #[.slice (some ⟨g, 0, none⟩) n cap, .int .i64 (s : Nat), .int .i64 (m : Nat), .int .i64 (e : Nat), .func (.func 28) #[] #[]] wr (SrPost 39 g cap (X ++ A1 ++ B1 ++ (A2 ++ (B2 ++ Z))) w0) := fun g1 g2 => by
          have := rot_any (X ++ A1) A2 B1 (B2 ++ Z) (by omega) (by omega) n g cap (by simp only [List.length_append]; omega) hl (.func (.func 28) #[] #[]) w0 wr hS' s m e (by rw [List.length_append]; omega) (by rw [List.length_append]; omega) (by rw [List.length_append]; omega)
          rw [show X ++ A1 ++ B1 ++ A2 ++ (B2 ++ Z) = X ++ A1 ++ B1 ++ (A2 ++ (B2 ++ Z)) by simp] at this
          exact this
        have hnr : ¬ (s < m ∧ m < e) → SR 39 g cap (X ++ A1 ++ B1 ++ (A2 ++ (B2 ++ Z))) w0 wr := fun h0 => by
          have h1 := HV.out.rot (by
            rcases Nat.lt_or_ge s m with h2 | h2
            · exact .inr (List.eq_nil_of_length_eq_zero (by omega))
            · exact .inl (List.eq_nil_of_length_eq_zero (by omega)))
          rw [h1] at hS
          simpa using hS
        have hCL0 : a0 < s → s < mid → ∀ w3, SR 39 g cap (X ++ A1 ++ B1 ++ (A2 ++ (B2 ++ Z))) w0 w3 → Calls Try.prog 35 #[.slice (some ⟨g, 0, none⟩) n cap, .int .i64 (a0 : Nat), .int .i64 (s : Nat), .int .i64 (mid : Nat), .func (.func 28) #[] #[]] w3 (MergePost g cap X (A1 ++ B1) (A2 ++ (B2 ++ Z)) w0) := fun g1 g2 w3 hw3 =>
          HIH.out X A1 B1 (A2 ++ (B2 ++ Z)) (by omega) (by omega) (by omega) (by simp only [List.length_append]; omega) sA1 sB1 w3 a0 s mid hw3 (by omega) (by omega) (by omega)
        have hCT0 : mid < e → e < bb → ∀ L, (X ++ L).length = mid → ∀ w4, SR 39 g cap ((X ++ L) ++ A2 ++ B2 ++ Z) w0 w4 → Calls Try.prog 35 #[.slice (some ⟨g, 0, none⟩) n cap, .int .i64 (mid : Nat), .int .i64 (e : Nat), .int .i64 (bb : Nat), .func (.func 28) #[] #[]] w4 (MergePost g cap (X ++ L) (A2 ++ B2) Z w0) := fun g1 g2 L hL w4 hw4 =>
          HIH.out (X ++ L) A2 B2 Z (by omega) (by omega) (by omega) (by omega) sA2 sB2 w4 mid e bb hw4 (by omega) (by omega) (by omega)
        have hnL : ¬ (a0 < s ∧ s < mid) → Srt kt (A1 ++ B1) := fun h0 => by
          rcases Nat.lt_or_ge a0 s with h2 | h2
          · obtain rfl : B1 = [] := List.eq_nil_of_length_eq_zero (by omega)
            simpa using sA1
          · obtain rfl : A1 = [] := List.eq_nil_of_length_eq_zero (by omega)
            simpa using sB1
        have hnR : ¬ (mid < e ∧ e < bb) → Srt kt (A2 ++ B2) := fun h0 => by
          rcases Nat.lt_or_ge mid e with h2 | h2
          · obtain rfl : B2 = [] := List.eq_nil_of_length_eq_zero (by omega)
            simpa using sA2
          · obtain rfl : A2 = [] := List.eq_nil_of_length_eq_zero (by omega)
            simpa using sB2
        have z1 : (s : Int) ≤ n := by omega
        have z2 : (e : Int) ≤ n := by omega
        have z3 : (0 : Int) ≤ e := by omega
        have HZZ : Hid (a0 ≤ s ∧ s ≤ m ∧ m ≤ e ∧ e ≤ bb ∧ (s + e = mid + m) ∧ (a0 < m ∧ m < bb ∧ a0 < mid ∧ mid < bb)) := ⟨by omega, by omega, by omega, by omega, by omega, by omega⟩
        have hsm2 := Lib.hid hsm; have hnr2 := Lib.hid hnr; have hCL2 := Lib.hid hCL0; have hCT2 := Lib.hid hCT0; have hnL2 := Lib.hid hnL; have hnR2 := Lib.hid hnR
        clear LAB hsm hnr hCL0 hCT0 hnL hnR hV la lb eA eB lA lB sA1 sA2 sB1 sB2 LA LB LM LN hLen hD1 hS' hS hM q1 q2 q3 q4 q5 q6 hij he1 HLN1 HLM1 HSR HHV HBD HDN HIH HS0R HsA HsB
        obtain ⟨zz1, zz2, zz3, zz4, zz5, zz6⟩ := HZZ.out
        by_cases g1 : s < m ∧ m < e
        · obtain ⟨g1, g2⟩ := g1
          have CR := hsm2.out g1 g2
          have g4 : s < mid := by omega
          have g5 : mid < e := by omega
          clear hsm2 hnr2
          have t1 : (s : Int) < m := by omega
          have t2 : (m : Int) < e := by omega
          have t4 : (s : Int) < mid := by omega
          have t5 : (mid : Int) < e := by omega
          by_cases g3 : a0 < s
          · have t3 : (a0 : Int) < s := by omega
            by_cases g6 : e < bb
            · have t6 : (e : Int) < bb := by omega
              clear HZZ zz1 zz2 zz3 zz4 zz5 zz6
              go_wp2_with fail
              refine CR.mono ?_; rintro e w3 ⟨rfl, hS3⟩
              clear CR
              have CL := hCL2.out g3 g4 _ hS3
              clear hS3 hCL2 hnL2
              go_wp2_with fail
              refine CL.mono ?_; rintro e w4 ⟨rfl, D2, ⟨L, rfl, sL, eL⟩, hS4⟩
              clear CL
              have hLl : (X ++ L).length = mid := by have := eL.1; have := HLen.out; simp only [List.length_append] at *; omega
              rw [show X ++ L ++ (A2 ++ (B2 ++ Z)) = (X ++ L) ++ A2 ++ B2 ++ Z by simp] at hS4
              have SL := Lib.hid sL
              have EL := Lib.hid eL
              clear sL eL
              have CT := hCT2.out g5 g6 L hLl _ hS4
              clear hS4 hLl hCT2 hnR2
              go_wp2_with fail
              refine CT.mono ?_; rintro e w5 ⟨rfl, D3, ⟨R, rfl, sR, eR⟩, hS5⟩
              clear CT
              have F := Lib.hid (HV.out.done SL.out sR EL.out eR)
              clear sR eR
              go_wp2_with fail
              refine bodyPost_ret (v := (.tuple #[])) (by simp [results, Try.results35, go_sem, *]) rfl ?_
              exact ⟨rfl, _, F.out, hS5⟩
            · have g56 : ¬ (mid < e ∧ e < bb) := fun g => g6 g.2
              have t6 : decide ((e : Int) < bb) = false := decide_eq_false (by omega)
              have t6' : decide (e < bb) = false := decide_eq_false (by omega)
              clear HZZ zz1 zz2 zz3 zz4 zz5 zz6
              go_wp2_with fail
              refine CR.mono ?_; rintro e w3 ⟨rfl, hS3⟩
              clear CR
              have CL := hCL2.out g3 g4 _ hS3
              clear hS3 hCL2 hnL2
              go_wp2_with fail
              refine CL.mono ?_; rintro e w4 ⟨rfl, D2, ⟨L, rfl, sL, eL⟩, hS4⟩
              clear CL
              have hLl : (X ++ L).length = mid := by have := eL.1; have := HLen.out; simp only [List.length_append] at *; omega
              rw [show X ++ L ++ (A2 ++ (B2 ++ Z)) = (X ++ L) ++ A2 ++ B2 ++ Z by simp] at hS4
              have SL := Lib.hid sL
              have EL := Lib.hid eL
              clear sL eL
              have F := Lib.hid (HV.out.done SL.out (hnR2.out g56) EL.out (Eqv.refl _))
              have hS5 := hS4
              rw [show X ++ L ++ A2 ++ B2 ++ Z = X ++ L ++ (A2 ++ B2) ++ Z by simp] at hS5
              clear hS4 hLl hCT2 hnR2
              go_wp2_with fail
              refine bodyPost_ret (v := (.tuple #[])) (by simp [results, Try.results35, go_sem, *]) rfl ?_
              exact ⟨rfl, _, F.out, hS5⟩
          · have g34 : ¬ (a0 < s ∧ s < mid) := fun g => g3 g.1
            have t3 : decide ((a0 : Int) < s) = false := decide_eq_false (by omega)
            have t3' : decide (a0 < s) = false := decide_eq_false (by omega)
            by_cases g6 : e < bb
            · have t6 : (e : Int) < bb := by omega
              clear HZZ zz1 zz2 zz3 zz4 zz5 zz6
              go_wp2_with fail
              refine CR.mono ?_; rintro e w3 ⟨rfl, hS3⟩
              clear CR
              have sL := hnL2.out g34
              obtain ⟨L, hLe, sL, eL⟩ : ∃ L, X ++ A1 ++ B1 ++ (A2 ++ (B2 ++ Z)) = X ++ L ++ (A2 ++ (B2 ++ Z)) ∧ Srt kt L ∧ Eqv kt (A1 ++ B1) L := ⟨A1 ++ B1, by simp, sL, Eqv.refl _⟩
              rw [hLe] at hS3
              have hS4 := hS3
              clear hS3 hLe hCL2 hnL2
              have hLl : (X ++ L).length = mid := by have := eL.1; have := HLen.out; simp only [List.length_append] at *; omega
              rw [show X ++ L ++ (A2 ++ (B2 ++ Z)) = (X ++ L) ++ A2 ++ B2 ++ Z by simp] at hS4
              have SL := Lib.hid sL
              have EL := Lib.hid eL
              clear sL eL
              have CT := hCT2.out g5 g6 L hLl _ hS4
              clear hS4 hLl hCT2 hnR2
              go_wp2_with fail
              refine CT.mono ?_; rintro e w5 ⟨rfl, D3, ⟨R, rfl, sR, eR⟩, hS5⟩
              clear CT
              have F := Lib.hid (HV.out.done SL.out sR EL.out eR)
              clear sR eR
              go_wp2_with fail
              refine bodyPost_ret (v := (.tuple #[])) (by simp [results, Try.results35, go_sem, *]) rfl ?_
              exact ⟨rfl, _, F.out, hS5⟩
            · have g56 : ¬ (mid < e ∧ e < bb) := fun g => g6 g.2
              have t6 : decide ((e : Int) < bb) = false := decide_eq_false (by omega)
              have t6' : decide (e < bb) = false := decide_eq_false (by omega)
              clear HZZ zz1 zz2 zz3 zz4 zz5 zz6
              go_wp2_with fail
              refine CR.mono ?_; rintro e w3 ⟨rfl, hS3⟩
              clear CR
              have sL := hnL2.out g34
              obtain ⟨L, hLe, sL, eL⟩ : ∃ L, X ++ A1 ++ B1 ++ (A2 ++ (B2 ++ Z)) = X ++ L ++ (A2 ++ (B2 ++ Z)) ∧ Srt kt L ∧ Eqv kt (A1 ++ B1) L := ⟨A1 ++ B1, by simp, sL, Eqv.refl _⟩
              rw [hLe] at hS3
              have hS4 := hS3
              clear hS3 hLe hCL2 hnL2
              have hLl : (X ++ L).length = mid := by have := eL.1; have := HLen.out; simp only [List.length_append] at *; omega
              rw [show X ++ L ++ (A2 ++ (B2 ++ Z)) = (X ++ L) ++ A2 ++ B2 ++ Z by simp] at hS4
              have SL := Lib.hid sL
              have EL := Lib.hid eL
              clear sL eL
              have F := Lib.hid (HV.out.done SL.out (hnR2.out g56) EL.out (Eqv.refl _))
              have hS5 := hS4
              rw [show X ++ L ++ A2 ++ B2 ++ Z = X ++ L ++ (A2 ++ B2) ++ Z by simp] at hS5
              clear hS4 hLl hCT2 hnR2
              go_wp2_with fail
              refine bodyPost_ret (v := (.tuple #[])) (by simp [results, Try.results35, go_sem, *]) rfl ?_
              exact ⟨rfl, _, F.out, hS5⟩
        · have hS3 := hnr2.out g1
          clear hsm2 hnr2
          by_cases g2 : s < m
          · have g3 : a0 < s := by omega
            have g5 : mid < e := by omega
            have g6 : e < bb := by omega
            have g34 : ¬ (a0 < s ∧ s < mid) := by omega
            have t1 : (s : Int) < m := by omega
            have t2 : decide ((m : Int) < e) = false := decide_eq_false (by omega)
            have t2' : decide (m < e) = false := decide_eq_false (by omega)
            have t3 : (a0 : Int) < s := by omega
            have t4 : decide ((s : Int) < mid) = false := decide_eq_false (by omega)
            have t4' : decide (s < mid) = false := decide_eq_false (by omega)
            have t5 : (mid : Int) < e := by omega
            have t6 : (e : Int) < bb := by omega
            clear HZZ zz1 zz2 zz3 zz4 zz5 zz6 g1
            have sL := hnL2.out g34
            obtain ⟨L, hLe, sL, eL⟩ : ∃ L, X ++ A1 ++ B1 ++ (A2 ++ (B2 ++ Z)) = X ++ L ++ (A2 ++ (B2 ++ Z)) ∧ Srt kt L ∧ Eqv kt (A1 ++ B1) L := ⟨A1 ++ B1, by simp, sL, Eqv.refl _⟩
            rw [hLe] at hS3
            have hS4 := hS3
            clear hS3 hLe hCL2 hnL2
            have hLl : (X ++ L).length = mid := by have := eL.1; have := HLen.out; simp only [List.length_append] at *; omega
            rw [show X ++ L ++ (A2 ++ (B2 ++ Z)) = (X ++ L) ++ A2 ++ B2 ++ Z by simp] at hS4
            have SL := Lib.hid sL
            have EL := Lib.hid eL
            clear sL eL
            have CT := hCT2.out g5 g6 L hLl _ hS4
            clear hS4 hLl hCT2 hnR2
            go_wp2_with fail
            refine CT.mono ?_; rintro e w5 ⟨rfl, D3, ⟨R, rfl, sR, eR⟩, hS5⟩
            clear CT
            have F := Lib.hid (HV.out.done SL.out sR EL.out eR)
            clear sR eR
            go_wp2_with fail
            refine bodyPost_ret (v := (.tuple #[])) (by simp [results, Try.results35, go_sem, *]) rfl ?_
            exact ⟨rfl, _, F.out, hS5⟩
          · have g3 : a0 < s := by omega
            have g56 : ¬ (mid < e ∧ e < bb) := by omega
            have t1 : decide ((s : Int) < m) = false := decide_eq_false (by omega)
            have t1' : decide (s < m) = false := decide_eq_false (by omega)
            have t3 : (a0 : Int) < s := by omega
            have t5 : decide ((mid : Int) < e) = false := decide_eq_false (by omega)
            have t5' : decide (mid < e) = false := decide_eq_false (by omega)
            by_cases g4 : s < mid
            · have t4 : (s : Int) < mid := by omega
              clear HZZ zz1 zz2 zz3 zz4 zz5 zz6 g1
              have CL := hCL2.out g3 g4 _ hS3
              clear hS3 hCL2 hnL2
              go_wp2_with fail
              refine CL.mono ?_; rintro e w4 ⟨rfl, D2, ⟨L, rfl, sL, eL⟩, hS4⟩
              clear CL
              have hLl : (X ++ L).length = mid := by have := eL.1; have := HLen.out; simp only [List.length_append] at *; omega
              rw [show X ++ L ++ (A2 ++ (B2 ++ Z)) = (X ++ L) ++ A2 ++ B2 ++ Z by simp] at hS4
              have SL := Lib.hid sL
              have EL := Lib.hid eL
              clear sL eL
              have F := Lib.hid (HV.out.done SL.out (hnR2.out g56) EL.out (Eqv.refl _))
              have hS5 := hS4
              rw [show X ++ L ++ A2 ++ B2 ++ Z = X ++ L ++ (A2 ++ B2) ++ Z by simp] at hS5
              clear hS4 hLl hCT2 hnR2
              go_wp2_with fail
              refine bodyPost_ret (v := (.tuple #[])) (by simp [results, Try.results35, go_sem, *]) rfl ?_
              exact ⟨rfl, _, F.out, hS5⟩
            · have g34 : ¬ (a0 < s ∧ s < mid) := fun g => g4 g.2
              have t4 : decide ((s : Int) < mid) = false := decide_eq_false (by omega)
              have t4' : decide (s < mid) = false := decide_eq_false (by omega)
              clear HZZ zz1 zz2 zz3 zz4 zz5 zz6 g1
              have sL := hnL2.out g34
              obtain ⟨L, hLe, sL, eL⟩ : ∃ L, X ++ A1 ++ B1 ++ (A2 ++ (B2 ++ Z)) = X ++ L ++ (A2 ++ (B2 ++ Z)) ∧ Srt kt L ∧ Eqv kt (A1 ++ B1) L := ⟨A1 ++ B1, by simp, sL, Eqv.refl _⟩
              rw [hLe] at hS3
              have hS4 := hS3
              clear hS3 hLe hCL2 hnL2
              have hLl : (X ++ L).length = mid := by have := eL.1; have := HLen.out; simp only [List.length_append] at *; omega
              rw [show X ++ L ++ (A2 ++ (B2 ++ Z)) = (X ++ L) ++ A2 ++ B2 ++ Z by simp] at hS4
              have SL := Lib.hid sL
              have EL := Lib.hid eL
              clear sL eL
              have F := Lib.hid (HV.out.done SL.out (hnR2.out g56) EL.out (Eqv.refl _))
              have hS5 := hS4
              rw [show X ++ L ++ A2 ++ B2 ++ Z = X ++ L ++ (A2 ++ B2) ++ Z by simp] at hS5
              clear hS4 hLl hCT2 hnR2
              go_wp2_with fail
              refine bodyPost_ret (v := (.tuple #[])) (by simp [results, Try.results35, go_sem, *]) rfl ?_
              exact ⟨rfl, _, F.out, hS5⟩
end Go.Proofs.Ytmnakbpjbgjnmaa
