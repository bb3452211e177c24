/- slices.symMergeCmpFunc over timers: one behind many. -/
import Derived.Test.YtmnakbpjbgjnmaaSrtSym
namespace Go.Proofs.Ytmnakbpjbgjnmaa
open Go.Sort Go.RowKit Go.BigFrame
set_option linter.unusedVariables false
set_option linter.unusedSimpArgs false

def S2J (y : Tm) (A D : List Tm) (p g cap : Nat) (w0 : World) (iv jv : Value) (wr : World) : Prop := ∃ i j : Nat, iv = .int .i64 (i : Nat) ∧ jv = .int .i64 (j : Nat) ∧ Lo (leP kt y) p A i j ∧ SR 39 g cap D w0 wr
def DnJ (X A2 T : List Tm) (y : Tm) (g cap : Nat) (w0 : World) (kv : Value) (wr : World) : Prop := ∃ (k : Nat) (D : List Tm), kv = .int .i64 (k : Nat) ∧ Dn X A2 T y k D ∧ SR 39 g cap D w0 wr
set_option maxHeartbeats 3200000 in
set_option maxRecDepth 20000 in
theorem sym_last (n g cap : Nat) (w0 : World) (hl : n ≤ 1000000) (X A : List Tm) (y : Tm) (Z : List Tm) (hA : 1 < A.length) (hn : n = X.length + A.length + 1 + Z.length) (sA : Srt kt A) (w : World) (av mv bv : Int)
    (h : SR 39 g cap (X ++ A ++ [y] ++ Z) w0 w) (ha : av = (X.length : Nat)) (hm : mv = ((X.length + A.length : Nat) : Int)) (hb : bv = ((X.length + A.length + 1 : Nat) : Int)) :
    Calls Try.prog 35 #[.slice (some ⟨g, 0, none⟩) n cap, .int .i64 av, .int .i64 mv, .int .i64 bv, .func (.func 28) #[] #[]] w (MergePost g cap X (A ++ [y]) Z w0) := by
  subst ha hm hb
  have S0 : Hid (S2J y A (X ++ A ++ [y] ++ Z) X.length g cap w0 (.int .i64 ((X.length : Nat) : Int)) (.int .i64 ((X.length + A.length : Nat) : Int)) w) := ⟨_, _, rfl, rfl, Lo.start _ _ _, h⟩
  have HX : Hid ((X ++ A ++ [y] ++ Z)[X.length + A.length]? = some y) := by
    show _ = _
    rw [show X ++ A ++ [y] ++ Z = (X ++ A) ++ y :: Z by simp]; exact at_mid _ _ _ (by simp)
  have HY : Hid (∀ h x, X.length ≤ h → A[h - X.length]? = some x → (X ++ A ++ [y] ++ Z)[h]? = some x) := fun h x h1 h2 => by
    have h3 := (List.getElem?_eq_some_iff.1 h2).1
    rw [show X ++ A ++ [y] ++ Z = X ++ (A ++ ([y] ++ Z)) by simp, get_right h1 (by omega)]
    exact h2
  have HMo := Lib.hid (leP_mono sA y)
  have HE : Hid (∀ i D', Lo (leP kt y) X.length A i i → ∃ A1 A2, A = A1 ++ A2 ∧ X.length + A1.length = i ∧ Dn (X ++ A1) A2 Z y (X.length + A.length) (X ++ A ++ [y] ++ Z) ∧ (Dn (X ++ A1) A2 Z y (X.length + A1.length) D' → Merged kt X (A ++ [y]) Z D')) := fun i D' hlo => by
    obtain ⟨A1, A2, rfl, e, p1, p2⟩ := hlo.split
    refine ⟨A1, A2, rfl, e, ?_, fun hu => hu.done sA p1 p2⟩
    have := Dn.start (X ++ A1) A2 Z y
    simpa [Nat.add_assoc] using this
  have HDN : Hid ((X ++ A ++ [y] ++ Z).length = n) := by show _ = _; rw [hn]; simp only [List.length_append, List.length_cons, List.length_nil]
  have h1 : ((X.length + A.length : Nat) : Int) - (X.length : Nat) = (A.length : Nat) := by omega
  have h11 : ((A.length : Nat) : Int) ≠ 1 := by omega
  have h12 : (((A.length : Nat) : Int) == 1) = false := by rw [beq_eq_false_iff_ne]; exact h11
  have h13 : ((X.length + A.length + 1 : Nat) : Int) - ((X.length + A.length : Nat) : Int) = 1 := by omega
  have h2 : (0 : Int) ≤ (X.length : Nat) := by omega
  have h3 : ((X.length + A.length + 1 : Nat) : Int) ≤ n := by omega
  have h4 : (n : Int) ≤ 1000000 := by omega
  have h5 : ((X.length + A.length : Nat) : Int) < n := by omega
  have h6 : X.length + A.length < n := by omega
  have h7 : (0 : Int) ≤ ((X.length + A.length : Nat) : Int) := by omega
  have h14 : (0 : Int) ≤ (A.length : Nat) := by omega
  have h15 : ((A.length : Nat) : Int) ≤ 1000000 := by omega
  have HB : Hid (X.length + A.length = X.length + A.length) := rfl
  clear h hn hA sA
  generalize X.length + A.length + 1 = b at *
  generalize hmq : X.length + A.length = m at *
  have HMQ := Lib.hid hmq
  clear hmq
  generalize hpq : X.length = p at *
  have HPQ := Lib.hid hpq
  clear hpq
  generalize haq : A.length = la at *
  have HAQ := Lib.hid haq
  clear haq
  have h8 : (m : Int) ≤ 1000000 := by omega
  have h9 : (0 : Int) ≤ b := by omega
  generalize X ++ A ++ [y] ++ Z = D at *
  go_enter Try.func35, Try.ntmps35
  go_wp2_with fail
  go_loopw [14, 15] (fun iv jv wr => S2J y A D p g cap w0 iv jv wr) (fun iv jv _ => (intOf jv).toNat - (intOf iv).toNat)
  case atStart => exact S0.out
  case round =>
    obtain ⟨i, j, rfl, rfl, hLo, hS⟩ := hrel
    clear S0
    have hLb : Hid (p ≤ i ∧ i ≤ j ∧ j ≤ p + A.length) := ⟨hLo.1, hLo.2.1, hLo.2.2.1⟩
    have hi0 : (0 : Int) ≤ i := by omega
    have hj0 : (0 : Int) ≤ j := by omega
    have hjn : (j : Int) ≤ n := by have := hLb.out.2.2; have := HMQ.out; have := HAQ.out; omega
    by_cases hij : i < j
    · have hij' : (i : Int) < j := by omega
      obtain ⟨h, hhq, hh1, hh2⟩ : ∃ h : Nat, ((i : Int) + j) / 2 = (h : Int) ∧ i ≤ h ∧ h < j := ⟨(i + j) / 2, by omega, by omega, by omega⟩
      have hhm : h - p < A.length := by have := hLb.out; omega
      have hy0 : A[h - p]? = some A[h - p] := List.getElem?_eq_getElem hhm
      have hyD := HY.out h _ (by have := hLb.out; omega) hy0
      have k1 : ¬ y.t < A[h - p].t → Lo (leP kt y) p A (h + 1) j := fun hp => hLo.up HMo.out hh1 hh2 hy0 (by unfold leP kt; rw [Bool.not_eq_true']; exact decide_eq_false hp)
      have k2 : y.t < A[h - p].t → Lo (leP kt y) p A i h := fun hp => hLo.down HMo.out hh1 hh2 hy0 (by unfold leP kt; rw [Bool.not_eq_false']; exact decide_eq_true hp)
      generalize A[h - p] = x at *
      have hhn : (h : Int) < n := by omega
      have hhn2 : h < n := by omega
      have hh0 : (0 : Int) ≤ h := by omega
      have c0 := hS.cell hyD 0 _ rfl
      have c1 := hS.cell hyD 1 _ rfl
      have c2 := hS.cell hyD 2 _ rfl
      have d0 := hS.cell HX.out 0 _ rfl
      have d1 := hS.cell HX.out 1 _ rfl
      have d2 := hS.cell HX.out 2 _ rfl
      have gl := hS.lt
      have HS := Lib.hid hS
      have K1 := Lib.hid k1
      have K2 := Lib.hid k2
      have HH1 := Lib.hid hh1
      have HH2 := Lib.hid hh2
      have N1 := first_any y x
      clear hLo hS k1 k2 hyD hy0 hhm hLb hij hh1 hh2
      obtain ⟨x1, x2, x3⟩ := x
      simp only [Nat.add_zero] at c0 c1 c2 d0 d1 d2 N1
      generalize hy1 : y.k = y1 at *
      generalize hy2 : y.i = y2 at *
      generalize hy3 : y.t = y3 at *
      clear hy1 hy2 hy3
      go_wp2_with fail
      have c0 := cell_regrown c0
      have c1 := cell_regrown c1
      have c2 := cell_regrown c2
      have d0 := cell_regrown d0
      have d1 := cell_regrown d1
      have d2 := cell_regrown d2
      have KK := fun d os => Calls.regrown_of (N1 (grow (redrawn wr d) os))
      clear N1
      by_cases hxy : y3 < x3
      · rw [cmpI_lt hxy] at KK
        have HO := Lib.hid (K2.out hxy)
        clear K1 K2 hxy
        (refine wp_region_quiet_below (by kernel_rfl) (by kernel_rfl) ?_; (repeat (go_big_quiet_step (first | with_reducible exact KK _ _))); refine wpQuiet_nil ?_; intro _ hw'; obtain ⟨⟨dq, osq⟩, hw''⟩ := hw'; subst hw'')
        have bq := below_regrown wr dq osq
        clear KK c0 c1 c2 d0 d1 d2
        have SS := Lib.hid (HS.out.keep bq)
        clear bq HS
        simp only at *
        generalize grow (redrawn wr dq) osq = w2 at *
        go_wp2_with fail
        go_roundw
        case rel => exact ⟨i, h, rfl, rfl, HO.out, SS.out⟩
        case measure => have := HH1.out; have := HH2.out; simp [intOf]; omega
      · have hge := cmpI_ge hxy
        generalize cmpI y3 x3 = cc at *
        have HO := Lib.hid (K1.out (by omega))
        clear K1 K2 hxy
        have hcc : decide (cc < 0) = false := decide_eq_false (by omega)
        (refine wp_region_quiet_below (by kernel_rfl) (by kernel_rfl) ?_; (repeat (go_big_quiet_step (first | with_reducible exact KK _ _))); refine wpQuiet_nil ?_; intro _ hw'; obtain ⟨⟨dq, osq⟩, hw''⟩ := hw'; subst hw'')
        have bq := below_regrown wr dq osq
        clear KK c0 c1 c2 d0 d1 d2
        have SS := Lib.hid (HS.out.keep bq)
        clear bq HS
        simp only at *
        generalize grow (redrawn wr dq) osq = w2 at *
        go_wp2_with fail
        go_roundw
        case rel => exact ⟨h + 1, j, by go_num, rfl, HO.out, SS.out⟩
        case measure => have := HH1.out; have := HH2.out; simp [intOf]; omega
    · obtain rfl : i = j := by have := hLb.out; omega
      obtain ⟨A1, A2, hA12, e1, hU0, hfin⟩ := HE.out i D hLo
      have U0 : Hid (DnJ (X ++ A1) A2 Z y g cap w0 (.int .i64 (m : Nat)) wr) := ⟨m, D, rfl, hU0, hS⟩
      have HF : Hid (∀ D', Dn (X ++ A1) A2 Z y (p + A1.length) D' → Merged kt X (A ++ [y]) Z D') := fun D' => by
        obtain ⟨_, _, e2, _, _, h9⟩ := HE.out i D' hLo
        have : A1 = _ := (List.append_inj (hA12.symm.trans e2) (by omega)).1
        subst this
        have := (List.append_inj (hA12.symm.trans e2) rfl).2
        subst this
        exact h9
      have HK : Hid (∀ k D', Dn (X ++ A1) A2 Z y k D' → p + A1.length < k → ∃ x, D'[k]? = some y ∧ D'[k - 1]? = some x ∧ Dn (X ++ A1) A2 Z y (k - 1) (swp D' k (k - 1) x y)) := fun k D' h h2 => h.step (by rw [List.length_append, HPQ.out]; exact h2)
      have HN : Hid (∀ k D', Dn (X ++ A1) A2 Z y k D' → D'.length = D.length ∧ k ≤ m ∧ p + A1.length ≤ k) := fun k D' h => by
        have e3 := congrArg List.length hA12
        have h8 := HMQ.out
        have h9 := HPQ.out
        have h10 := HAQ.out
        have l := h.len
        simp only [List.length_append] at l e3
        exact ⟨by rw [h.len.1, hU0.len.1], by omega, by omega⟩
      have hDn : Hid (D.length = n) := HDN
      clear hLo hS hfin hU0 hA12 HE hLb
      subst e1
      generalize p + A1.length = q at *
      go_wp2_with fail
      go_loopw [17] (fun kv wr => DnJ (X ++ A1) A2 Z y g cap w0 kv wr) (fun kv _ => (intOf kv).toNat)
      case atStart => exact U0.out
      case round =>
        obtain ⟨k, D', rfl, hU, hS⟩ := hrel
        clear U0
        have hk0 : (0 : Int) ≤ k := by omega
        obtain ⟨hdl, hkm, hkq⟩ := HN.out _ _ hU
        by_cases hlt : q < k
        · have hlt' : (q : Int) < k := by omega
          obtain ⟨x, hx, hy, hU2⟩ := HK.out _ _ hU hlt
          have hsw := hS.swap k (k - 1) x y (by have := hDn.out; omega) (by have := hDn.out; omega)
          have c0 := hS.cell hx 0 _ rfl
          have c1 := hS.cell hx 1 _ rfl
          have c2 := hS.cell hx 2 _ rfl
          have d0 := hS.cell hy 0 _ rfl
          have d1 := hS.cell hy 1 _ rfl
          have d2 := hS.cell hy 2 _ rfl
          have fr := fun o => hS.free o
          have gl := hS.lt
          have HW := Lib.hid hsw
          have HO := Lib.hid hU2
          have hk4 : (k : Int) < n := by omega
          have hk5 : k < n := by omega
          obtain ⟨s, hse⟩ : ∃ s : Nat, s = k - 1 := ⟨_, rfl⟩
          have hk1 : (k : Int) - 1 = (s : Nat) := by omega
          have hk2 : (s : Int) < n := by omega
          have hk3 : s < n := by omega
          have hk6 : s < k := by omega
          have hk7 : (0 : Int) ≤ s := by omega
          clear hU hS hx hy hU2 hsw hdl hkq HN HK HF hDn hlt hkm
          rw [← hse] at HW HO d0 d1 d2
          clear hse
          obtain ⟨y1, y2, y3⟩ := y
          obtain ⟨x1, x2, x3⟩ := x
          simp only [Nat.add_zero] at c0 c1 c2 d0 d1 d2
          go_wp2_with fail
          go_region
          go_wp2_with fail
          go_roundw
          case rel => exact ⟨s, _, by go_num, HO.out, HW.out.keep ((Below.refl _ _).drew)⟩
          case measure => simp [intOf]; omega
        · obtain rfl : k = q := by omega
          have HO := Lib.hid (HF.out _ hU)
          have SS := Lib.hid hS
          clear hU hS
          go_wp2_with fail
          refine bodyPost_ret (v := (.tuple #[])) (by simp [results, Try.results35, go_sem, *]) rfl ?_
          exact ⟨rfl, D', HO.out, SS.out⟩
end Go.Proofs.Ytmnakbpjbgjnmaa
