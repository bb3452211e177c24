/- slices.symMergeCmpFunc over timers: one ahead of many; one behind many. -/
import Derived.Test.YtmnakbpjbgjnmaaSrtIns
namespace Go.Proofs.Ytmnakbpjbgjnmaa
open Go.Sort Go.RowKit Go.BigFrame
set_option linter.unusedVariables false
set_option linter.unusedSimpArgs false

def SymC (N n g cap : Nat) (w0 : World) : Prop := ∀ (X A B Z : List Tm), 0 < A.length → 0 < B.length → A.length + B.length ≤ N → n = X.length + A.length + B.length + Z.length → Srt kt A → Srt kt B →
  ∀ (w : World) (av mv bv : Int), SR 39 g cap (X ++ A ++ B ++ Z) w0 w → av = (X.length : Nat) → mv = ((X.length + A.length : Nat) : Int) → bv = ((X.length + A.length + B.length : Nat) : Int) →
    Calls Try.prog 35 #[.slice (some ⟨g, 0, none⟩) n cap, .int .i64 av, .int .i64 mv, .int .i64 bv, .func (.func 28) #[] #[]] w (MergePost g cap X (A ++ B) Z w0)
theorem get_right {X A Q : List Tm} {i : Nat} (h : X.length ≤ i) (h2 : i < X.length + A.length) : (X ++ (A ++ Q))[i]? = A[i - X.length]? := by
  rw [List.getElem?_append_right h, List.getElem?_append_left (by omega)]
def S1J (x : Tm) (B D : List Tm) (m g cap : Nat) (w0 : World) (iv jv : Value) (wr : World) : Prop := ∃ i j : Nat, iv = .int .i64 (i : Nat) ∧ jv = .int .i64 (j : Nat) ∧ Lo (ltP kt x) m B i j ∧ SR 39 g cap D w0 wr
def UpJ (X B1 T : List Tm) (x : Tm) (g cap : Nat) (w0 : World) (kv : Value) (wr : World) : Prop := ∃ (k : Nat) (D : List Tm), kv = .int .i64 (k : Nat) ∧ Up X B1 T x k D ∧ SR 39 g cap D w0 wr
set_option maxHeartbeats 3200000 in
set_option maxRecDepth 20000 in
theorem sym_one (n g cap : Nat) (w0 : World) (hl : n ≤ 1000000) (X : List Tm) (x : Tm) (B Z : List Tm) (hB : 0 < B.length) (hn : n = X.length + 1 + B.length + Z.length) (sB : Srt kt B) (w : World) (av mv bv : Int)
    (h : SR 39 g cap (X ++ [x] ++ B ++ Z) w0 w) (ha : av = (X.length : Nat)) (hm : mv = ((X.length + 1 : Nat) : Int)) (hb : bv = ((X.length + 1 + B.length : Nat) : Int)) :
    Calls Try.prog 35 #[.slice (some ⟨g, 0, none⟩) n cap, .int .i64 av, .int .i64 mv, .int .i64 bv, .func (.func 28) #[] #[]] w (MergePost g cap X ([x] ++ B) Z w0) := by
  subst ha hm hb
  have S0 : Hid (S1J x B (X ++ [x] ++ B ++ Z) (X.length + 1) g cap w0 (.int .i64 ((X.length + 1 : Nat) : Int)) (.int .i64 ((X.length + 1 + B.length : Nat) : Int)) w) := ⟨_, _, rfl, rfl, Lo.start _ _ _, h⟩
  have HX : Hid ((X ++ [x] ++ B ++ Z)[X.length]? = some x) := by
    show _ = _
    rw [show X ++ [x] ++ B ++ Z = X ++ x :: (B ++ Z) by simp]; exact at_mid _ _ _ rfl
  have HY : Hid (∀ h y, X.length + 1 ≤ h → B[h - (X.length + 1)]? = some y → (X ++ [x] ++ B ++ Z)[h]? = some y) := fun h y h1 h2 => by
    have h3 := (List.getElem?_eq_some_iff.1 h2).1
    rw [show X ++ [x] ++ B ++ Z = (X ++ [x]) ++ (B ++ Z) by simp, get_right (by simp; omega) (by simp; omega)]
    simpa using h2
  have HMo := Lib.hid (ltP_mono sB x)
  have HE : Hid (∀ i D', Lo (ltP kt x) (X.length + 1) B i i → ∃ B1 B2, B = B1 ++ B2 ∧ X.length + 1 + B1.length = i ∧ Up X B1 (B2 ++ Z) x X.length (X ++ [x] ++ B ++ Z) ∧ (Up X B1 (B2 ++ Z) x (X.length + B1.length) D' → Merged kt X ([x] ++ B) Z D')) := fun i D' hlo => by
    obtain ⟨B1, B2, rfl, e, p1, p2⟩ := hlo.split
    refine ⟨B1, B2, rfl, e, ?_, fun hu => hu.done sB p1 p2⟩
    have := Up.start X B1 (B2 ++ Z) x
    simpa using this
  have HDN : Hid ((X ++ [x] ++ B ++ Z).length = n) := by show _ = _; rw [hn]; simp only [List.length_append, List.length_cons, List.length_nil]
  have h1 : ((X.length + 1 : Nat) : Int) - (X.length : Nat) = 1 := by omega
  have h2 : (0 : Int) ≤ (X.length : Nat) := by omega
  have h3 : ((X.length + 1 + B.length : Nat) : Int) ≤ n := by omega
  have h4 : (n : Int) ≤ 1000000 := by omega
  have h5 : (X.length : Int) < n := by omega
  have h6 : X.length < n := by omega
  have HB : Hid (B.length = X.length + 1 + B.length - (X.length + 1)) := by show _ = _; omega
  have HP : Hid (X.length + 1 = X.length + 1) := rfl
  clear h hn hB sB
  generalize X.length + 1 + B.length = b at *
  generalize hmq : X.length + 1 = m at *
  have HMQ := Lib.hid hmq
  clear hmq
  generalize hpq : X.length = p at *
  have HPQ := Lib.hid hpq
  clear hpq
  have h7 : (0 : Int) ≤ m := by omega
  have h8 : (m : Int) ≤ 1000000 := by have := HMQ.out; omega
  have h9 : (0 : Int) ≤ b := by omega
  generalize X ++ [x] ++ B ++ Z = D at *
  go_enter Try.func35, Try.ntmps35
  go_wp2_with fail
  go_loopw [10, 11] (fun iv jv wr => S1J x B D m g cap w0 iv jv wr) (fun iv jv _ => (intOf jv).toNat - (intOf iv).toNat)
  case atStart => exact S0.out
  case round =>
    obtain ⟨i, j, rfl, rfl, hLo, hS⟩ := hrel
    clear S0
    have hLb : Hid (m ≤ i ∧ i ≤ j ∧ j ≤ m + B.length) := ⟨hLo.1, hLo.2.1, hLo.2.2.1⟩
    have hi0 : (0 : Int) ≤ i := by omega
    have hj0 : (0 : Int) ≤ j := by omega
    have hjn : (j : Int) ≤ n := by have := hLb.out.2.2; have := HB.out; omega
    by_cases hij : i < j
    · have hij' : (i : Int) < j := by omega
      obtain ⟨h, hhq, hh1, hh2⟩ : ∃ h : Nat, ((i : Int) + j) / 2 = (h : Int) ∧ i ≤ h ∧ h < j := ⟨(i + j) / 2, by omega, by omega, by omega⟩
      have hhm : h - m < B.length := by have := hLb.out; omega
      have hy0 : B[h - m]? = some B[h - m] := List.getElem?_eq_getElem hhm
      have hyD := HY.out h _ (by have := hLb.out; omega) hy0
      have k1 : B[h - m].t < x.t → Lo (ltP kt x) m B (h + 1) j := fun hp => hLo.up HMo.out hh1 hh2 hy0 (decide_eq_true hp)
      have k2 : ¬ B[h - m].t < x.t → Lo (ltP kt x) m B i h := fun hp => hLo.down HMo.out hh1 hh2 hy0 (decide_eq_false hp)
      generalize B[h - m] = y at *
      have hhn : (h : Int) < n := by omega
      have hhn2 : h < n := by omega
      have hh0 : (0 : Int) ≤ h := by omega
      have c0 := hS.cell hyD 0 _ rfl
      have c1 := hS.cell hyD 1 _ rfl
      have c2 := hS.cell hyD 2 _ rfl
      have d0 := hS.cell HX.out 0 _ rfl
      have d1 := hS.cell HX.out 1 _ rfl
      have d2 := hS.cell HX.out 2 _ rfl
      have gl := hS.lt
      have HS := Lib.hid hS
      have K1 := Lib.hid k1
      have K2 := Lib.hid k2
      have HH1 := Lib.hid hh1
      have HH2 := Lib.hid hh2
      have N1 := first_any y x
      clear hLo hS k1 k2 hyD hy0 hhm hLb hij hh1 hh2
      obtain ⟨y1, y2, y3⟩ := y
      have hxe := Lib.hid (rfl : x = x)
      simp only [Nat.add_zero] at c0 c1 c2 d0 d1 d2 N1
      generalize hx1 : x.k = x1 at *
      generalize hx2 : x.i = x2 at *
      generalize hx3 : x.t = x3 at *
      clear hx1 hx2 hx3
      go_wp2_with fail
      have c0 := cell_regrown c0
      have c1 := cell_regrown c1
      have c2 := cell_regrown c2
      have d0 := cell_regrown d0
      have d1 := cell_regrown d1
      have d2 := cell_regrown d2
      have KK := fun d os => Calls.regrown_of (N1 (grow (redrawn wr d) os))
      clear N1
      by_cases hxy : y3 < x3
      · rw [cmpI_lt hxy] at KK
        have HO := Lib.hid (K1.out hxy)
        clear K1 K2 hxy
        (refine wp_region_quiet_below (by kernel_rfl) (by kernel_rfl) ?_; (repeat (go_big_quiet_step (first | with_reducible exact KK _ _))); refine wpQuiet_nil ?_; intro _ hw'; obtain ⟨⟨dq, osq⟩, hw''⟩ := hw'; subst hw'')
        have bq := below_regrown wr dq osq
        clear KK c0 c1 c2 d0 d1 d2
        have SS := Lib.hid (HS.out.keep bq)
        clear bq HS
        simp only at *
        generalize grow (redrawn wr dq) osq = w2 at *
        go_wp2_with fail
        go_roundw
        case rel => exact ⟨h + 1, j, by go_num, rfl, HO.out, SS.out⟩
        case measure => have := HH1.out; have := HH2.out; simp [intOf]; omega
      · have hge := cmpI_ge hxy
        generalize cmpI y3 x3 = cc at *
        have HO := Lib.hid (K2.out (by omega))
        clear K1 K2 hxy
        have hcc : decide (cc < 0) = false := decide_eq_false (by omega)
        (refine wp_region_quiet_below (by kernel_rfl) (by kernel_rfl) ?_; (repeat (go_big_quiet_step (first | with_reducible exact KK _ _))); refine wpQuiet_nil ?_; intro _ hw'; obtain ⟨⟨dq, osq⟩, hw''⟩ := hw'; subst hw'')
        have bq := below_regrown wr dq osq
        clear KK c0 c1 c2 d0 d1 d2
        have SS := Lib.hid (HS.out.keep bq)
        clear bq HS
        simp only at *
        generalize grow (redrawn wr dq) osq = w2 at *
        go_wp2_with fail
        go_roundw
        case rel => exact ⟨i, h, rfl, rfl, HO.out, SS.out⟩
        case measure => have := HH1.out; have := HH2.out; simp [intOf]; omega
    · obtain rfl : i = j := by have := hLb.out; omega
      obtain ⟨B1, B2, hB12, e1, hU0, hfin⟩ := HE.out i D hLo
      have U0 : Hid (UpJ X B1 (B2 ++ Z) x g cap w0 (.int .i64 (p : Nat)) wr) := ⟨p, D, rfl, hU0, hS⟩
      have HF : Hid (∀ D', Up X B1 (B2 ++ Z) x (p + B1.length) D' → Merged kt X ([x] ++ B) Z D') := fun D' => by
        obtain ⟨_, _, e2, _, _, h9⟩ := HE.out i D' hLo
        have : B1 = _ := (List.append_inj (hB12.symm.trans e2) (by omega)).1
        subst this
        have := (List.append_inj (hB12.symm.trans e2) rfl).2
        subst this
        exact h9
      have HK : Hid (∀ k D', Up X B1 (B2 ++ Z) x k D' → k < p + B1.length → ∃ y, D'[k]? = some x ∧ D'[k + 1]? = some y ∧ Up X B1 (B2 ++ Z) x (k + 1) (swp D' k (k + 1) y x)) := fun k D' h h2 => h.step (by rw [HPQ.out]; exact h2)
      have HN : Hid (∀ k D', Up X B1 (B2 ++ Z) x k D' → D'.length = D.length ∧ k ≤ p + B1.length) := fun k D' h => ⟨by rw [h.len.1, hU0.len.1], by have := h.len.2; rw [HPQ.out] at this; exact this⟩
      have hie : (i : Int) - 1 = ((p + B1.length : Nat) : Int) := by have := HMQ.out; omega
      have hin : p + B1.length + 1 ≤ n := by have := HMQ.out; omega
      have hDn : Hid (D.length = n) := HDN
      clear hLo hS hfin e1 hU0 hB12 HE hLb
      generalize p + B1.length = q at *
      go_wp2_with fail
      go_loopw [13] (fun kv wr => UpJ X B1 (B2 ++ Z) x g cap w0 kv wr) (fun kv _ => q - (intOf kv).toNat)
      case atStart => exact U0.out
      case round =>
        obtain ⟨k, D', rfl, hU, hS⟩ := hrel
        clear U0
        have hk0 : (0 : Int) ≤ k := by omega
        obtain ⟨hdl, hkq⟩ := HN.out _ _ hU
        by_cases hlt : k < q
        · have hlt' : (k : Int) < q := by omega
          obtain ⟨y, hx, hy, hU2⟩ := HK.out _ _ hU hlt
          have hsw := hS.swap k (k + 1) y x (by have := hDn.out; omega) (by have := hDn.out; omega)
          have c0 := hS.cell hx 0 _ rfl
          have c1 := hS.cell hx 1 _ rfl
          have c2 := hS.cell hx 2 _ rfl
          have d0 := hS.cell hy 0 _ rfl
          have d1 := hS.cell hy 1 _ rfl
          have d2 := hS.cell hy 2 _ rfl
          have fr := fun o => hS.free o
          have gl := hS.lt
          have HW := Lib.hid hsw
          have HO := Lib.hid hU2
          have HLT := Lib.hid hlt
          have hk1 : (k : Int) + 1 = ((k + 1 : Nat) : Int) := by omega
          have hk2 : ((k + 1 : Nat) : Int) < n := by omega
          have hk3 : k + 1 < n := by omega
          have hk4 : (k : Int) < n := by omega
          have hk5 : k < n := by omega
          have hk6 : k < k + 1 := by omega
          have hk7 : (0 : Int) ≤ ((k + 1 : Nat) : Int) := by omega
          have HK1 : Hid (k + 1 = k + 1) := rfl
          clear hU hS hx hy hU2 hsw hdl hkq HN HK HF hDn
          have hKe : ∃ s : Nat, s = k + 1 := ⟨_, rfl⟩
          obtain ⟨s, hse⟩ := hKe
          have HSE := Lib.hid hse
          rw [← hse] at HW HO d0 d1 d2 hk1 hk2 hk3 hk6 hk7
          clear hse HK1
          obtain ⟨y1, y2, y3⟩ := y
          obtain ⟨x1, x2, x3⟩ := x
          simp only [Nat.add_zero] at c0 c1 c2 d0 d1 d2
          go_wp2_with fail
          go_region
          go_wp2_with fail
          go_roundw
          case rel => exact ⟨s, _, by go_num, HO.out, HW.out.keep ((Below.refl _ _).drew)⟩
          case measure => have := HLT.out; have := HSE.out; simp [intOf]; omega
        · obtain rfl : k = q := by omega
          have HO := Lib.hid (HF.out _ hU)
          have SS := Lib.hid hS
          clear hU hS
          go_wp2_with fail
          refine bodyPost_ret (v := (.tuple #[])) (by simp [results, Try.results35, go_sem, *]) rfl ?_
          exact ⟨rfl, D', HO.out, SS.out⟩
end Go.Proofs.Ytmnakbpjbgjnmaa
