/- PathOpens: open at another address a path is that one's; what comes from elsewhere keeps nothing; lost there is none, and it may be wanted anew: for all addresses, all times. -/
import Derived.Test.YtpeoallhbbleaaaPaEx
import Derived.Deep.DeepCutAuto
import Derived.ChangeOld
import Derived.ChangeMaps5
import Derived.ShutString
import Derived.OpenShut
import Derived.SizedLaws
namespace Go.Proofs.Ytpeoallhbbleaaa
open Go.Sort Go.RowKit Go.BigFrame Go.ChangeShapes Go.WideShapes Go.Deep
set_option linter.unusedVariables false
set_option linter.unusedSimpArgs false

def kO : Tk := newK 3 2 5 30
theorem kO_one : newK 3 2 5 30 = oneK kO 4 zP := one_new 3 2 5 30 4
theorem openE_zero (ip pt : Nat) (now : Int) : openE 0 ip pt now = 1 := by
  unfold openE badC; rw [show nodeI 0 = false by decide]; rfl
theorem openE_none (id now : Int) : openE id 0 0 now = 1 := by
  unfold openE; rw [if_pos (.inr rfl)]
theorem openD_no {k : Tk} {id : Int} {ip pt : Nat} {now : Int} (h : openE id ip pt now = 1) : openD k id ip pt now = k := by
  unfold openD; rw [h, if_neg (by decide)]
theorem none_nine {A : Nat} (h : 1 ≤ A) : noneI A 9 = false := by
  unfold noneI; rw [decide_eq_false (by omega), decide_eq_false (by decide)]; rfl
set_option maxHeartbeats 12800000 in
set_option maxRecDepth 100000 in
theorem opens_same (a b n : Int) (A B : Nat) (a0 : 0 ≤ a) (b0 : 0 ≤ b) (hA : 1 ≤ A ∧ A ≤ 3) (hB : 1 ≤ B ∧ B ≤ 3) (eA : a % 3 + 1 = A) (eB : b % 3 + 1 = B) (n0 : 0 ≤ n) (n1 : n ≤ 65535) (hAB : A = B) (w : World) :
    Calls Try.prog 6 #[.int .u8 a, .int .u8 b, .int .u16 n] w fun e w' => e = .returned (.bool true) ∧ Below w.heap.size w w' := by
  have E := ex_any w
  have ra : a.tmod 3 = A - 1 := by rw [tmod_pos _ _ a0]; omega
  have rb : b.tmod 3 = B - 1 := by rw [tmod_pos _ _ b0]; omega
  have ya := IntWalk.u8_in ((A : Int) - 1) ⟨by omega, by omega⟩
  have yb := IntWalk.u8_in ((B : Int) - 1) ⟨by omega, by omega⟩
  have za := IntWalk.u32_in ((A : Int) - 1) ⟨by omega, by omega⟩
  have zb := IntWalk.u32_in ((B : Int) - 1) ⟨by omega, by omega⟩
  have sa : (1 : Int) + (A - 1) = A := by omega
  have sb : (1 : Int) + (B - 1) = B := by omega
  have wa := IntWalk.u32_in (A : Int) ⟨by omega, by omega⟩
  have wb := IntWalk.u32_in (B : Int) ⟨by omega, by omega⟩
  have wn := IntWalk.u64_in n ⟨by omega, by omega⟩
  have w3 := IntWalk.u64_in (n + 3) ⟨by omega, by omega⟩
  have w4 := IntWalk.u64_in (n + 4) ⟨by omega, by omega⟩
  have w5 := IntWalk.u64_in (n + 5) ⟨by omega, by omega⟩
  have w6 := IntWalk.u64_in (n + 6) ⟨by omega, by omega⟩
  have w10 := IntWalk.u64_in (n + 10) ⟨by omega, by omega⟩
  have w30 := IntWalk.u64_in (n + 30) ⟨by omega, by omega⟩
  have w33 := IntWalk.u64_in (n + 33) ⟨by omega, by omega⟩
  have w35 := IntWalk.u64_in (n + 35) ⟨by omega, by omega⟩
  have NA : noneI A 9 = false := none_nine hA.1
  have NB : noneI B 9 = false := none_nine hB.1
  have O1 := one_open kO (i := 4) zP (by decide) (by decide) NA (now := n) (by omega)
  have H1 : heardB (oneK kO 4 ⟨4, 3, 0, A, 9, n + 5, n + 30⟩) 4 B 9 (n + 3) = true ∧ heardD (oneK kO 4 ⟨4, 3, 0, A, 9, n + 5, n + 30⟩) 4 B 9 (n + 3) = oneK kO 4 ⟨4, 3, 0, A, 9, n + 5, n + 33⟩ := by
    have h := one_heard kO (i := 4) ⟨4, 3, 0, A, 9, n + 5, n + 30⟩ (by decide) (by decide) B 9 (now := n + 3) (by omega)
    subst hAB
    rw [show ((3 : Int) == 3 && (decide (A = A) && decide (9 = 9))) = true by simp, if_pos rfl] at h
    rw [show n + 3 + kO.hold = n + 33 by show n + 3 + 30 = n + 33; omega] at h
    exact h
  have T1 := one_isP kO (i := 4) ⟨4, 3, 0, A, 9, n + 5, n + 33⟩ (by decide) (by decide)
  have T2 := one_of kO (i := 4) ⟨4, 3, 0, A, 9, n + 5, n + 33⟩ (by decide) (by decide) rfl
  have W1 := one_want2 kO (i := 4) ⟨4, 3, 0, A, 9, n + 5, n + 33⟩ rfl (by decide) (by decide) (now := n + 4) (by omega)
  have O2 : openE 4 B 9 (n + 5) = 0 ∧ openD (oneK kO 4 ⟨4, 3, 0, A, 9, n + 5, n + 33⟩) 4 B 9 (n + 5) = oneK kO 4 ⟨4, 3, 0, B, 9, n + 10, n + 35⟩ := by
    have h := one_open kO (i := 4) ⟨4, 3, 0, A, 9, n + 5, n + 33⟩ (by decide) (by decide) NB (now := n + 5) (by omega)
    rw [show n + 5 + kO.keep = n + 10 by show n + 5 + 5 = n + 10; omega, show n + 5 + kO.hold = n + 35 by show n + 5 + 30 = n + 35; omega] at h
    exact h
  have W2 := one_want kO (i := 4) (by decide) (by decide) (now := n + 6) (by omega)
  have T3 := one_isP kO (i := 4) ⟨4, 3, 0, B, 9, n + 10, n + 35⟩ (by decide) (by decide)
  have T4 := one_of kO (i := 4) ⟨4, 3, 0, B, 9, n + 10, n + 35⟩ (by decide) (by decide) rfl
  have L1 := one_lost kO (i := 4) ⟨4, 3, 0, B, 9, n + 10, n + 35⟩ rfl (by decide) (by decide)
  have T5 := one_isP kO (i := 4) zP (by decide) (by decide)
  replace O1 := Lib.hid O1
  replace H1 := Lib.hid H1
  replace T1 := Lib.hid T1
  replace T2 := Lib.hid T2
  replace W1 := Lib.hid W1
  replace O2 := Lib.hid O2
  replace T3 := Lib.hid T3
  replace T4 := Lib.hid T4
  replace L1 := Lib.hid L1
  replace W2 := Lib.hid W2
  replace T5 := Lib.hid T5
  have X1 : Hid (1 ≤ A ∧ A ≤ 3) := hA
  have X2 : Hid (1 ≤ B ∧ B ≤ 3) := hB
  have X3 : Hid (0 ≤ n ∧ n ≤ 65535) := ⟨n0, n1⟩
  replace hAB := Lib.hid hAB
  clear NA NB hA hB n0 n1 a0 b0 eA eB
  go_enter Try.func6, Try.ntmps6
  go_wp2_with fail
  refine E.mono ?_; rintro e w0 ⟨rfl, b0'⟩
  have K := newT_l (t := 3) (bs := 2) (kp := 5) (hd := 30) (by decide) (St.start w w0 b0')
  rw [kO_one] at K
  clear E b0'
  go_wp2_with fail
  refine K.mono ?_; rintro e w1 ⟨g, rfl, s⟩
  clear K
  have s2 := (s.box [.int .u32 A, .int .u16 9] 35).box [.int .u32 B, .int .u16 9] 35
  simp only [World.size_alloc] at s2
  clear s
  go_upto_region 9 with fail
  generalize ((w1.alloc (.cells #[.int .u32 A, .int .u16 9] 35)).alloc (.cells #[.int .u32 B, .int .u16 9] 35)) = w2 at *
  obtain ⟨ba, hba⟩ : ∃ x, w1.heap.size = x := ⟨_, rfl⟩
  obtain ⟨bb, hbb⟩ : ∃ x, ba + 1 = x := ⟨_, rfl⟩
  rw [hba] at s2 ⊢
  rw [hbb] at s2 ⊢
  clear hba hbb
  have cells := s2.cs (b := ba) (vs := [.int .u32 A, .int .u16 9]) (by simp)
  have c0 := cells.cell 0 _ rfl
  have c1 := cells.cell 1 _ rfl
  have cl := cells.lt
  clear cells
  have cells := s2.cs (b := bb) (vs := [.int .u32 B, .int .u16 9]) (by simp)
  have e0 := cells.cell 0 _ rfl
  have e1 := cells.cell 1 _ rfl
  have el := cells.lt
  clear cells
  have K := open_l (k' := oneK kO 4 ⟨4, 3, 0, A, 9, n + 5, n + 30⟩) (e := 0) 4 A 9 n X3.out.1 (by have := X1.out; omega) (by decide) O1.out.1 O1.out.2 [_, _] [] s2
  clear s2
  go_wp2_with fail
  refine K.mono ?_; rintro e w3' ⟨rfl, s⟩
  clear K c0 c1 cl e0 e1 el
  have cells := s.cs (b := ba) (vs := [.int .u32 A, .int .u16 9]) (by simp)
  have c0 := cells.cell 0 _ rfl
  have c1 := cells.cell 1 _ rfl
  have cl := cells.lt
  clear cells
  have cells := s.cs (b := bb) (vs := [.int .u32 B, .int .u16 9]) (by simp)
  have e0 := cells.cell 0 _ rfl
  have e1 := cells.cell 1 _ rfl
  have el := cells.lt
  clear cells
  have K := heard_l (b := true) (k' := oneK kO 4 ⟨4, 3, 0, A, 9, n + 5, n + 33⟩) 4 B 9 (n + 3) (by have := X3.out; omega) H1.out.1 H1.out.2 [_, _] [] s
  clear s
  go_wp2_with fail
  refine K.mono ?_; rintro e w4' ⟨rfl, s⟩
  clear K c0 c1 cl e0 e1 el
  have K := of_l (b := true) (x := ⟨4, 3, 0, A, 9, n + 5, n + 33⟩) 4 T1.out T2.out s (g := g) (k := oneK kO 4 ⟨4, 3, 0, A, 9, n + 5, n + 33⟩) (by simp)
  clear s
  go_wp2_with fail
  refine K.mono ?_; rintro e w5' ⟨rfl, s⟩
  clear K
  simp only [Int.natCast_zero, Int.ofNat_zero, Int.cast_ofNat_Int]
  have s2 := s.box [.int .i64 4, .int .i64 3, .int .i64 0, .int .u32 A, .int .u16 9, .int .u64 (n + 5), .int .u64 (n + 33)] 61
  clear s
  go_upto_region 13 with fail
  generalize (w5'.alloc (.cells #[.int .i64 4, .int .i64 3, .int .i64 0, .int .u32 A, .int .u16 9, .int .u64 (n + 5), .int .u64 (n + 33)] 61)) = w6' at *
  generalize w5'.heap.size = bp at *
  have K := want_l (k' := oneK kO 4 ⟨4, 3, 0, A, 9, n + 5, n + 33⟩) (e := 6) 4 (n + 4) (by have := X3.out; omega) W1.out.1 W1.out.2 [_, _, _] [] s2
  clear s2
  go_wp2_with fail
  refine K.mono ?_; rintro e w7' ⟨rfl, s⟩
  clear K
  have cells := s.cs (b := bb) (vs := [.int .u32 B, .int .u16 9]) (by simp)
  have e0 := cells.cell 0 _ rfl
  have e1 := cells.cell 1 _ rfl
  have el := cells.lt
  clear cells
  have K := open_l (k' := oneK kO 4 ⟨4, 3, 0, B, 9, n + 10, n + 35⟩) (e := 0) 4 B 9 (n + 5) (by have := X3.out; omega) (by have := X2.out; omega) (by decide) O2.out.1 O2.out.2 [_, _, _] [] s
  clear s
  go_wp2_with fail
  refine K.mono ?_; rintro e w8' ⟨rfl, s⟩
  clear K e0 e1 el
  have K := of_l (b := true) (x := ⟨4, 3, 0, B, 9, n + 10, n + 35⟩) 4 T3.out T4.out s (g := g) (k := oneK kO 4 ⟨4, 3, 0, B, 9, n + 10, n + 35⟩) (by simp)
  clear s
  go_wp2_with fail
  refine K.mono ?_; rintro e w9' ⟨rfl, s⟩
  clear K
  simp only [Int.natCast_zero, Int.ofNat_zero, Int.cast_ofNat_Int]
  have s2 := s.box [.int .i64 4, .int .i64 3, .int .i64 0, .int .u32 B, .int .u16 9, .int .u64 (n + 10), .int .u64 (n + 35)] 61
  clear s
  go_upto_region 16 with fail
  generalize (w9'.alloc (.cells #[.int .i64 4, .int .i64 3, .int .i64 0, .int .u32 B, .int .u16 9, .int .u64 (n + 10), .int .u64 (n + 35)] 61)) = w10' at *
  generalize w9'.heap.size = bq at *
  have K := lost_l (b := true) (k' := oneK kO 4 zP) 4 T3.out L1.out [_, _, _, _] [] s2
  clear s2
  go_wp2_with fail
  refine K.mono ?_; rintro e w11' ⟨rfl, s⟩
  clear K
  have K := of_l (b := false) (x := zP) 4 T5.out (by unfold ofX; rw [show isP (oneK kO 4 zP) 4 = false from T5.out]; rfl) s (g := g) (k := oneK kO 4 zP) (by simp)
  clear s
  simp only [zP] at K
  go_wp2_with fail
  refine K.mono ?_; rintro e w12' ⟨rfl, s⟩
  clear K
  simp only [Int.natCast_zero, Int.ofNat_zero, Int.cast_ofNat_Int]
  have s2 := s.alloc (.cells #[.int .i64 0, .int .i64 0, .int .i64 0, .int .u32 0, .int .u16 0, .int .u64 0, .int .u64 0] 61)
  clear s
  go_upto_region 18 with fail
  generalize (w12'.alloc (.cells #[.int .i64 0, .int .i64 0, .int .i64 0, .int .u32 0, .int .u16 0, .int .u64 0, .int .u64 0] 61)) = w13' at *
  generalize w12'.heap.size = bz at *
  have K := want_l (k' := oneK kO 4 ⟨4, 2, 0, 0, 0, n + 6, 0⟩) (e := 0) 4 (n + 6) (by have := X3.out; omega) W2.out.1 W2.out.2 [_, _, _, _] [] s2
  clear s2
  go_wp2_with fail
  refine K.mono ?_; rintro e w14' ⟨rfl, s⟩
  clear K
  simp only [List.cons_append, List.nil_append] at s
  have G : Hid (∀ w', St w [hC bq [.int .i64 4, .int .i64 3, .int .i64 0, .int .u32 B, .int .u16 9, .int .u64 (n + 10), .int .u64 (n + 35)], hC bp [.int .i64 4, .int .i64 3, .int .i64 0, .int .u32 A, .int .u16 9, .int .u64 (n + 5), .int .u64 (n + 33)], hC bb [.int .u32 B, .int .u16 9], hC ba [.int .u32 A, .int .u16 9], hT g (oneK kO 4 ⟨4, 2, 0, 0, 0, n + 6, 0⟩)] w' →
      ((w'.cell? ⟨ba, 0, none⟩ = some (.int .u32 A) ∧ w'.cell? ⟨ba, 1, none⟩ = some (.int .u16 9)) ∧ w'.cell? ⟨bb, 0, none⟩ = some (.int .u32 B) ∧ w'.cell? ⟨bb, 1, none⟩ = some (.int .u16 9)) ∧
      (w'.cell? ⟨bp, 6, none⟩ = some (.int .u64 (n + 33)) ∧ w'.cell? ⟨bp, 1, none⟩ = some (.int .i64 3)) ∧
      (w'.cell? ⟨bq, 3, none⟩ = some (.int .u32 B) ∧ w'.cell? ⟨bq, 4, none⟩ = some (.int .u16 9)) ∧ w'.cell? ⟨bq, 6, none⟩ = some (.int .u64 (n + 35)) ∧ w'.cell? ⟨bq, 5, none⟩ = some (.int .u64 (n + 10))) := fun w' st =>
    ⟨⟨⟨(st.cs (b := ba) (vs := [.int .u32 A, .int .u16 9]) (by simp)).cell 0 _ rfl, (st.cs (b := ba) (vs := [.int .u32 A, .int .u16 9]) (by simp)).cell 1 _ rfl⟩, (st.cs (b := bb) (vs := [.int .u32 B, .int .u16 9]) (by simp)).cell 0 _ rfl, (st.cs (b := bb) (vs := [.int .u32 B, .int .u16 9]) (by simp)).cell 1 _ rfl⟩,
     ⟨(st.cs (b := bp) (vs := [.int .i64 4, .int .i64 3, .int .i64 0, .int .u32 A, .int .u16 9, .int .u64 (n + 5), .int .u64 (n + 33)]) (by simp)).cell 6 _ rfl, (st.cs (b := bp) (vs := [.int .i64 4, .int .i64 3, .int .i64 0, .int .u32 A, .int .u16 9, .int .u64 (n + 5), .int .u64 (n + 33)]) (by simp)).cell 1 _ rfl⟩,
     ⟨(st.cs (b := bq) (vs := [.int .i64 4, .int .i64 3, .int .i64 0, .int .u32 B, .int .u16 9, .int .u64 (n + 10), .int .u64 (n + 35)]) (by simp)).cell 3 _ rfl, (st.cs (b := bq) (vs := [.int .i64 4, .int .i64 3, .int .i64 0, .int .u32 B, .int .u16 9, .int .u64 (n + 10), .int .u64 (n + 35)]) (by simp)).cell 4 _ rfl⟩,
     (st.cs (b := bq) (vs := [.int .i64 4, .int .i64 3, .int .i64 0, .int .u32 B, .int .u16 9, .int .u64 (n + 10), .int .u64 (n + 35)]) (by simp)).cell 6 _ rfl, (st.cs (b := bq) (vs := [.int .i64 4, .int .i64 3, .int .i64 0, .int .u32 B, .int .u16 9, .int .u64 (n + 10), .int .u64 (n + 35)]) (by simp)).cell 5 _ rfl⟩
  obtain ⟨⟨⟨q1, q2⟩, q3, q4⟩, ⟨q5, q6⟩, ⟨q7, q8⟩, q9, q10⟩ := G.out _ s
  clear G
  have KZ := open_l (k' := oneK kO 4 ⟨4, 2, 0, 0, 0, n + 6, 0⟩) (e := 1) 0 A 9 n X3.out.1 (by have := X1.out; omega) (by decide) (openE_zero A 9 n) (openD_no (openE_zero A 9 n)) [_, _, _, _] [] s
  clear s
  have hAB2 := hAB.out
  subst hAB2
  go_wp2_with fail
  refine KZ.mono ?_; rintro e w15' ⟨rfl, s⟩
  have KN := open_l (k' := oneK kO 4 ⟨4, 2, 0, 0, 0, n + 6, 0⟩) (e := 1) 4 0 0 n X3.out.1 (by decide) (by decide) (openE_none 4 n) (openD_no (openE_none 4 n)) [_, _, _, _] [] s
  clear s KZ
  go_wp2_with fail
  refine KN.mono ?_; rintro e w16' ⟨rfl, s⟩
  have F := Lib.hid s.below
  clear s KN q1 q2 q3 q4 q5 q6 q7 q8 q9 q10
  go_wp2
  refine bodyPost_ret (v := (.bool true)) (by simp [results, Try.results6, go_sem, *]) rfl ?_
  exact ⟨rfl, F.out⟩
set_option maxHeartbeats 12800000 in
set_option maxRecDepth 100000 in
theorem opens_other (a b n : Int) (A B : Nat) (a0 : 0 ≤ a) (b0 : 0 ≤ b) (hA : 1 ≤ A ∧ A ≤ 3) (hB : 1 ≤ B ∧ B ≤ 3) (eA : a % 3 + 1 = A) (eB : b % 3 + 1 = B) (n0 : 0 ≤ n) (n1 : n ≤ 65535) (hAB : ¬ A = B) (w : World) :
    Calls Try.prog 6 #[.int .u8 a, .int .u8 b, .int .u16 n] w fun e w' => e = .returned (.bool true) ∧ Below w.heap.size w w' := by
  have E := ex_any w
  have ra : a.tmod 3 = A - 1 := by rw [tmod_pos _ _ a0]; omega
  have rb : b.tmod 3 = B - 1 := by rw [tmod_pos _ _ b0]; omega
  have ya := IntWalk.u8_in ((A : Int) - 1) ⟨by omega, by omega⟩
  have yb := IntWalk.u8_in ((B : Int) - 1) ⟨by omega, by omega⟩
  have za := IntWalk.u32_in ((A : Int) - 1) ⟨by omega, by omega⟩
  have zb := IntWalk.u32_in ((B : Int) - 1) ⟨by omega, by omega⟩
  have sa : (1 : Int) + (A - 1) = A := by omega
  have sb : (1 : Int) + (B - 1) = B := by omega
  have wa := IntWalk.u32_in (A : Int) ⟨by omega, by omega⟩
  have wb := IntWalk.u32_in (B : Int) ⟨by omega, by omega⟩
  have wn := IntWalk.u64_in n ⟨by omega, by omega⟩
  have w3 := IntWalk.u64_in (n + 3) ⟨by omega, by omega⟩
  have w4 := IntWalk.u64_in (n + 4) ⟨by omega, by omega⟩
  have w5 := IntWalk.u64_in (n + 5) ⟨by omega, by omega⟩
  have w6 := IntWalk.u64_in (n + 6) ⟨by omega, by omega⟩
  have w10 := IntWalk.u64_in (n + 10) ⟨by omega, by omega⟩
  have w30 := IntWalk.u64_in (n + 30) ⟨by omega, by omega⟩
  have w33 := IntWalk.u64_in (n + 33) ⟨by omega, by omega⟩
  have w35 := IntWalk.u64_in (n + 35) ⟨by omega, by omega⟩
  have NA : noneI A 9 = false := none_nine hA.1
  have NB : noneI B 9 = false := none_nine hB.1
  have O1 := one_open kO (i := 4) zP (by decide) (by decide) NA (now := n) (by omega)
  have H1 : heardB (oneK kO 4 ⟨4, 3, 0, A, 9, n + 5, n + 30⟩) 4 B 9 (n + 3) = false ∧ heardD (oneK kO 4 ⟨4, 3, 0, A, 9, n + 5, n + 30⟩) 4 B 9 (n + 3) = oneK kO 4 ⟨4, 3, 0, A, 9, n + 5, n + 30⟩ := by
    have h := one_heard kO (i := 4) ⟨4, 3, 0, A, 9, n + 5, n + 30⟩ (by decide) (by decide) B 9 (now := n + 3) (by omega)
    rw [show ((3 : Int) == 3 && (decide (A = B) && decide (9 = 9))) = false by simp [hAB], if_neg (by decide)] at h
    exact h
  have T1 := one_isP kO (i := 4) ⟨4, 3, 0, A, 9, n + 5, n + 30⟩ (by decide) (by decide)
  have T2 := one_of kO (i := 4) ⟨4, 3, 0, A, 9, n + 5, n + 30⟩ (by decide) (by decide) rfl
  have W1 := one_want2 kO (i := 4) ⟨4, 3, 0, A, 9, n + 5, n + 30⟩ rfl (by decide) (by decide) (now := n + 4) (by omega)
  have O2 : openE 4 B 9 (n + 5) = 0 ∧ openD (oneK kO 4 ⟨4, 3, 0, A, 9, n + 5, n + 30⟩) 4 B 9 (n + 5) = oneK kO 4 ⟨4, 3, 0, B, 9, n + 10, n + 35⟩ := by
    have h := one_open kO (i := 4) ⟨4, 3, 0, A, 9, n + 5, n + 30⟩ (by decide) (by decide) NB (now := n + 5) (by omega)
    rw [show n + 5 + kO.keep = n + 10 by show n + 5 + 5 = n + 10; omega, show n + 5 + kO.hold = n + 35 by show n + 5 + 30 = n + 35; omega] at h
    exact h
  have W2 := one_want kO (i := 4) (by decide) (by decide) (now := n + 6) (by omega)
  have T3 := one_isP kO (i := 4) ⟨4, 3, 0, B, 9, n + 10, n + 35⟩ (by decide) (by decide)
  have T4 := one_of kO (i := 4) ⟨4, 3, 0, B, 9, n + 10, n + 35⟩ (by decide) (by decide) rfl
  have L1 := one_lost kO (i := 4) ⟨4, 3, 0, B, 9, n + 10, n + 35⟩ rfl (by decide) (by decide)
  have T5 := one_isP kO (i := 4) zP (by decide) (by decide)
  replace O1 := Lib.hid O1
  replace H1 := Lib.hid H1
  replace T1 := Lib.hid T1
  replace T2 := Lib.hid T2
  replace W1 := Lib.hid W1
  replace O2 := Lib.hid O2
  replace T3 := Lib.hid T3
  replace T4 := Lib.hid T4
  replace L1 := Lib.hid L1
  replace W2 := Lib.hid W2
  replace T5 := Lib.hid T5
  have X1 : Hid (1 ≤ A ∧ A ≤ 3) := hA
  have X2 : Hid (1 ≤ B ∧ B ≤ 3) := hB
  have X3 : Hid (0 ≤ n ∧ n ≤ 65535) := ⟨n0, n1⟩
  clear NA NB hA hB n0 n1 a0 b0 eA eB
  go_enter Try.func6, Try.ntmps6
  go_wp2_with fail
  refine E.mono ?_; rintro e w0 ⟨rfl, b0'⟩
  have K := newT_l (t := 3) (bs := 2) (kp := 5) (hd := 30) (by decide) (St.start w w0 b0')
  rw [kO_one] at K
  clear E b0'
  go_wp2_with fail
  refine K.mono ?_; rintro e w1 ⟨g, rfl, s⟩
  clear K
  have s2 := (s.box [.int .u32 A, .int .u16 9] 35).box [.int .u32 B, .int .u16 9] 35
  simp only [World.size_alloc] at s2
  clear s
  go_upto_region 9 with fail
  generalize ((w1.alloc (.cells #[.int .u32 A, .int .u16 9] 35)).alloc (.cells #[.int .u32 B, .int .u16 9] 35)) = w2 at *
  obtain ⟨ba, hba⟩ : ∃ x, w1.heap.size = x := ⟨_, rfl⟩
  obtain ⟨bb, hbb⟩ : ∃ x, ba + 1 = x := ⟨_, rfl⟩
  rw [hba] at s2 ⊢
  rw [hbb] at s2 ⊢
  clear hba hbb
  have cells := s2.cs (b := ba) (vs := [.int .u32 A, .int .u16 9]) (by simp)
  have c0 := cells.cell 0 _ rfl
  have c1 := cells.cell 1 _ rfl
  have cl := cells.lt
  clear cells
  have cells := s2.cs (b := bb) (vs := [.int .u32 B, .int .u16 9]) (by simp)
  have e0 := cells.cell 0 _ rfl
  have e1 := cells.cell 1 _ rfl
  have el := cells.lt
  clear cells
  have K := open_l (k' := oneK kO 4 ⟨4, 3, 0, A, 9, n + 5, n + 30⟩) (e := 0) 4 A 9 n X3.out.1 (by have := X1.out; omega) (by decide) O1.out.1 O1.out.2 [_, _] [] s2
  clear s2
  go_wp2_with fail
  refine K.mono ?_; rintro e w3' ⟨rfl, s⟩
  clear K c0 c1 cl e0 e1 el
  have cells := s.cs (b := ba) (vs := [.int .u32 A, .int .u16 9]) (by simp)
  have c0 := cells.cell 0 _ rfl
  have c1 := cells.cell 1 _ rfl
  have cl := cells.lt
  clear cells
  have cells := s.cs (b := bb) (vs := [.int .u32 B, .int .u16 9]) (by simp)
  have e0 := cells.cell 0 _ rfl
  have e1 := cells.cell 1 _ rfl
  have el := cells.lt
  clear cells
  have K := heard_l (b := false) (k' := oneK kO 4 ⟨4, 3, 0, A, 9, n + 5, n + 30⟩) 4 B 9 (n + 3) (by have := X3.out; omega) H1.out.1 H1.out.2 [_, _] [] s
  clear s
  go_wp2_with fail
  refine K.mono ?_; rintro e w4' ⟨rfl, s⟩
  clear K c0 c1 cl e0 e1 el
  have K := of_l (b := true) (x := ⟨4, 3, 0, A, 9, n + 5, n + 30⟩) 4 T1.out T2.out s (g := g) (k := oneK kO 4 ⟨4, 3, 0, A, 9, n + 5, n + 30⟩) (by simp)
  clear s
  go_wp2_with fail
  refine K.mono ?_; rintro e w5' ⟨rfl, s⟩
  clear K
  simp only [Int.natCast_zero, Int.ofNat_zero, Int.cast_ofNat_Int]
  have s2 := s.box [.int .i64 4, .int .i64 3, .int .i64 0, .int .u32 A, .int .u16 9, .int .u64 (n + 5), .int .u64 (n + 30)] 61
  clear s
  go_upto_region 13 with fail
  generalize (w5'.alloc (.cells #[.int .i64 4, .int .i64 3, .int .i64 0, .int .u32 A, .int .u16 9, .int .u64 (n + 5), .int .u64 (n + 30)] 61)) = w6' at *
  generalize w5'.heap.size = bp at *
  have K := want_l (k' := oneK kO 4 ⟨4, 3, 0, A, 9, n + 5, n + 30⟩) (e := 6) 4 (n + 4) (by have := X3.out; omega) W1.out.1 W1.out.2 [_, _, _] [] s2
  clear s2
  go_wp2_with fail
  refine K.mono ?_; rintro e w7' ⟨rfl, s⟩
  clear K
  have cells := s.cs (b := bb) (vs := [.int .u32 B, .int .u16 9]) (by simp)
  have e0 := cells.cell 0 _ rfl
  have e1 := cells.cell 1 _ rfl
  have el := cells.lt
  clear cells
  have K := open_l (k' := oneK kO 4 ⟨4, 3, 0, B, 9, n + 10, n + 35⟩) (e := 0) 4 B 9 (n + 5) (by have := X3.out; omega) (by have := X2.out; omega) (by decide) O2.out.1 O2.out.2 [_, _, _] [] s
  clear s
  go_wp2_with fail
  refine K.mono ?_; rintro e w8' ⟨rfl, s⟩
  clear K e0 e1 el
  have K := of_l (b := true) (x := ⟨4, 3, 0, B, 9, n + 10, n + 35⟩) 4 T3.out T4.out s (g := g) (k := oneK kO 4 ⟨4, 3, 0, B, 9, n + 10, n + 35⟩) (by simp)
  clear s
  go_wp2_with fail
  refine K.mono ?_; rintro e w9' ⟨rfl, s⟩
  clear K
  simp only [Int.natCast_zero, Int.ofNat_zero, Int.cast_ofNat_Int]
  have s2 := s.box [.int .i64 4, .int .i64 3, .int .i64 0, .int .u32 B, .int .u16 9, .int .u64 (n + 10), .int .u64 (n + 35)] 61
  clear s
  go_upto_region 16 with fail
  generalize (w9'.alloc (.cells #[.int .i64 4, .int .i64 3, .int .i64 0, .int .u32 B, .int .u16 9, .int .u64 (n + 10), .int .u64 (n + 35)] 61)) = w10' at *
  generalize w9'.heap.size = bq at *
  have K := lost_l (b := true) (k' := oneK kO 4 zP) 4 T3.out L1.out [_, _, _, _] [] s2
  clear s2
  go_wp2_with fail
  refine K.mono ?_; rintro e w11' ⟨rfl, s⟩
  clear K
  have K := of_l (b := false) (x := zP) 4 T5.out (by unfold ofX; rw [show isP (oneK kO 4 zP) 4 = false from T5.out]; rfl) s (g := g) (k := oneK kO 4 zP) (by simp)
  clear s
  simp only [zP] at K
  go_wp2_with fail
  refine K.mono ?_; rintro e w12' ⟨rfl, s⟩
  clear K
  simp only [Int.natCast_zero, Int.ofNat_zero, Int.cast_ofNat_Int]
  have s2 := s.alloc (.cells #[.int .i64 0, .int .i64 0, .int .i64 0, .int .u32 0, .int .u16 0, .int .u64 0, .int .u64 0] 61)
  clear s
  go_upto_region 18 with fail
  generalize (w12'.alloc (.cells #[.int .i64 0, .int .i64 0, .int .i64 0, .int .u32 0, .int .u16 0, .int .u64 0, .int .u64 0] 61)) = w13' at *
  generalize w12'.heap.size = bz at *
  have K := want_l (k' := oneK kO 4 ⟨4, 2, 0, 0, 0, n + 6, 0⟩) (e := 0) 4 (n + 6) (by have := X3.out; omega) W2.out.1 W2.out.2 [_, _, _, _] [] s2
  clear s2
  go_wp2_with fail
  refine K.mono ?_; rintro e w14' ⟨rfl, s⟩
  clear K
  simp only [List.cons_append, List.nil_append] at s
  have G : Hid (∀ w', St w [hC bq [.int .i64 4, .int .i64 3, .int .i64 0, .int .u32 B, .int .u16 9, .int .u64 (n + 10), .int .u64 (n + 35)], hC bp [.int .i64 4, .int .i64 3, .int .i64 0, .int .u32 A, .int .u16 9, .int .u64 (n + 5), .int .u64 (n + 30)], hC bb [.int .u32 B, .int .u16 9], hC ba [.int .u32 A, .int .u16 9], hT g (oneK kO 4 ⟨4, 2, 0, 0, 0, n + 6, 0⟩)] w' →
      ((w'.cell? ⟨ba, 0, none⟩ = some (.int .u32 A) ∧ w'.cell? ⟨ba, 1, none⟩ = some (.int .u16 9)) ∧ w'.cell? ⟨bb, 0, none⟩ = some (.int .u32 B) ∧ w'.cell? ⟨bb, 1, none⟩ = some (.int .u16 9)) ∧
      (w'.cell? ⟨bp, 6, none⟩ = some (.int .u64 (n + 30)) ∧ w'.cell? ⟨bp, 1, none⟩ = some (.int .i64 3)) ∧
      (w'.cell? ⟨bq, 3, none⟩ = some (.int .u32 B) ∧ w'.cell? ⟨bq, 4, none⟩ = some (.int .u16 9)) ∧ w'.cell? ⟨bq, 6, none⟩ = some (.int .u64 (n + 35)) ∧ w'.cell? ⟨bq, 5, none⟩ = some (.int .u64 (n + 10))) := fun w' st =>
    ⟨⟨⟨(st.cs (b := ba) (vs := [.int .u32 A, .int .u16 9]) (by simp)).cell 0 _ rfl, (st.cs (b := ba) (vs := [.int .u32 A, .int .u16 9]) (by simp)).cell 1 _ rfl⟩, (st.cs (b := bb) (vs := [.int .u32 B, .int .u16 9]) (by simp)).cell 0 _ rfl, (st.cs (b := bb) (vs := [.int .u32 B, .int .u16 9]) (by simp)).cell 1 _ rfl⟩,
     ⟨(st.cs (b := bp) (vs := [.int .i64 4, .int .i64 3, .int .i64 0, .int .u32 A, .int .u16 9, .int .u64 (n + 5), .int .u64 (n + 30)]) (by simp)).cell 6 _ rfl, (st.cs (b := bp) (vs := [.int .i64 4, .int .i64 3, .int .i64 0, .int .u32 A, .int .u16 9, .int .u64 (n + 5), .int .u64 (n + 30)]) (by simp)).cell 1 _ rfl⟩,
     ⟨(st.cs (b := bq) (vs := [.int .i64 4, .int .i64 3, .int .i64 0, .int .u32 B, .int .u16 9, .int .u64 (n + 10), .int .u64 (n + 35)]) (by simp)).cell 3 _ rfl, (st.cs (b := bq) (vs := [.int .i64 4, .int .i64 3, .int .i64 0, .int .u32 B, .int .u16 9, .int .u64 (n + 10), .int .u64 (n + 35)]) (by simp)).cell 4 _ rfl⟩,
     (st.cs (b := bq) (vs := [.int .i64 4, .int .i64 3, .int .i64 0, .int .u32 B, .int .u16 9, .int .u64 (n + 10), .int .u64 (n + 35)]) (by simp)).cell 6 _ rfl, (st.cs (b := bq) (vs := [.int .i64 4, .int .i64 3, .int .i64 0, .int .u32 B, .int .u16 9, .int .u64 (n + 10), .int .u64 (n + 35)]) (by simp)).cell 5 _ rfl⟩
  obtain ⟨⟨⟨q1, q2⟩, q3, q4⟩, ⟨q5, q6⟩, ⟨q7, q8⟩, q9, q10⟩ := G.out _ s
  clear G
  have KZ := open_l (k' := oneK kO 4 ⟨4, 2, 0, 0, 0, n + 6, 0⟩) (e := 1) 0 A 9 n X3.out.1 (by have := X1.out; omega) (by decide) (openE_zero A 9 n) (openD_no (openE_zero A 9 n)) [_, _, _, _] [] s
  clear s
  have hne : ((A : Int) == B) = false := beq_eq_false_iff_ne.2 (by omega)
  go_wp2_with fail
  refine KZ.mono ?_; rintro e w15' ⟨rfl, s⟩
  have KN := open_l (k' := oneK kO 4 ⟨4, 2, 0, 0, 0, n + 6, 0⟩) (e := 1) 4 0 0 n X3.out.1 (by decide) (by decide) (openE_none 4 n) (openD_no (openE_none 4 n)) [_, _, _, _] [] s
  clear s KZ
  go_wp2_with fail
  refine KN.mono ?_; rintro e w16' ⟨rfl, s⟩
  have F := Lib.hid s.below
  clear s KN q1 q2 q3 q4 q5 q6 q7 q8 q9 q10
  go_wp2
  refine bodyPost_ret (v := (.bool true)) (by simp [results, Try.results6, go_sem, *]) rfl ?_
  exact ⟨rfl, F.out⟩
theorem opens_run (a b n : Int) (w : World) (w1 : (Lit.int .u8 a).wf = true) (w2 : (Lit.int .u8 b).wf = true) (w3 : (Lit.int .u16 n).wf = true) :
    Calls Try.prog 6 #[.int .u8 a, .int .u8 b, .int .u16 n] w fun e w' => e = .returned (.bool true) ∧ Below w.heap.size w w' := by
  have h1 := bounds_u8 w1
  have h2 := bounds_u8 w2
  have h3 := bounds_u16 w3
  obtain ⟨A, hA⟩ : ∃ A : Nat, a % 3 + 1 = A := ⟨(a % 3 + 1).toNat, by omega⟩
  obtain ⟨B, hB⟩ : ∃ B : Nat, b % 3 + 1 = B := ⟨(b % 3 + 1).toNat, by omega⟩
  by_cases hAB : A = B
  · exact opens_same a b n A B h1.1 h2.1 (by omega) (by omega) hA hB h3.1 (by omega) hAB w
  · exact opens_other a b n A B h1.1 h2.1 (by omega) (by omega) hA hB h3.1 (by omega) hAB w
theorem pathOpens_own : ownKnob Try.prog.godebug = none := by kernel_rfl
theorem pathOpens_laid : laidOutB Try.prog = true := by kernel_rfl
set_option maxRecDepth 100000 in
theorem pathOpens_lifted (os : Os) (started : os.Started) (H : Type) (enc : TypeId × Value → H) :
    ReturnsInHanded {} Try.checked os 6 .any (Rows.pathOpensSpec.pre6 enc Try.prog Try.f6 Rows.pathOpensRow.domain false) (Rows.pathOpensSpec.post enc Try.prog Try.f6 false true false false) := by
  refine returnsInHanded_of_change (C := Try.checked) pathOpens_own started (by kernel_rfl) Try.func6
    (ChangeSpec.witness6 (enc := enc) (C := Try.checked) false ⟨#[], #[.int .u8 0, .int .u8 0, .int .u16 0], []⟩ 8 (by kernel_rfl) (by kernel_rfl) (by kernel_rfl) (by kernel_rfl)) ?_
  intro W base args ds gs before hval0 hW hcnd _
  have hval : ∀ (j : Nat) t v, Try.f6.params[j]? = some t → args[j]? = some v → Value.okWide Try.prog W .any base t v := hval0
  have hW' := hW
  obtain ⟨p, q, hA0, hV, rfl, hfz, hnd⟩ := hW
  have hA : DataW.TrodAll enc Try.prog W 0 (fun _ => true) true Try.f6.params.toList args.toList ds p := hA0
  rw [Try.params6] at hA hval
  obtain ⟨v0, vs0, d0, ds0, p0, q0, hargs, rfl, rfl, h0, r0⟩ := trodAll_cons hA
  obtain ⟨v1, vs1, d1, ds1, p1, q1, rfl, rfl, rfl, h1, r1⟩ := trodAll_cons r0
  obtain ⟨v2, vs2, d2, ds2, p2, q2, rfl, rfl, rfl, h2, r2⟩ := trodAll_cons r1
  obtain ⟨rfl, rfl, rfl⟩ := trodAll_nil r2
  obtain rfl : args = #[v0, v1, v2] := by cases args; simp_all
  obtain ⟨rfl, rfl⟩ := trodVars_none hV
  obtain ⟨a0, rfl, rfl, rfl, w0⟩ := open_int Try.underlying5 (hval 0 5 v0 rfl rfl) h0
  obtain ⟨a1, rfl, rfl, rfl, w1⟩ := open_int Try.underlying5 (hval 1 5 v1 rfl rfl) h1
  obtain ⟨a2, rfl, rfl, rfl, w2⟩ := open_int Try.underlying33 (hval 2 33 v2 rfl rfl) h2
  clear hA0 hval0
  refine (opens_run a0 a1 a2 W w0 w1 w2).mono fun e W' ⟨he, bel⟩ => ?_
  subst he
  exact ⟨_, rfl, _, _, _, [], _, [], hW', trodAll_mk1 (shut_bool Try.underlying4 _), (trodAll_cons_mk (shut_int Try.underlying5 w0) (trodAll_cons_mk (shut_int Try.underlying5 w1) (trodAll_cons_mk (shut_int Try.underlying33 w2) trodAll_mk0))), rfl, bel.frame _, fun h => by cases h⟩
theorem pathOpens_over : Rows.pathOpensRow.holds Try.pinned (OpenSpec.ofChange Rows.pathOpensSpec) :=
  OpenClaim.holds_of_wide 6 Try.f6 rfl rfl rfl rfl rfl rfl rfl ⟨rfl, rfl, rfl, rfl, rfl⟩ rfl rfl rfl rfl rfl (by kernel_rfl) Try.func6 (by kernel_rfl)
    (of_decide_eq_true (by kernel_rfl)) (by unfold Func.isWrapper; first | (rw [if_pos (by decide +kernel)]; kernel_rfl) | (rw [if_neg (by decide +kernel)]; exact ⟨rfl, rfl⟩))
    (fun os started H enc _ => pathOpens_lifted os started H enc)
theorem pathOpens_holds : Rows.PathOpensSaid := pathOpens_over
#print axioms pathOpens_holds
end Go.Proofs.Ytpeoallhbbleaaa
