/- DoubtClear: cleared by a greater Inc it does not fall due; by the same it does; suspected anew of a greater Inc nobody confirms it yet: for all three Incs. -/
import Derived.Test.YtplllaafllcigaaDbOne
import Derived.Deep.DeepCutAuto
import Derived.ChangeOld
import Derived.ChangeMaps5
import Derived.ShutString
import Derived.OpenShut
import Derived.SizedLaws
namespace Go.Proofs.Ytplllaafllcigaa
open Go.Sort Go.RowKit Go.BigFrame Go.ChangeShapes Go.WideShapes Go.Deep
set_option linter.unusedVariables false
set_option linter.unusedSimpArgs false

theorem again_one {n : Nat} {x : It} {inc now hold : Int} (h1 : 1 ≤ n) (h2 : n ≤ 32) (hx : 1 ≤ x.hold) (h3 : now ≤ 4611686018427387904) (h4 : 1 ≤ hold) (h5 : hold ≤ 1000000) (hi : x.inc < inc) : beginE (oneD n x) n inc now hold = 0 ∧ beginD (oneD n x) n inc now hold = oneD n ⟨n, inc, now, hold, []⟩ := by
  have e := beginE_zero (k := oneD n x) (inc := inc) (argB_ok (i := n) (by omega) (by omega) h3 h4 h5) (by rw [Int.toNat_natCast, oneD_at]; omega)
  exact ⟨e, by rw [beginD_yes e, Int.toNat_natCast, one_upd]⟩
theorem again_old {n : Nat} {x : It} {inc now hold : Int} (h1 : 1 ≤ n) (h2 : n ≤ 32) (hx : 1 ≤ x.hold) (h3 : now ≤ 4611686018427387904) (h4 : 1 ≤ hold) (h5 : hold ≤ 1000000) (hi : inc ≤ x.inc) : beginE (oneD n x) n inc now hold = 6 ∧ beginD (oneD n x) n inc now hold = oneD n x := by
  have e := beginE_old (k := oneD n x) (inc := inc) (argB_ok (i := n) (by omega) (by omega) h3 h4 h5) ⟨(until_one h1 h2 hx).2, by rw [Int.toNat_natCast, oneD_at]; exact hi⟩
  exact ⟨e, beginD_no (by rw [e]; decide)⟩
theorem clear_one {n : Nat} {x : It} {inc : Int} (h1 : 1 ≤ n) (h2 : n ≤ 32) (hx : 1 ≤ x.hold) (hi : x.inc < inc) : clearB (oneD n x) n inc = true ∧ clearD (oneD n x) n inc = newD := by
  have e : clearB (oneD n x) n inc = true := by
    unfold clearB
    rw [(until_one h1 h2 hx).2, Int.toNat_natCast, oneD_at, decide_eq_true hi]; rfl
  exact ⟨e, by unfold clearD; rw [if_pos e, Int.toNat_natCast, one_cut]⟩
theorem clear_no {n : Nat} {x : It} {inc : Int} (h1 : 1 ≤ n) (h2 : n ≤ 32) (hi : inc ≤ x.inc) : clearB (oneD n x) n inc = false ∧ clearD (oneD n x) n inc = oneD n x := by
  have e : clearB (oneD n x) n inc = false := by
    unfold clearB
    rw [Int.toNat_natCast, oneD_at, decide_eq_false (by omega), Bool.and_false]
  exact ⟨e, by unfold clearD; rw [if_neg (by rw [e]; simp)]⟩
set_option maxHeartbeats 6400000 in
set_option maxRecDepth 100000 in
theorem cw_11 (a b c : Int) (hab : a < b) (hc : b < c) (w : World) :
    Calls Try.prog 5 #[.int .u32 a, .int .u32 b, .int .u32 c] w fun e w' => e = .returned (.bool true) ∧ Below w.heap.size w w' := by
  have E := ex_any w
  have d1 : decide (a < b) = true := decide_eq_true hab
  have d2 : decide (b ≤ a) = false := decide_eq_false (by omega)
  have d3 : ¬ b ≤ a := by omega
  have d4 : ¬ b < a := by omega
  have d5 : decide (b < a) = false := decide_eq_false d4
  have d6 : max a b = b := by omega
  have d7 : decide (b < c) = true := decide_eq_true (by omega)
  have F1 := Lib.hid (begin_one (n := 2) (inc := a) (now := 0) (hold := 10) (by decide) (by decide) (by decide) (by decide) (by decide))
  have F2 := Lib.hid (conf_one (n := 2) (x := ⟨2, a, 0, 10, []⟩) (who := 7) (by decide) (by decide) (by show (1 : Int) ≤ 10; decide) (by decide) (by decide) (by simp))
  have F3 := Lib.hid (again_one (n := 2) (x := ⟨2, a, 0, 10, [7]⟩) (inc := b) (now := 1) (hold := 10) (by decide) (by decide) (by show (1 : Int) ≤ 10; decide) (by decide) (by decide) (by decide) hab)
  have F4 : Hid (allL (oneD 2 ⟨2, b, 1, 10, []⟩) = [⟨2, b, 1, 10, []⟩]) := one_all (by decide) _
  have F5 := Lib.hid (clear_one (n := 2) (x := ⟨2, b, 1, 10, []⟩) (inc := c) (by decide) (by decide) (by show (1 : Int) ≤ 10; decide) hc)
  have F6 : Hid (dueL newD 1000 = [] ∧ restD newD 1000 = newD) := by
    show _ = _ ∧ _ = _
    exact ⟨due_new _, rest_new _⟩
  clear hab hc
  go_enter Try.func5, Try.ntmps5
  go_wp2_with fail
  refine E.mono ?_; rintro e w0 ⟨rfl, b0'⟩
  have K := new_l (St.start w w0 b0')
  clear E b0'
  go_wp2_with fail
  refine K.mono ?_; rintro e w1 ⟨g, rfl, s⟩
  clear K
  have K := begin_l 2 a 0 10 (by decide) (by decide) F1.out.1 F1.out.2 [] [] s
  clear s
  go_wp2_with fail
  refine K.mono ?_; rintro e w2 ⟨rfl, V2, s⟩
  clear K
  have K := conf_l 2 a 7 F2.out.1 F2.out.2 [] [] s
  clear s
  go_wp2_with fail
  refine K.mono ?_; rintro e w3 ⟨rfl, V3, s⟩
  clear K
  have K := begin_l 2 b 1 10 (by decide) (by decide) F3.out.1 F3.out.2 [] [] s
  clear s
  go_wp2_with fail
  refine K.mono ?_; rintro e w4 ⟨rfl, V4, s⟩
  clear K
  have K := items_l F4.out s (g := g) (V := V4) (by exact List.mem_cons_self)
  clear s
  go_wp2_with fail
  refine K.mono ?_; rintro e w5 ⟨u, P, rfl, hP, s⟩
  obtain ⟨s1, rfl⟩ := map_one hP
  clear K hP
  obtain ⟨bu, ou, hu, hbu, cu⟩ := s.item (T := 53) (u := u) (P := [(⟨2, b, 1, 10, []⟩, s1)]) (by simp) (by simp)
  have n1 := s.who (T := 53) (u := u) (P := [(⟨2, b, 1, 10, []⟩, s1)]) (by simp) (p := (⟨2, b, 1, 10, []⟩, s1)) (by simp)
  have u1 := cu 0 _ rfl 1 _ rfl
  have u4 := cu 0 _ rfl 4 _ rfl
  obtain ⟨ua, un, uc⟩ := u
  obtain ⟨sa, sn, sc⟩ := s1
  simp only at hu n1
  subst hu
  have n2 : sn = 0 := n1
  subst n2
  simp only [Nat.zero_mul, Nat.add_zero] at u1 u4
  have S := Lib.hid s
  clear s cu n1
  simp only [List.length_cons, List.length_nil]
  have K := clear_l 2 c F5.out.1 F5.out.2 [_] [] S.out
  go_wp2_with fail
  refine K.mono ?_; rintro e w6 ⟨rfl, V6, s⟩
  clear K u1 u4 S
  have K := due_l 1000 F6.out.1 F6.out.2 [_] [] s
  clear s
  go_wp2_with fail
  refine K.mono ?_; rintro e w7 ⟨m, M, V7, rfl, hM, s⟩
  have FB := Lib.hid s.below
  clear K s hM
  simp only [List.length_cons, List.length_nil]
  go_wp2
  go_ret
  exact ⟨rfl, FB.out⟩
set_option maxHeartbeats 6400000 in
set_option maxRecDepth 100000 in
theorem cw_10 (a b c : Int) (hab : a < b) (hc : c ≤ b) (w : World) :
    Calls Try.prog 5 #[.int .u32 a, .int .u32 b, .int .u32 c] w fun e w' => e = .returned (.bool true) ∧ Below w.heap.size w w' := by
  have E := ex_any w
  have d1 : decide (a < b) = true := decide_eq_true hab
  have d2 : decide (b ≤ a) = false := decide_eq_false (by omega)
  have d3 : ¬ b ≤ a := by omega
  have d4 : ¬ b < a := by omega
  have d5 : decide (b < a) = false := decide_eq_false d4
  have d6 : max a b = b := by omega
  have d7 : decide (b < c) = false := decide_eq_false (by omega)
  have F1 := Lib.hid (begin_one (n := 2) (inc := a) (now := 0) (hold := 10) (by decide) (by decide) (by decide) (by decide) (by decide))
  have F2 := Lib.hid (conf_one (n := 2) (x := ⟨2, a, 0, 10, []⟩) (who := 7) (by decide) (by decide) (by show (1 : Int) ≤ 10; decide) (by decide) (by decide) (by simp))
  have F3 := Lib.hid (again_one (n := 2) (x := ⟨2, a, 0, 10, [7]⟩) (inc := b) (now := 1) (hold := 10) (by decide) (by decide) (by show (1 : Int) ≤ 10; decide) (by decide) (by decide) (by decide) hab)
  have F4 : Hid (allL (oneD 2 ⟨2, b, 1, 10, []⟩) = [⟨2, b, 1, 10, []⟩]) := one_all (by decide) _
  have F5 := Lib.hid (clear_no (n := 2) (x := ⟨2, b, 1, 10, []⟩) (inc := c) (by decide) (by decide) hc)
  have F6 : Hid (dueL (oneD 2 ⟨2, b, 1, 10, []⟩) 1000 = [⟨2, b, 1, 10, []⟩] ∧ restD (oneD 2 ⟨2, b, 1, 10, []⟩) 1000 = newD) := by
    show _ = _ ∧ _ = _
    have hd : dueB 1000 ⟨2, b, 1, 10, []⟩ = true := by unfold dueB susp untilI; simp
    rw [one_due (by decide), one_rest, if_pos hd, if_pos hd]
    exact ⟨rfl, rfl⟩
  clear hab hc
  go_enter Try.func5, Try.ntmps5
  go_wp2_with fail
  refine E.mono ?_; rintro e w0 ⟨rfl, b0'⟩
  have K := new_l (St.start w w0 b0')
  clear E b0'
  go_wp2_with fail
  refine K.mono ?_; rintro e w1 ⟨g, rfl, s⟩
  clear K
  have K := begin_l 2 a 0 10 (by decide) (by decide) F1.out.1 F1.out.2 [] [] s
  clear s
  go_wp2_with fail
  refine K.mono ?_; rintro e w2 ⟨rfl, V2, s⟩
  clear K
  have K := conf_l 2 a 7 F2.out.1 F2.out.2 [] [] s
  clear s
  go_wp2_with fail
  refine K.mono ?_; rintro e w3 ⟨rfl, V3, s⟩
  clear K
  have K := begin_l 2 b 1 10 (by decide) (by decide) F3.out.1 F3.out.2 [] [] s
  clear s
  go_wp2_with fail
  refine K.mono ?_; rintro e w4 ⟨rfl, V4, s⟩
  clear K
  have K := items_l F4.out s (g := g) (V := V4) (by exact List.mem_cons_self)
  clear s
  go_wp2_with fail
  refine K.mono ?_; rintro e w5 ⟨u, P, rfl, hP, s⟩
  obtain ⟨s1, rfl⟩ := map_one hP
  clear K hP
  obtain ⟨bu, ou, hu, hbu, cu⟩ := s.item (T := 53) (u := u) (P := [(⟨2, b, 1, 10, []⟩, s1)]) (by simp) (by simp)
  have n1 := s.who (T := 53) (u := u) (P := [(⟨2, b, 1, 10, []⟩, s1)]) (by simp) (p := (⟨2, b, 1, 10, []⟩, s1)) (by simp)
  have u1 := cu 0 _ rfl 1 _ rfl
  have u4 := cu 0 _ rfl 4 _ rfl
  obtain ⟨ua, un, uc⟩ := u
  obtain ⟨sa, sn, sc⟩ := s1
  simp only at hu n1
  subst hu
  have n2 : sn = 0 := n1
  subst n2
  simp only [Nat.zero_mul, Nat.add_zero] at u1 u4
  have S := Lib.hid s
  clear s cu n1
  simp only [List.length_cons, List.length_nil]
  have K := clear_l 2 c F5.out.1 F5.out.2 [_] [] S.out
  go_wp2_with fail
  refine K.mono ?_; rintro e w6 ⟨rfl, V6, s⟩
  clear K u1 u4 S
  have K := due_l 1000 F6.out.1 F6.out.2 [_] [] s
  clear s
  go_wp2_with fail
  refine K.mono ?_; rintro e w7 ⟨m, M, V7, rfl, hM, s⟩
  have FB := Lib.hid s.below
  clear K s hM
  simp only [List.length_cons, List.length_nil]
  go_wp2
  go_ret
  exact ⟨rfl, FB.out⟩
set_option maxHeartbeats 6400000 in
set_option maxRecDepth 100000 in
theorem cw_01 (a b c : Int) (hab : b ≤ a) (hc : a < c) (w : World) :
    Calls Try.prog 5 #[.int .u32 a, .int .u32 b, .int .u32 c] w fun e w' => e = .returned (.bool true) ∧ Below w.heap.size w w' := by
  have E := ex_any w
  have d1 : decide (a < b) = false := decide_eq_false (by omega)
  have d2 : decide (b ≤ a) = true := decide_eq_true hab
  have d3 : ¬ a < b := by omega
  have d6 : max a b = a := by omega
  have d7 : decide (a < c) = true := decide_eq_true (by omega)
  have F1 := Lib.hid (begin_one (n := 2) (inc := a) (now := 0) (hold := 10) (by decide) (by decide) (by decide) (by decide) (by decide))
  have F2 := Lib.hid (conf_one (n := 2) (x := ⟨2, a, 0, 10, []⟩) (who := 7) (by decide) (by decide) (by show (1 : Int) ≤ 10; decide) (by decide) (by decide) (by simp))
  have F3 := Lib.hid (again_old (n := 2) (x := ⟨2, a, 0, 10, [7]⟩) (inc := b) (now := 1) (hold := 10) (by decide) (by decide) (by show (1 : Int) ≤ 10; decide) (by decide) (by decide) (by decide) hab)
  have F4 : Hid (allL (oneD 2 ⟨2, a, 0, 10, [7]⟩) = [⟨2, a, 0, 10, [7]⟩]) := one_all (by decide) _
  have F5 := Lib.hid (clear_one (n := 2) (x := ⟨2, a, 0, 10, [7]⟩) (inc := c) (by decide) (by decide) (by show (1 : Int) ≤ 10; decide) hc)
  have F6 : Hid (dueL newD 1000 = [] ∧ restD newD 1000 = newD) := by
    show _ = _ ∧ _ = _
    exact ⟨due_new _, rest_new _⟩
  clear hab hc
  go_enter Try.func5, Try.ntmps5
  go_wp2_with fail
  refine E.mono ?_; rintro e w0 ⟨rfl, b0'⟩
  have K := new_l (St.start w w0 b0')
  clear E b0'
  go_wp2_with fail
  refine K.mono ?_; rintro e w1 ⟨g, rfl, s⟩
  clear K
  have K := begin_l 2 a 0 10 (by decide) (by decide) F1.out.1 F1.out.2 [] [] s
  clear s
  go_wp2_with fail
  refine K.mono ?_; rintro e w2 ⟨rfl, V2, s⟩
  clear K
  have K := conf_l 2 a 7 F2.out.1 F2.out.2 [] [] s
  clear s
  go_wp2_with fail
  refine K.mono ?_; rintro e w3 ⟨rfl, V3, s⟩
  clear K
  have K := begin_l 2 b 1 10 (by decide) (by decide) F3.out.1 F3.out.2 [] [] s
  clear s
  go_wp2_with fail
  refine K.mono ?_; rintro e w4 ⟨rfl, V4, s⟩
  clear K
  have K := items_l F4.out s (g := g) (V := V4) (by exact List.mem_cons_self)
  clear s
  go_wp2_with fail
  refine K.mono ?_; rintro e w5 ⟨u, P, rfl, hP, s⟩
  obtain ⟨s1, rfl⟩ := map_one hP
  clear K hP
  obtain ⟨bu, ou, hu, hbu, cu⟩ := s.item (T := 53) (u := u) (P := [(⟨2, a, 0, 10, [7]⟩, s1)]) (by simp) (by simp)
  have n1 := s.who (T := 53) (u := u) (P := [(⟨2, a, 0, 10, [7]⟩, s1)]) (by simp) (p := (⟨2, a, 0, 10, [7]⟩, s1)) (by simp)
  have u1 := cu 0 _ rfl 1 _ rfl
  have u4 := cu 0 _ rfl 4 _ rfl
  obtain ⟨ua, un, uc⟩ := u
  obtain ⟨sa, sn, sc⟩ := s1
  simp only at hu n1
  subst hu
  have n2 : sn = 1 := n1
  subst n2
  simp only [Nat.zero_mul, Nat.add_zero] at u1 u4
  have S := Lib.hid s
  clear s cu n1
  simp only [List.length_cons, List.length_nil]
  have K := clear_l 2 c F5.out.1 F5.out.2 [_] [] S.out
  go_wp2_with fail
  refine K.mono ?_; rintro e w6 ⟨rfl, V6, s⟩
  clear K u1 u4 S
  have K := due_l 1000 F6.out.1 F6.out.2 [_] [] s
  clear s
  go_wp2_with fail
  refine K.mono ?_; rintro e w7 ⟨m, M, V7, rfl, hM, s⟩
  have FB := Lib.hid s.below
  clear K s hM
  simp only [List.length_cons, List.length_nil]
  go_wp2
  go_ret
  exact ⟨rfl, FB.out⟩
set_option maxHeartbeats 6400000 in
set_option maxRecDepth 100000 in
theorem cw_00 (a b c : Int) (hab : b ≤ a) (hc : c ≤ a) (w : World) :
    Calls Try.prog 5 #[.int .u32 a, .int .u32 b, .int .u32 c] w fun e w' => e = .returned (.bool true) ∧ Below w.heap.size w w' := by
  have E := ex_any w
  have d1 : decide (a < b) = false := decide_eq_false (by omega)
  have d2 : decide (b ≤ a) = true := decide_eq_true hab
  have d3 : ¬ a < b := by omega
  have d6 : max a b = a := by omega
  have d7 : decide (a < c) = false := decide_eq_false (by omega)
  have F1 := Lib.hid (begin_one (n := 2) (inc := a) (now := 0) (hold := 10) (by decide) (by decide) (by decide) (by decide) (by decide))
  have F2 := Lib.hid (conf_one (n := 2) (x := ⟨2, a, 0, 10, []⟩) (who := 7) (by decide) (by decide) (by show (1 : Int) ≤ 10; decide) (by decide) (by decide) (by simp))
  have F3 := Lib.hid (again_old (n := 2) (x := ⟨2, a, 0, 10, [7]⟩) (inc := b) (now := 1) (hold := 10) (by decide) (by decide) (by show (1 : Int) ≤ 10; decide) (by decide) (by decide) (by decide) hab)
  have F4 : Hid (allL (oneD 2 ⟨2, a, 0, 10, [7]⟩) = [⟨2, a, 0, 10, [7]⟩]) := one_all (by decide) _
  have F5 := Lib.hid (clear_no (n := 2) (x := ⟨2, a, 0, 10, [7]⟩) (inc := c) (by decide) (by decide) hc)
  have F6 : Hid (dueL (oneD 2 ⟨2, a, 0, 10, [7]⟩) 1000 = [⟨2, a, 0, 10, [7]⟩] ∧ restD (oneD 2 ⟨2, a, 0, 10, [7]⟩) 1000 = newD) := by
    show _ = _ ∧ _ = _
    have hd : dueB 1000 ⟨2, a, 0, 10, [7]⟩ = true := by unfold dueB susp untilI; simp
    rw [one_due (by decide), one_rest, if_pos hd, if_pos hd]
    exact ⟨rfl, rfl⟩
  clear hab hc
  go_enter Try.func5, Try.ntmps5
  go_wp2_with fail
  refine E.mono ?_; rintro e w0 ⟨rfl, b0'⟩
  have K := new_l (St.start w w0 b0')
  clear E b0'
  go_wp2_with fail
  refine K.mono ?_; rintro e w1 ⟨g, rfl, s⟩
  clear K
  have K := begin_l 2 a 0 10 (by decide) (by decide) F1.out.1 F1.out.2 [] [] s
  clear s
  go_wp2_with fail
  refine K.mono ?_; rintro e w2 ⟨rfl, V2, s⟩
  clear K
  have K := conf_l 2 a 7 F2.out.1 F2.out.2 [] [] s
  clear s
  go_wp2_with fail
  refine K.mono ?_; rintro e w3 ⟨rfl, V3, s⟩
  clear K
  have K := begin_l 2 b 1 10 (by decide) (by decide) F3.out.1 F3.out.2 [] [] s
  clear s
  go_wp2_with fail
  refine K.mono ?_; rintro e w4 ⟨rfl, V4, s⟩
  clear K
  have K := items_l F4.out s (g := g) (V := V4) (by exact List.mem_cons_self)
  clear s
  go_wp2_with fail
  refine K.mono ?_; rintro e w5 ⟨u, P, rfl, hP, s⟩
  obtain ⟨s1, rfl⟩ := map_one hP
  clear K hP
  obtain ⟨bu, ou, hu, hbu, cu⟩ := s.item (T := 53) (u := u) (P := [(⟨2, a, 0, 10, [7]⟩, s1)]) (by simp) (by simp)
  have n1 := s.who (T := 53) (u := u) (P := [(⟨2, a, 0, 10, [7]⟩, s1)]) (by simp) (p := (⟨2, a, 0, 10, [7]⟩, s1)) (by simp)
  have u1 := cu 0 _ rfl 1 _ rfl
  have u4 := cu 0 _ rfl 4 _ rfl
  obtain ⟨ua, un, uc⟩ := u
  obtain ⟨sa, sn, sc⟩ := s1
  simp only at hu n1
  subst hu
  have n2 : sn = 1 := n1
  subst n2
  simp only [Nat.zero_mul, Nat.add_zero] at u1 u4
  have S := Lib.hid s
  clear s cu n1
  simp only [List.length_cons, List.length_nil]
  have K := clear_l 2 c F5.out.1 F5.out.2 [_] [] S.out
  go_wp2_with fail
  refine K.mono ?_; rintro e w6 ⟨rfl, V6, s⟩
  clear K u1 u4 S
  have K := due_l 1000 F6.out.1 F6.out.2 [_] [] s
  clear s
  go_wp2_with fail
  refine K.mono ?_; rintro e w7 ⟨m, M, V7, rfl, hM, s⟩
  have FB := Lib.hid s.below
  clear K s hM
  simp only [List.length_cons, List.length_nil]
  go_wp2
  go_ret
  exact ⟨rfl, FB.out⟩
theorem clear_run (a b c : Int) (w : World) (wa : (Lit.int .u32 a).wf = true) (wb : (Lit.int .u32 b).wf = true) (wc : (Lit.int .u32 c).wf = true) :
    Calls Try.prog 5 #[.int .u32 a, .int .u32 b, .int .u32 c] w fun e w' => e = .returned (.bool true) ∧ Below w.heap.size w w' := by
  by_cases h : a < b
  · by_cases h2 : b < c
    · exact cw_11 a b c h h2 w
    · exact cw_10 a b c h (by omega) w
  · by_cases h2 : a < c
    · exact cw_01 a b c (by omega) h2 w
    · exact cw_00 a b c (by omega) (by omega) w
theorem doubtClear_own : ownKnob Try.prog.godebug = none := by kernel_rfl
theorem doubtClear_laid : laidOutB Try.prog = true := by kernel_rfl
set_option maxRecDepth 100000 in
theorem doubtClear_lifted (os : Os) (started : os.Started) (H : Type) (enc : TypeId × Value → H) :
    ReturnsInHanded {} Try.checked os 5 .any (Rows.doubtClearSpec.pre6 enc Try.prog Try.f5 Rows.doubtClearRow.domain false) (Rows.doubtClearSpec.post enc Try.prog Try.f5 false true false false) := by
  refine returnsInHanded_of_change (C := Try.checked) doubtClear_own started (by kernel_rfl) Try.func5
    (ChangeSpec.witness6 (enc := enc) (C := Try.checked) false ⟨#[], #[.int .u32 0, .int .u32 0, .int .u32 0], []⟩ 8 (by kernel_rfl) (by kernel_rfl) (by kernel_rfl) (by kernel_rfl)) ?_
  intro W base args ds gs before hval0 hW hcnd _
  have hval : ∀ (j : Nat) t v, Try.f5.params[j]? = some t → args[j]? = some v → Value.okWide Try.prog W .any base t v := hval0
  have hW' := hW
  obtain ⟨p, q, hA0, hV, rfl, hfz, hnd⟩ := hW
  have hA : DataW.TrodAll enc Try.prog W 0 (fun _ => true) true Try.f5.params.toList args.toList ds p := hA0
  rw [Try.params5] at hA hval
  obtain ⟨v0, vs0, d0, ds0, p0, q0, hargs, rfl, rfl, h0, r0⟩ := trodAll_cons hA
  obtain ⟨v1, vs1, d1, ds1, p1, q1, rfl, rfl, rfl, h1, r1⟩ := trodAll_cons r0
  obtain ⟨v2, vs2, d2, ds2, p2, q2, rfl, rfl, rfl, h2, r2⟩ := trodAll_cons r1
  obtain ⟨rfl, rfl, rfl⟩ := trodAll_nil r2
  obtain rfl : args = #[v0, v1, v2] := by cases args; simp_all
  obtain ⟨rfl, rfl⟩ := trodVars_none hV
  obtain ⟨a0, rfl, rfl, rfl, w0⟩ := open_int Try.underlying30 (hval 0 30 v0 rfl rfl) h0
  obtain ⟨a1, rfl, rfl, rfl, w1⟩ := open_int Try.underlying30 (hval 1 30 v1 rfl rfl) h1
  obtain ⟨a2, rfl, rfl, rfl, w2⟩ := open_int Try.underlying30 (hval 2 30 v2 rfl rfl) h2
  clear hA0 hval0
  refine (clear_run a0 a1 a2 W w0 w1 w2).mono fun e W' ⟨he, bel⟩ => ?_
  subst he
  exact ⟨_, rfl, _, _, _, [], _, [], hW', trodAll_mk1 (shut_bool Try.underlying4 _), (trodAll_cons_mk (shut_int Try.underlying30 w0) (trodAll_cons_mk (shut_int Try.underlying30 w1) (trodAll_cons_mk (shut_int Try.underlying30 w2) trodAll_mk0))), rfl, bel.frame _, fun h => by cases h⟩
theorem doubtClear_over : Rows.doubtClearRow.holds Try.pinned (OpenSpec.ofChange Rows.doubtClearSpec) :=
  OpenClaim.holds_of_wide 5 Try.f5 rfl rfl rfl rfl rfl rfl rfl ⟨rfl, rfl, rfl, rfl, rfl⟩ rfl rfl rfl rfl rfl (by kernel_rfl) Try.func5 (by kernel_rfl)
    (of_decide_eq_true (by kernel_rfl)) (by unfold Func.isWrapper; first | (rw [if_pos (by decide +kernel)]; kernel_rfl) | (rw [if_neg (by decide +kernel)]; exact ⟨rfl, rfl⟩))
    (fun os started H enc _ => doubtClear_lifted os started H enc)
theorem doubtClear_holds : Rows.DoubtClearSaid := doubtClear_over
#print axioms doubtClear_holds
end Go.Proofs.Ytplllaafllcigaa
