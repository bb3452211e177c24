/- The chapter's examples. -/
import Derived.Test.YtplllaafllcigaaDbLaw
namespace Go.Proofs.Ytplllaafllcigaa
open Go.Sort Go.RowKit Go.BigFrame
set_option linter.unusedVariables false
set_option linter.unusedSimpArgs false

theorem map_one {P : List (It × Sl)} {x : It} (h : P.map Prod.fst = [x]) : ∃ s, P = [(x, s)] := by
  match P, h with
  | [(a, s)], h =>
    simp at h
    exact ⟨s, by rw [h]⟩
theorem map_none {P : List (It × Sl)} (h : P.map Prod.fst = []) : P = [] := List.map_eq_nil_iff.1 h
/-- one alone is suspected -/
def oneD (n : Nat) (x : It) : Nat → It := updD newD n x
theorem oneD_at (n : Nat) (x : It) : oneD n x n = x := updD_same _ _ _
theorem lo_new (p : It → Bool) (hp : p zIt = false) (n : Nat) : loL p newD n = [] := by
  unfold loL
  rw [List.filter_eq_nil_iff]
  intro x hx
  obtain ⟨j, _, rfl⟩ := List.mem_map.1 hx
  rw [show newD j = zIt from rfl, hp]; simp
theorem hi_new (p : It → Bool) (hp : p zIt = false) (n : Nat) : hiL p newD n = [] := by
  unfold hiL
  rw [List.filter_eq_nil_iff]
  intro x hx
  obtain ⟨j, _, rfl⟩ := List.mem_map.1 hx
  rw [show newD j = zIt from rfl, hp]; simp
theorem one_list (p : It → Bool) (hp : p zIt = false) {n : Nat} (hn : n < 33) (x : It) : ((List.range 33).map (oneD n x)).filter p = if p x = true then [x] else [] := by
  rw [cut_at p (oneD n x) hn, oneD_at]
  unfold oneD
  rw [lo_upd, hi_upd, lo_new p hp, hi_new p hp]
  simp
theorem dueB_z (now : Int) : dueB now zIt = false := rfl
theorem one_all {n : Nat} (hn : n < 33) (x : It) : allL (oneD n x) = if susp x = true then [x] else [] := one_list susp rfl hn x
theorem one_due {n : Nat} (hn : n < 33) (x : It) (now : Int) : dueL (oneD n x) now = if dueB now x = true then [x] else [] := one_list (dueB now) (dueB_z now) hn x
theorem one_rest (n : Nat) (x : It) (now : Int) : restD (oneD n x) now = if dueB now x = true then newD else oneD n x := by
  funext j
  unfold restD
  by_cases e : j = n
  · subst e
    rw [oneD_at]
    split
    · rfl
    · rw [oneD_at]
  · have h1 : oneD n x j = zIt := updD_ne e
    rw [h1, dueB_z, if_neg (by simp)]
    split
    · rfl
    · exact h1.symm
theorem all_new : allL newD = [] := lo_new susp rfl 33
theorem due_new (now : Int) : dueL newD now = [] := lo_new (dueB now) rfl 33
theorem rest_new (now : Int) : restD newD now = newD := by
  funext j
  unfold restD
  rw [show newD j = zIt from rfl, dueB_z, if_neg (by simp)]
theorem one_upd (n : Nat) (x y : It) : updD (oneD n x) n y = oneD n y := updD_both _ _ _ _
theorem one_cut (n : Nat) (x : It) : updD (oneD n x) n zIt = newD := by
  funext j
  by_cases e : j = n
  · subst e; rw [updD_same]; rfl
  · rw [updD_ne e]; exact updD_ne e
/-! of one alone: what a call answers, and what is known then -/
theorem suspI_one {n : Nat} (h1 : 1 ≤ n) (h2 : n ≤ 32) (x : It) : suspI (oneD n x) n = susp x := by
  unfold suspI
  rw [nodeI_iff.2 ⟨by omega, by omega⟩, Int.toNat_natCast, oneD_at, Bool.true_and]
def x1 : It := ⟨2, 1, 10, 9, []⟩
def x2 : It := ⟨2, 1, 10, 9, [3]⟩
theorem e_arg : beginE newD 0 0 0 1 = 1 := by decide +kernel
theorem k_arg : beginD newD 0 0 0 1 = newD := by unfold beginD; rw [e_arg]; rfl
theorem e_new : beginE newD 2 1 10 9 = 0 := by decide +kernel
theorem k_new : beginD newD 2 1 10 9 = oneD 2 x1 := by unfold beginD; rw [e_new]; rfl
theorem e_old : beginE (oneD 2 x1) 2 1 10 9 = 6 := by decide +kernel
theorem k_old : beginD (oneD 2 x1) 2 1 10 9 = oneD 2 x1 := by unfold beginD; rw [e_old]; rfl
theorem e_c1 : confE (oneD 2 x1) 2 1 3 = 0 := by decide +kernel
theorem k_c1 : confD (oneD 2 x1) 2 1 3 = oneD 2 x2 := by
  rw [confD_yes e_c1]
  show updD (oneD 2 x1) 2 _ = _
  rw [one_upd]; rfl
theorem e_c2 : confE (oneD 2 x2) 2 1 3 = 6 := by decide +kernel
theorem e_c3 : confE (oneD 2 x2) 2 1 2 = 1 := by decide +kernel
theorem e_c4 : confE (oneD 2 x2) 3 1 2 = 5 := by decide +kernel
theorem u_ex : untilV (oneD 2 x2) 2 = 15 ∧ suspI (oneD 2 x2) 2 = true := by decide +kernel
theorem l_ex : allL (oneD 2 x2) = [x2] := one_all (by decide) x2
theorem b_ex : clearB (oneD 2 x2) 2 1 = false := by decide +kernel
theorem kb_ex : clearD (oneD 2 x2) 2 1 = oneD 2 x2 := by unfold clearD; rw [b_ex]; rfl
theorem d_ex : dueL (oneD 2 x2) 15 = [x2] := by rw [one_due (by decide)]; rfl
theorem r_ex : restD (oneD 2 x2) 15 = newD := by rw [one_rest]; rfl
set_option maxHeartbeats 3200000 in
set_option maxRecDepth 20000 in
theorem ex_any (w : World) : Calls Try.prog 9 #[] w fun e w' => e = .returned (.bool true) ∧ Below w.heap.size w w' := by
  have K := new_l (St.start w w (Below.refl _ _))
  go_enter Try.func9, Try.ntmps9
  go_wp2_with fail
  refine K.mono ?_; rintro e w1 ⟨g, rfl, s⟩
  clear K
  have K := begin_l 0 0 0 1 (by decide) (by decide) e_arg k_arg [] [] s
  clear s
  go_wp2_with fail
  refine K.mono ?_; rintro e w2 ⟨rfl, V2, s⟩
  clear K
  have K := begin_l 2 1 10 9 (by decide) (by decide) e_new k_new [] [] s
  clear s
  go_wp2_with fail
  refine K.mono ?_; rintro e w3 ⟨rfl, V3, s⟩
  clear K
  have K := begin_l 2 1 10 9 (by decide) (by decide) e_old k_old [] [] s
  clear s
  go_wp2_with fail
  refine K.mono ?_; rintro e w4 ⟨rfl, V4, s⟩
  clear K
  have K := conf_l 2 1 3 e_c1 k_c1 [] [] s
  clear s
  go_wp2_with fail
  refine K.mono ?_; rintro e w5 ⟨rfl, V5, s⟩
  clear K
  have K := conf_l 2 1 3 e_c2 (confD_no (by rw [e_c2]; decide)) [] [] s
  clear s
  go_wp2_with fail
  refine K.mono ?_; rintro e w6 ⟨rfl, V6, s⟩
  clear K
  have K := conf_l 2 1 2 e_c3 (confD_no (by rw [e_c3]; decide)) [] [] s
  clear s
  go_wp2_with fail
  refine K.mono ?_; rintro e w7 ⟨rfl, V7, s⟩
  clear K
  have K := conf_l 3 1 2 e_c4 (confD_no (by rw [e_c4]; decide)) [] [] s
  clear s
  go_wp2_with fail
  refine K.mono ?_; rintro e w8 ⟨rfl, V8, s⟩
  clear K
  have K := until_l 2 u_ex.1 u_ex.2 s (g := g) (V := V8) (by simp)
  clear s
  go_wp2_with fail
  refine K.mono ?_; rintro e w9 ⟨rfl, s⟩
  clear K
  have K := items_l l_ex s (g := g) (V := V8) (by simp)
  clear s
  go_wp2_with fail
  refine K.mono ?_; rintro e w10 ⟨u, P, rfl, hP, s⟩
  obtain ⟨s1, rfl⟩ := map_one hP
  clear K hP
  have K := clear_l 2 1 b_ex kb_ex [_] [] s
  clear s
  go_wp2_with fail
  refine K.mono ?_; rintro e w11 ⟨rfl, V11, s⟩
  clear K
  have K := due_l 15 d_ex r_ex [_] [] s
  clear s
  go_wp2_with fail
  refine K.mono ?_; rintro e w12 ⟨m, M, V12, rfl, hM, s⟩
  obtain ⟨s2, rfl⟩ := map_one hM
  clear K hM
  obtain ⟨bu, ou, hu, hbu, cu⟩ := s.item (T := 53) (u := u) (P := [(x2, s1)]) (by simp) (by simp)
  obtain ⟨bm, om, hm, hbm, cm⟩ := s.item (T := 53) (u := m) (P := [(x2, s2)]) (by simp) (by simp)
  have n1 := s.who (T := 53) (u := u) (P := [(x2, s1)]) (by simp) (p := (x2, s1)) (by simp)
  have u4 := cu 0 _ rfl 4 _ rfl
  have m0 := cm 0 _ rfl 0 _ rfl
  obtain ⟨ua, un, uc⟩ := u
  obtain ⟨ma, mn, mc⟩ := m
  obtain ⟨sa, sn, sc⟩ := s1
  simp only at hu hm n1
  subst hu hm
  have n2 : sn = 1 := n1
  subst n2
  have L := items_nil all_new s (g := g) (V := V12) (by simp) w12 (Below.refl _ _)
  have HB := Lib.hid s.below
  simp only [Nat.zero_mul, Nat.add_zero] at u4 m0
  change w12.cell? ⟨bm, om, none⟩ = some (.int .i64 2) at m0
  clear s cu cm n1
  simp only [List.length_cons, List.length_nil]
  go_upto_region 15 with fail
  dsimp only [List.append]
  go_wp2_with fail
  refine L.mono ?_; rintro e w13 ⟨rfl, b13⟩
  have BE := Lib.hid (HB.out.trans (b13.mono HB.out.size))
  clear b13 L
  go_wp2
  go_ret
  exact ⟨rfl, BE.out⟩
end Go.Proofs.Ytplllaafllcigaa
