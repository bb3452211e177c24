/- The chapter's examples. -/
import Derived.Test.YtpeoallhbbleaaaPaLaw
import Derived.Test.YtpeoallhbbleaaaPaOne
namespace Go.Proofs.Ytpeoallhbbleaaa
open Go.Sort Go.RowKit Go.BigFrame
set_option linter.unusedVariables false
set_option linter.unusedSimpArgs false

def k0 : Tk := newK 2 1 5 20
def ex (x : Pt) : Tk := oneK k0 3 x
theorem ex_new : newK 2 1 5 20 = ex zP := one_new 2 1 5 20 3
theorem ex_due (x y : Pt) (now : Int) (hn : now ≤ 4611686018427387904) (h : dueX k0 x now = y) : dueD (ex x) now = ex y := by
  rw [← h]; exact one_dueD k0 x (by decide) hn
theorem ex_dueL (x : Pt) (now : Int) (hn : now ≤ 4611686018427387904) {q : Int} (h : dueK k0 x now = q) : dueL (ex x) now = if q = 0 then [] else [(3, q)] := by
  rw [← h]; exact one_dueL k0 x (by decide) hn
set_option maxHeartbeats 12800000 in
set_option maxRecDepth 100000 in
theorem ex_any (w : World) : Calls Try.prog 9 #[] w fun e w' => e = .returned (.bool true) ∧ Below w.heap.size w w' := by
  have K := new_bad 0 1 1 1 (by decide) w
  go_enter Try.func9, Try.ntmps9
  go_wp2_with fail
  refine K.mono ?_; rintro e w1 ⟨rfl, rfl⟩
  clear K
  have K := newT_l (t := 2) (bs := 1) (kp := 5) (hd := 20) (by decide) (St.start w w (Below.refl _ _))
  go_wp2_with fail
  refine K.mono ?_; rintro e w1 ⟨g, rfl, s⟩
  rw [ex_new] at s
  clear K
  have s2 := s.box [.int .u32 5, .int .u16 5] 35
  clear s
  go_upto_region 6 with fail
  generalize (w1.alloc (.cells #[.int .u32 5, .int .u16 5] 35)) = w2 at *
  generalize w1.heap.size = b5 at *
  have K := want_l (k' := ex ⟨3, 2, 0, 0, 0, 0, 0⟩) (e := 0) 3 0 (by decide) (one_want k0 (i := 3) (by decide) (by decide) (by decide)).1 (one_want k0 (i := 3) (by decide) (by decide) (by decide)).2 [_] [] s2
  clear s2
  go_wp2_with fail
  refine K.mono ?_; rintro e w3 ⟨rfl, s⟩
  clear K
  have K := want_l (k' := ex ⟨3, 2, 0, 0, 0, 0, 0⟩) (e := 6) 3 0 (by decide) (one_want2 k0 (i := 3) ⟨3, 2, 0, 0, 0, 0, 0⟩ rfl (by decide) (by decide) (by decide)).1 (one_want2 k0 (i := 3) ⟨3, 2, 0, 0, 0, 0, 0⟩ rfl (by decide) (by decide) (by decide)).2 [_] [] s
  clear s
  go_wp2_with fail
  refine K.mono ?_; rintro e w4 ⟨rfl, s⟩
  clear K
  have K := due_l (k' := ex ⟨3, 2, 1, 0, 0, 1, 0⟩) (L := [(3, 1)]) 0 (by decide) (ex_dueL ⟨3, 2, 0, 0, 0, 0, 0⟩ 0 (by decide) rfl) (ex_due _ _ 0 (by decide) rfl) [_] [] s
  clear s
  go_wp2_with fail
  refine K.mono ?_; rintro e w5 ⟨u1, rfl, s⟩
  clear K
  have K := due_n (k' := ex ⟨3, 2, 2, 0, 0, 3, 0⟩) (m := 1) 1 (by decide) (congrArg List.length (ex_dueL ⟨3, 2, 1, 0, 0, 1, 0⟩ 1 (by decide) rfl)) (ex_due _ _ 1 (by decide) rfl) [_, _] [] s
  clear s
  go_wp2_with fail
  refine K.mono ?_; rintro e w6 ⟨a2, c2, rfl, s⟩
  clear K
  have K := due_n (k' := ex ⟨3, 1, 2, 0, 0, 23, 0⟩) (m := 0) 3 (by decide) (congrArg List.length (ex_dueL ⟨3, 2, 2, 0, 0, 3, 0⟩ 3 (by decide) rfl)) (ex_due _ _ 3 (by decide) rfl) [_, _] [] s
  clear s
  go_wp2_with fail
  refine K.mono ?_; rintro e w7 ⟨a3, c3, rfl, s⟩
  clear K
  have K := of_l (b := true) (x := ⟨3, 1, 2, 0, 0, 23, 0⟩) 3 (one_isP k0 (i := 3) ⟨3, 1, 2, 0, 0, 23, 0⟩ (by decide) (by decide)) (one_of k0 (i := 3) ⟨3, 1, 2, 0, 0, 23, 0⟩ (by decide) (by decide) rfl) s (g := g) (k := ex ⟨3, 1, 2, 0, 0, 23, 0⟩) (by simp)
  clear s
  go_wp2_with fail
  refine K.mono ?_; rintro e w8 ⟨rfl, s⟩
  clear K
  have s2 := s.box [.int .i64 3, .int .i64 1, .int .i64 2, .int .u32 0, .int .u16 0, .int .u64 23, .int .u64 0] 61
  clear s
  go_upto_region 12 with fail
  generalize (w8.alloc (.cells #[.int .i64 3, .int .i64 1, .int .i64 2, .int .u32 0, .int .u16 0, .int .u64 23, .int .u64 0] 61)) = w9 at *
  generalize w8.heap.size = b11 at *
  have cells := s2.cs (b := b5) (vs := [.int .u32 5, .int .u16 5]) (by simp)
  have c0 := cells.cell 0 _ rfl
  have c1 := cells.cell 1 _ rfl
  have cl := cells.lt
  clear cells
  have K := open_l (k' := ex ⟨3, 3, 0, 5, 5, 15, 30⟩) (e := 0) 3 5 5 10 (by decide) (by decide) (by decide) (one_open k0 (i := 3) ⟨3, 1, 2, 0, 0, 23, 0⟩ (by decide) (by decide) (by decide) (by decide)).1 (one_open k0 (i := 3) ⟨3, 1, 2, 0, 0, 23, 0⟩ (by decide) (by decide) (by decide) (by decide)).2 [_, _, _] [] s2
  clear s2
  go_wp2_with fail
  refine K.mono ?_; rintro e w10 ⟨rfl, s⟩
  clear K c0 c1 cl
  have K := due_l (k' := ex ⟨3, 3, 0, 5, 5, 20, 30⟩) (L := [(3, 2)]) 15 (by decide) (ex_dueL ⟨3, 3, 0, 5, 5, 15, 30⟩ 15 (by decide) rfl) (ex_due _ _ 15 (by decide) rfl) [_, _, _] [] s
  clear s
  go_wp2_with fail
  refine K.mono ?_; rintro e w11 ⟨u2, rfl, s⟩
  clear K
  go_upto_region 14 with fail
  simp only [List.cons_append, List.nil_append] at s
  obtain ⟨ua, un, uc⟩ := u1
  obtain ⟨va, vn, vc⟩ := u2
  simp only [List.length_cons, List.length_nil, Nat.zero_add]
  obtain ⟨xb, xo, hxb, xl, xc⟩ := s.step (u := ⟨ua, un, uc⟩) (L := [(3, 1)]) (by simp) (by decide)
  obtain ⟨yb, yo, hyb, yl, yc⟩ := s.step (u := ⟨va, vn, vc⟩) (L := [(3, 2)]) (by simp) (by decide)
  simp only at hxb hyb
  subst hxb hyb
  have KH : Hid (Calls Try.prog 17 #[.pointer (some ⟨g, 0, none⟩), .int .i64 3, .agg #[.int .u32 5, .int .u16 5], .int .u64 16] w11 _) := heard_l (b := true) (k' := ex ⟨3, 3, 0, 5, 5, 20, 36⟩) 3 5 5 16 (by decide) (one_heard k0 (i := 3) ⟨3, 3, 0, 5, 5, 20, 30⟩ (by decide) (by decide) 5 5 (by decide)).1 (one_heard k0 (i := 3) ⟨3, 3, 0, 5, 5, 20, 30⟩ (by decide) (by decide) 5 5 (by decide)).2 [_, _, _, _] [] s
  have KL1 : Hid (∀ H1 wz, St w (H1 ++ hT g (ex ⟨3, 3, 0, 5, 5, 20, 36⟩) :: []) wz → Calls Try.prog 19 #[.pointer (some ⟨g, 0, none⟩), .int .i64 3] wz fun e w' => e = .returned (.bool true) ∧ St w (H1 ++ hT g (ex zP) :: []) w') := fun H1 wz st => lost_l 3 (one_isP k0 (i := 3) _ (by decide) (by decide)) (one_lost k0 (i := 3) _ rfl (by decide) (by decide)) H1 [] st
  have KL2 : Hid (∀ H1 wz, St w (H1 ++ hT g (ex zP) :: []) wz → Calls Try.prog 19 #[.pointer (some ⟨g, 0, none⟩), .int .i64 3] wz fun e w' => e = .returned (.bool false) ∧ St w (H1 ++ hT g (ex zP) :: []) w') := fun H1 wz st => lost_l 3 (one_isP k0 (i := 3) _ (by decide) (by decide)) (one_lost2 k0 (i := 3) (by decide) (by decide)) H1 [] st
  have KA : Hid (∀ H wz, hT g (ex zP) ∈ H → St w H wz → Calls Try.prog 23 #[.pointer (some ⟨g, 0, none⟩)] wz fun e w' => ∃ u : Sl, e = .returned (.slice u.a 0 u.c) ∧ St w (hP u [] :: H) w') := fun H wz hm st => all_l (L := []) (one_all k0 (i := 3) zP (by decide)) st hm
  have mkS : Hid (∀ H w', hS ⟨some ⟨xb, xo, none⟩, un, uc⟩ [(3, 1)] ∈ H → hS ⟨some ⟨yb, yo, none⟩, vn, vc⟩ [(3, 2)] ∈ H → hC b11 [.int .i64 3, .int .i64 1, .int .i64 2, .int .u32 0, .int .u16 0, .int .u64 23, .int .u64 0] ∈ H → hC b5 [.int .u32 5, .int .u16 5] ∈ H → St w H w' →
      (w'.cell? ⟨b11, 1, none⟩ = some (.int .i64 1) ∧ w'.cell? ⟨b5, 0, none⟩ = some (.int .u32 5) ∧ w'.cell? ⟨b5, 1, none⟩ = some (.int .u16 5)) ∧ w'.cell? ⟨xb, xo + 1, none⟩ = some (.int .i64 1) ∧ w'.cell? ⟨yb, yo + 1, none⟩ = some (.int .i64 2) ∧ xb < w'.heap.size ∧ yb < w'.heap.size ∧ b11 < w'.heap.size ∧ b5 < w'.heap.size) := fun H w' h1 h2 h3 h4 st => by
    obtain ⟨b1, o1, e1, l1, q1⟩ := st.step h1 (by decide)
    obtain ⟨b2, o2, e2, l2, q2⟩ := st.step h2 (by decide)
    simp only [Option.some.injEq, Addr.mk.injEq, and_true] at e1 e2
    obtain ⟨rfl, rfl⟩ := e1
    obtain ⟨rfl, rfl⟩ := e2
    exact ⟨⟨(st.cs h3).cell 1 _ rfl, (st.cs h4).cell 0 _ rfl, (st.cs h4).cell 1 _ rfl⟩, by simpa using q1 0 (3, 1) rfl 1 _ rfl, by simpa using q2 0 (3, 2) rfl 1 _ rfl, l1, l2, (st.cs h3).lt, (st.cs h4).lt⟩
  obtain ⟨⟨k1, k2, k3⟩, k4, k5, l1, l2, l3, l4⟩ := mkS.out _ _ (by simp) (by simp) (by simp) (by simp) s
  clear xc yc xl yl s
  go_wp2_with fail
  refine KH.out.mono ?_; rintro e w12 ⟨rfl, s⟩
  clear k1 k2 k3 k4 k5 l1 l2 l3 l4 KH
  obtain ⟨⟨k1, k2, k3⟩, k4, k5, l1, l2, l3, l4⟩ := mkS.out _ _ (by simp) (by simp) (by simp) (by simp) s
  have K := KL1.out [_, _, _, _] _ s
  clear s KL1 mkS
  go_wp2_with fail
  refine K.mono ?_; rintro e w13 ⟨rfl, s⟩
  have K := KL2.out [_, _, _, _] _ s
  clear s KL2
  go_wp2_with fail
  refine K.mono ?_; rintro e w14 ⟨rfl, s⟩
  have K := KA.out _ _ (by simp) s
  clear s KA
  go_wp2_with fail
  refine K.mono ?_; rintro e w15 ⟨u3, rfl, s⟩
  have F := Lib.hid s.below
  clear s K
  go_wp2
  refine bodyPost_ret (v := (.bool true)) (by simp [results, Try.results9, go_sem, *]) rfl ?_
  exact ⟨rfl, F.out⟩
end Go.Proofs.Ytpeoallhbbleaaa
