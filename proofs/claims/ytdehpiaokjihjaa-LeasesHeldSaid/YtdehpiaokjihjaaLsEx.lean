/- The chapter's examples. -/
import Derived.Test.YtdehpiaokjihjaaLsLaw
namespace Go.Proofs.Ytdehpiaokjihjaa
open Go.Sort Go.RowKit Go.BigFrame
set_option linter.unusedVariables false
set_option linter.unusedSimpArgs false

def exT : Tb := ⟨1, 10, upd (fun _ => zV) 3 ⟨3, 5, 5, 10⟩⟩
def exA : Ls := ⟨1, 5, upd (fun _ => zR) 3 ⟨true, 0, 0⟩⟩
def exG : Ls := gotD exA 3 8 0
def f9 : Nat := 4621256167635550208
def f1 : Nat := 4607182418800017408
theorem f9_is : IsI f9 9 := by
  have := fI_isI 9 (by decide)
  rwa [show fI 9 = f9 by kernel_rfl] at this
theorem f1_is : IsI f1 1 := by
  have := fI_isI 1 (by decide)
  rwa [show fI 1 = f1 by kernel_rfl] at this
theorem f0_is : IsI 0 0 := by
  have := fI_isI 0 (by decide)
  rwa [show fI 0 = 0 by kernel_rfl] at this
def exP : List (Nat × Nat) := [(f9, 0), (f1, f1)]
theorem ex_mayA : mayA (newL 1 5) 0 (([2, 3] : List Int).zip exP) = ⟨[2, 3], exP, upd (upd (fun _ => false) 2 true) 3 true⟩ := by rfl
theorem ex_far : FarB 0 0 exP [81, 2] := by
  refine ⟨rfl, fun i u d hu hd w => ?_⟩
  match i, hu, hd with
  | 0, hu, hd =>
    simp only [exP, List.getElem?_cons_zero, Option.some.injEq] at hu hd
    subst hu hd
    exact far_of (pl_of f0_is f0_is (by omega) (by omega)) (pl_of f9_is f0_is (by omega) (by omega)) w
  | 1, hu, hd =>
    simp only [exP, List.getElem?_cons_succ, List.getElem?_cons_zero, Option.some.injEq] at hu hd
    subst hu hd
    exact far_of (pl_of f0_is f0_is (by omega) (by omega)) (pl_of f1_is f1_is (by omega) (by omega)) w
  | i + 2, hu, hd => simp [exP] at hu
theorem far_nil (x y : Nat) : FarB x y [] [] := ⟨rfl, fun i u d hu => by simp at hu⟩
theorem ex_ask1 : askL (newL 1 5) 0 (mayA (newL 1 5) 0 (([2, 3] : List Int).zip exP)) [81, 2] = [3] := by kernel_rfl
theorem ex_asks1 : asks 0 (newL 1 5) [3] = exA := by rfl
theorem ex_may2 : (mayA exA 4 (([3] : List Int).zip [(0, 0)])).wh = [] := by kernel_rfl
theorem ex_ask2 : askL exA 4 (mayA exA 4 (([3] : List Int).zip [(0, 0)])) [] = [] := by kernel_rfl
theorem ex_heldL : heldL exG 7 = [3] := by kernel_rfl
theorem ex_sw : (swp2 8 exG 33).1 = [3] := by kernel_rfl
theorem ex_all : allV exT.cl = [⟨3, 5, 5, 10⟩] := by kernel_rfl
theorem ex_swT : sweepD exT 9 = exT := by
  unfold sweepD; rw [ex_all]; rfl
theorem ex_gr : grantE exT 4 5 5 9 = 4 ∧ grantU exT 4 5 5 9 = 0 ∧ grantD exT 4 5 5 9 = exT := by
  have h := grantE_no (k := exT) (id := 4) (ip := 5) (pt := 5) (now := 9) (by decide) (by decide) (by decide) (by rw [ex_swT, ex_all]; exact ⟨by decide, by decide⟩)
  rw [ex_swT] at h; exact h
theorem ex_gr0 : grantE (newT 1 10) 3 5 5 0 = 0 ∧ grantU (newT 1 10) 3 5 5 0 = 10 ∧ grantD (newT 1 10) 3 5 5 0 = exT := by
  have ha : allV (newT 1 10).cl = [] := by kernel_rfl
  have hs : sweepD (newT 1 10) 0 = newT 1 10 := by unfold sweepD; rw [ha]; rfl
  have h := grantE_yes (k := newT 1 10) (id := 3) (ip := 5) (pt := 5) (now := 0) (by decide) (by decide) (by decide) (by rw [hs, ha]; rintro ⟨_, h⟩; exact absurd h (by decide))
  rw [hs] at h; exact h
theorem ex_got2 : gotB exG 2 8 0 = false := by kernel_rfl
set_option maxHeartbeats 12800000 in
set_option maxRecDepth 100000 in
theorem ex_any (w : World) : Calls Try.prog 6 #[] w fun e w' => e = .returned (.bool true) ∧ Below w.heap.size w w' := by
  have K := tab_bad 0 1 (by decide) w
  go_enter Try.func6, Try.ntmps6
  go_wp2_with fail
  refine K.mono ?_; rintro e w1 ⟨rfl, rfl⟩
  clear K
  have K := newT_l (r := 1) (h := 10) (by decide) (St.start w w (Below.refl _ _))
  go_wp2_with fail
  refine K.mono ?_; rintro e w1 ⟨g, rfl, s⟩
  clear K
  have K := newE_l (r := 1) (h := 5) (by decide) s
  clear s
  go_wp2_with fail
  refine K.mono ?_; rintro e w2 ⟨gl, rfl, s⟩
  clear K
  have s2 := s.box [.int .u32 5, .int .u16 5] 32
  clear s
  go_upto_region 7 with fail
  generalize (w2.alloc (.cells #[.int .u32 5, .int .u16 5] 32)) = w3 at *
  generalize w2.heap.size = b7 at *
  have cells := s2.cs (b := b7) (vs := [.int .u32 5, .int .u16 5]) (by simp)
  have c0 := cells.cell 0 _ rfl
  have c1 := cells.cell 1 _ rfl
  have cl := cells.lt
  clear cells
  have K := grant_l (k' := exT) (e := 0) (u := 10) 3 5 5 0 (by decide) (by decide) (by decide) ex_gr0.1 ex_gr0.2.1 ex_gr0.2.2 [_, _] [] s2
  clear s2
  go_wp2_with fail
  refine K.mono ?_; rintro e w4 ⟨rfl, s⟩
  clear K c0 c1 cl
  have cells := s.cs (b := b7) (vs := [.int .u32 5, .int .u16 5]) (by simp)
  have c0 := cells.cell 0 _ rfl
  have c1 := cells.cell 1 _ rfl
  have cl := cells.lt
  clear cells
  have K := grant_l (k' := exT) (e := 4) (u := 0) 4 5 5 9 (by decide) (by decide) (by decide) ex_gr.1 ex_gr.2.1 ex_gr.2.2 [_, _] [] s
  clear s
  go_wp2_with fail
  refine K.mono ?_; rintro e w5 ⟨rfl, s⟩
  clear K c0 c1 cl
  have K := of_l (b := true) (v := ⟨3, 5, 5, 10⟩) 3 9 (by kernel_rfl) (by kernel_rfl) s (g := g) (k := exT) (by simp)
  clear s
  go_wp2_with fail
  refine K.mono ?_; rintro e w6 ⟨rfl, s⟩
  clear K
  have s2 := s.box [.int .u32 5, .int .u16 5] 32
  clear s
  go_upto_region 10 with fail
  generalize (w6.alloc (.cells #[.int .u32 5, .int .u16 5] 32)) = w7 at *
  generalize w6.heap.size = b12 at *
  have K := of_l (b := false) (v := zV) 3 10 (by kernel_rfl) (by kernel_rfl) s2 (g := g) (k := exT) (by simp)
  clear s2
  simp only [zV] at K
  go_wp2_with fail
  refine K.mono ?_; rintro e w8 ⟨rfl, s⟩
  clear K
  have s2 := s.keep ((Below.refl _ w8).alloc (Nat.le_refl _) (.cells #[.int .u32 0, .int .u16 0] 32))
  clear s
  go_upto_region 11 with fail
  generalize (w8.alloc (.cells #[.int .u32 0, .int .u16 0] 32)) = w9 at *
  generalize w8.heap.size = b14 at *
  have s3 := (s2.box [.int .i64 2, .int .i64 3] 3).box [.complex .f64 f9 0, .complex .f64 f1 f1] 50
  simp only [World.size_alloc] at s3
  have R1 := cs_ids (L := [2, 3]) (s3.cs (b := w9.heap.size) (vs := [.int .i64 2, .int .i64 3]) (by simp))
  have R2 := cs_pls (L := exP) (s3.cs (b := w9.heap.size + 1) (vs := [.complex .f64 f9 0, .complex .f64 f1 f1]) (by simp))
  have K := ask_l (l := newL 1 5) (g := gl) 0 (by decide) (by decide) 0 0 (ids := [2, 3]) (ps := exP) rfl (by decide) 2 2 (n := 2) rfl R1 R2 (by rw [ex_mayA]; exact ex_far) ex_ask1 ex_asks1 [_, _, _, _] _ s3
  clear s2 s3 R1 R2
  go_wp2_with fail
  refine K.mono ?_; rintro e w10 ⟨u, rfl, s⟩
  clear K
  obtain ⟨ua, un, uc⟩ := u
  simp only [List.length_cons, List.length_nil]
  have s3 := (s.box [.int .i64 3] 3).box [.complex .f64 0 0] 50
  simp only [World.size_alloc] at s3
  have R1 := cs_ids (L := [3]) (s3.cs (b := w10.heap.size) (vs := [.int .i64 3]) (by simp))
  have R2 := cs_pls (L := [(0, 0)]) (s3.cs (b := w10.heap.size + 1) (vs := [.complex .f64 0 0]) (by simp))
  have K := ask_l (l := exA) (l' := exA) (g := gl) 4 (by decide) (by decide) 0 0 (ids := [3]) (ps := [(0, 0)]) rfl (by decide) 1 1 (n := 1) rfl R1 R2 (by rw [ex_may2]; exact far_nil 0 0) ex_ask2 rfl [_, _, _, _, _, _, _] _ s3
  clear s s3 R1 R2
  go_wp2_with fail
  refine K.mono ?_; rintro e w11 ⟨v, rfl, s⟩
  clear K
  obtain ⟨va, vn, vc⟩ := v
  simp only [List.length_nil]
  have s2 : St w [hI ⟨ua, un, uc⟩ [3], hC b12 [.int .u32 5, .int .u16 5], hC b7 [.int .u32 5, .int .u16 5], hE gl exA, hT g exT] w11 :=
    s.sub (by simp only [List.cons_append, List.nil_append]; repeat (first | exact List.Sublist.refl _ | apply List.Sublist.cons_cons | apply List.Sublist.cons))
  clear s
  have K := got_l (b := true) (l' := exG) 3 8 0 (by decide) (by kernel_rfl) rfl [_, _, _] [_] s2
  clear s2
  go_wp2_with fail
  refine K.mono ?_; rintro e w12 ⟨rfl, s⟩
  clear K
  have K := held_l 7 ex_heldL s (g := gl) (by simp)
  clear s
  go_wp2_with fail
  refine K.mono ?_; rintro e w13 ⟨u2, rfl, s⟩
  clear K
  obtain ⟨ha, hn, hc⟩ := u2
  simp only [List.length_cons, List.length_nil, List.cons_append, List.nil_append, List.append_eq, Nat.zero_add] at s ⊢
  go_upto_region 15 with fail
  dsimp only [List.append]
  obtain ⟨xb, xo, hxb, xl, xc⟩ := s.num (u := ⟨ua, un, uc⟩) (L := [3]) (by simp) (by decide)
  obtain ⟨yb, yo, hyb, yl, yc⟩ := s.num (u := ⟨ha, hn, hc⟩) (L := [3]) (by simp) (by decide)
  simp only at hxb hyb
  subst hxb hyb
  have KG : Hid (∀ H1 wz, St w (H1 ++ hE gl exG :: [hT g exT]) wz → Calls Try.prog 15 #[.pointer (some ⟨gl, 0, none⟩), .int .i64 2, .int .u64 8, .int .u64 0] wz fun e w' => e = .returned (.bool false) ∧ St w (H1 ++ hE gl exG :: [hT g exT]) w') := fun H1 wz st => got_l 2 8 0 (by decide) ex_got2 (by unfold gotD; rw [ex_got2]; rfl) H1 [hT g exT] st
  have KC : Hid (∀ H wz, hT g exT ∈ H → St w H wz → Calls Try.prog 10 #[.pointer (some ⟨g, 0, none⟩)] wz fun e w' => ∃ u : Sl, e = .returned (.slice u.a 1 u.c) ∧ St w (hV u [⟨3, 5, 5, 10⟩] :: H) w') := fun H wz hm st => clients_l ex_all st hm
  have KS : Hid (∀ H1 wz, St w (H1 ++ hE gl exG :: [hT g exT]) wz → Calls Try.prog 18 #[.pointer (some ⟨gl, 0, none⟩), .int .u64 8] wz fun e w' => ∃ u : Sl, e = .returned (.slice u.a 1 u.c) ∧ St w (hI u [3] :: (H1 ++ hE gl (swp2 8 exG 33).2 :: [hT g exT])) w') := fun H1 wz st => sweepE_l 8 ex_sw rfl H1 [hT g exT] st
  have mkS : Hid (∀ H w', hI ⟨some ⟨xb, xo, none⟩, un, uc⟩ [3] ∈ H → hI ⟨some ⟨yb, yo, none⟩, hn, hc⟩ [3] ∈ H → hC b12 [.int .u32 5, .int .u16 5] ∈ H → hC b7 [.int .u32 5, .int .u16 5] ∈ H → St w H w' → w'.cell? ⟨b12, 0, none⟩ = some (.int .u32 5) ∧ w'.cell? ⟨b12, 1, none⟩ = some (.int .u16 5) ∧ w'.cell? ⟨b7, 0, none⟩ = some (.int .u32 5) ∧ w'.cell? ⟨b7, 1, none⟩ = some (.int .u16 5) ∧ w'.cell? ⟨xb, xo, none⟩ = some (.int .i64 3) ∧ w'.cell? ⟨yb, yo, none⟩ = some (.int .i64 3)) := fun H w' h1 h2 h3 h4 st => by
    obtain ⟨b1, o1, e1, _, q1⟩ := st.num h1 (by decide)
    obtain ⟨b2, o2, e2, _, q2⟩ := st.num h2 (by decide)
    simp only [Option.some.injEq, Addr.mk.injEq, and_true] at e1 e2
    obtain ⟨rfl, rfl⟩ := e1
    obtain ⟨rfl, rfl⟩ := e2
    exact ⟨(st.cs h3).cell 0 _ rfl, (st.cs h3).cell 1 _ rfl, (st.cs h4).cell 0 _ rfl, (st.cs h4).cell 1 _ rfl, by simpa using q1 0 3 rfl, by simpa using q2 0 3 rfl⟩
  obtain ⟨k1, k2, k3, k4, k5, k6⟩ := mkS.out _ _ (by simp) (by simp) (by simp) (by simp) s
  have l1 := (s.cs (b := b12) (vs := [.int .u32 5, .int .u16 5]) (by simp)).lt
  have l2 := (s.cs (b := b7) (vs := [.int .u32 5, .int .u16 5]) (by simp)).lt
  have K := KG.out [_, _, _, _] _ s
  clear s xc yc KG mkS
  go_wp2_with fail
  refine K.mono ?_; rintro e w14 ⟨rfl, s⟩
  have K := KC.out _ _ (by simp) s
  clear s KC
  go_wp2_with fail
  refine K.mono ?_; rintro e w15 ⟨u3, rfl, s⟩
  have K := KS.out [_, _, _, _, _] _ s
  clear s KS
  go_wp2_with fail
  refine K.mono ?_; rintro e w16 ⟨u4, rfl, s⟩
  have F := Lib.hid s.below
  clear s K
  go_wp2
  refine bodyPost_ret (v := (.bool true)) (by simp [results, Try.results6, go_sem, *]) rfl ?_
  exact ⟨rfl, F.out⟩
end Go.Proofs.Ytdehpiaokjihjaa
