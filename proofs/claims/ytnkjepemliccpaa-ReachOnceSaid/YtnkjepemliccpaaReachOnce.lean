/- ReachOnce: one has one vote: a later one takes the place of the one ahead; who is none has none: for every voter, any two addresses and two times. -/
import Derived.Test.YtnkjepemliccpaaRcEx
import Derived.Deep.DeepCutAuto
import Derived.ChangeOld
import Derived.ChangeMaps5
import Derived.ShutString
import Derived.OpenShut
import Derived.SizedLaws
import Derived.Lib.SmallJoins
namespace Go.Proofs.Ytnkjepemliccpaa
open Go.Sort Go.RowKit Go.BigFrame Go.ChangeShapes Go.WideShapes Go.Deep
set_option linter.unusedVariables false
set_option linter.unusedSimpArgs false

def oneF (n : Nat) (x : Vt) : Nat → Vt := updV (fun _ => zV) n x
theorem all_none : allV (fun _ => zV) = [] := by kernel_rfl
theorem lo_none (n : Nat) : loV (fun _ => zV) n = [] := by
  unfold loV
  rw [List.filter_eq_nil_iff]
  intro y hy
  obtain ⟨j, _, rfl⟩ := List.mem_map.1 hy
  rw [isV_z]; decide
theorem hi_none (n : Nat) : hiV (fun _ => zV) n = [] := by
  unfold hiV
  rw [List.filter_eq_nil_iff]
  intro y hy
  obtain ⟨j, _, rfl⟩ := List.mem_map.1 hy
  rw [isV_z]; decide
theorem all_one {n : Nat} {x : Vt} (hn : n < 33) (h : isV x = true) : allV (oneF n x) = [x] := by
  rw [cut_at (oneF n x) hn]
  unfold oneF
  rw [lo_upd, hi_upd, updV_same, lo_none, hi_none, if_pos h]; rfl
theorem one_upd (n : Nat) (x y : Vt) : updV (oneF n x) n y = oneF n y := by
  unfold oneF
  funext j
  by_cases h : j = n
  · subst h; rw [updV_same, updV_same]
  · rw [updV_ne h, updV_ne h, updV_ne h]
theorem addr_none (n : Nat) (hold now : Int) (k : Rc) (hv : k.vote = fun _ => zV) : addrR k now = ⟨0, 0, 0⟩ := by
  unfold addrR; rw [hv, all_none]; rfl
theorem addr_one {k : Rc} {n : Nat} {x : Vt} {now : Int} (hv : k.vote = oneF n x) (hn : n < 33) (h : isV x = true) (hl : liveB k.hold now x = true) : addrR k now = ⟨x.ip, x.pt, 1⟩ := by
  have hc : cntL k.hold now [x] x.ip x.pt = 1 := by
    unfold cntL
    rw [List.countP_cons_of_pos (by unfold cntB sameA; rw [hl]; simp)]; rfl
  unfold addrR bestL
  rw [hv, all_one hn h, List.foldl_cons, List.foldl_nil]
  unfold stepA
  rw [if_pos hl, hc, if_pos (by unfold betB zB; rfl)]
set_option maxHeartbeats 6400000 in
set_option maxRecDepth 20000 in
theorem once_lo (who : Int) (a p b q : Nat) (ts tt : Int) (ha : a < 4294967296) (hp : p < 65536) (hb : b < 4294967296) (hq : q < 65536) (hs : 0 ≤ ts ∧ ts ≤ 65535) (ht : 0 ≤ tt ∧ tt ≤ 65535) (c1 : who < 1) (w : World) :
    Calls Try.prog 7 #[.int .i64 who, .agg #[.int .u32 a, .int .u16 p], .agg #[.int .u32 b, .int .u16 q], .int .u16 ts, .int .u16 tt] w fun e w' => e = .returned (.bool true) ∧ Below w.heap.size w w' := by
  have us := IntWalk.u64_in ts ⟨by omega, by omega⟩
  have ut := IntWalk.u64_in tt ⟨by omega, by omega⟩
  have d1 : decide (1 ≤ who) = false := decide_eq_false (by omega)
  have hno : Hid (nodeI who = false) := nodeI_no (by omega)
  have F1 := Lib.hid (seeD_no (k := newR 1 1000) (i := who) (ip := a) (pt := p) (now := ts) (.inl hno.out))
  have F2 := Lib.hid (seeD_no (k := newR 1 1000) (i := who) (ip := b) (pt := q) (now := tt) (.inl hno.out))
  have AD := Lib.hid (addr_none 0 0 0 (newR 1 1000) rfl)
  have AL : Hid (allV (newR 1 1000).vote = []) := all_none
  have s0 := ((St.start w w (Below.refl _ _)).box [.int .u32 a, .int .u16 p] 35).box [.int .u32 b, .int .u16 q] 35
  have E := ex_any ((w.alloc (.cells #[.int .u32 a, .int .u16 p] 35)).alloc (.cells #[.int .u32 b, .int .u16 q] 35))
  go_enter Try.func7, Try.ntmps7
  go_upto_region 1 with fail
  rw [World.size_alloc] at s0
  generalize ((w.alloc (.cells #[.int .u32 a, .int .u16 p] 35)).alloc (.cells #[.int .u32 b, .int .u16 q] 35)) = wa at *
  obtain ⟨b7, hb7⟩ : ∃ z, z = w.heap.size + 1 := ⟨_, rfl⟩
  rw [← hb7] at s0 ⊢
  obtain ⟨b6, hb6⟩ : ∃ z, z = w.heap.size := ⟨_, rfl⟩
  rw [← hb6]
  replace s0 : St w [hC b7 [.int .u32 b, .int .u16 q], hC b6 [.int .u32 a, .int .u16 p]] wa := by rw [hb6]; exact s0
  clear hb7 hb6
  go_wp2_with fail
  refine E.mono ?_; rintro e w0 ⟨rfl, b0⟩
  have s0 := s0.keep b0
  have K := new_l (r := 1) (h := 1000) (by decide) (by decide) (n := 1) rfl s0
  clear E b0 s0
  go_wp2_with fail
  refine K.mono ?_; rintro e w1 ⟨g, rfl, s⟩
  clear K
  have xx := s.cs (b := b6) (vs := [.int .u32 a, .int .u16 p]) (by simp)
  have x0 := xx.cell 0 _ rfl
  have x1 := xx.cell 1 _ rfl
  have xl := xx.lt
  clear xx
  have K := see_l (e := 1) (k' := newR 1 1000) who a p ts (by omega) ha hp F1.out.1 F1.out.2 [] _ s
  clear s F1
  go_wp2_with fail
  refine K.mono ?_; rintro e w2 ⟨rfl, s⟩
  clear K x0 x1 xl
  have yx := s.cs (b := b7) (vs := [.int .u32 b, .int .u16 q]) (by simp)
  have y0 := yx.cell 0 _ rfl
  have y1 := yx.cell 1 _ rfl
  have yl := yx.lt
  clear yx
  have K := see_l (e := 1) (k' := newR 1 1000) who b q tt (by omega) hb hq F2.out.1 F2.out.2 [] _ s
  clear s F2
  go_wp2_with fail
  refine K.mono ?_; rintro e w3 ⟨rfl, s⟩
  clear K y0 y1 yl
  have K := addr_l 0 AD.out (b := false) (by decide) s (g := g) (by simp)
  clear s
  go_wp2_with fail
  refine K.mono ?_; rintro e w4 ⟨rfl, s⟩
  clear K AD
  have s2 := s.box [.int .u32 0, .int .u16 0] 35
  clear s
  go_upto_region 11 with fail
  generalize (w4.alloc (.cells #[.int .u32 0, .int .u16 0] 35)) = w5 at *
  generalize w4.heap.size = b17 at *
  have s := s2
  clear s2
  have xx := s.cs (b := b6) (vs := [.int .u32 a, .int .u16 p]) (by simp)
  have x0 := xx.cell 0 _ rfl
  have x1 := xx.cell 1 _ rfl
  have xl := xx.lt
  clear xx
  have s2 := s.box [.int .u32 a, .int .u16 p] 35
  clear s
  go_upto_region 12 with fail
  clear x0 x1 xl
  generalize (w5.alloc (.cells #[.int .u32 a, .int .u16 p] 35)) = w6 at *
  generalize w5.heap.size = b19 at *
  have s := s2
  clear s2
  go_upto_region 16 with fail
  try dsimp only [List.append]
  have xx := s.cs (b := b17) (vs := [.int .u32 0, .int .u16 0]) (by simp)
  have x0 := xx.cell 0 _ rfl
  have x1 := xx.cell 1 _ rfl
  have xl := xx.lt
  clear xx
  have yx := s.cs (b := b19) (vs := [.int .u32 a, .int .u16 p]) (by simp)
  have y0 := yx.cell 0 _ rfl
  have y1 := yx.cell 1 _ rfl
  have yl := yx.lt
  clear yx
  have K := votes_l (k := newR 1 1000) AL.out s (g := g) (by simp)
  clear s
  go_wp2_with fail
  refine K.mono ?_; rintro e wv ⟨u, rfl, s⟩
  clear K x0 x1 xl y0 y1 yl
  simp only [List.length_cons, List.length_nil]
  have BE := Lib.hid s.below
  clear s
  go_wp2
  go_ret
  exact ⟨rfl, BE.out⟩
set_option maxHeartbeats 6400000 in
set_option maxRecDepth 20000 in
theorem once_hi (who : Int) (a p b q : Nat) (ts tt : Int) (ha : a < 4294967296) (hp : p < 65536) (hb : b < 4294967296) (hq : q < 65536) (hs : 0 ≤ ts ∧ ts ≤ 65535) (ht : 0 ≤ tt ∧ tt ≤ 65535) (c1 : 1 ≤ who) (c2 : 32 < who) (w : World) :
    Calls Try.prog 7 #[.int .i64 who, .agg #[.int .u32 a, .int .u16 p], .agg #[.int .u32 b, .int .u16 q], .int .u16 ts, .int .u16 tt] w fun e w' => e = .returned (.bool true) ∧ Below w.heap.size w w' := by
  have us := IntWalk.u64_in ts ⟨by omega, by omega⟩
  have ut := IntWalk.u64_in tt ⟨by omega, by omega⟩
  have d1 : decide (1 ≤ who) = true := decide_eq_true c1
  have d2 : decide (who ≤ 32) = false := decide_eq_false (by omega)
  have hno : Hid (nodeI who = false) := nodeI_no (by omega)
  have F1 := Lib.hid (seeD_no (k := newR 1 1000) (i := who) (ip := a) (pt := p) (now := ts) (.inl hno.out))
  have F2 := Lib.hid (seeD_no (k := newR 1 1000) (i := who) (ip := b) (pt := q) (now := tt) (.inl hno.out))
  have AD := Lib.hid (addr_none 0 0 0 (newR 1 1000) rfl)
  have AL : Hid (allV (newR 1 1000).vote = []) := all_none
  have s0 := ((St.start w w (Below.refl _ _)).box [.int .u32 a, .int .u16 p] 35).box [.int .u32 b, .int .u16 q] 35
  have E := ex_any ((w.alloc (.cells #[.int .u32 a, .int .u16 p] 35)).alloc (.cells #[.int .u32 b, .int .u16 q] 35))
  go_enter Try.func7, Try.ntmps7
  go_upto_region 1 with fail
  rw [World.size_alloc] at s0
  generalize ((w.alloc (.cells #[.int .u32 a, .int .u16 p] 35)).alloc (.cells #[.int .u32 b, .int .u16 q] 35)) = wa at *
  obtain ⟨b7, hb7⟩ : ∃ z, z = w.heap.size + 1 := ⟨_, rfl⟩
  rw [← hb7] at s0 ⊢
  obtain ⟨b6, hb6⟩ : ∃ z, z = w.heap.size := ⟨_, rfl⟩
  rw [← hb6]
  replace s0 : St w [hC b7 [.int .u32 b, .int .u16 q], hC b6 [.int .u32 a, .int .u16 p]] wa := by rw [hb6]; exact s0
  clear hb7 hb6
  go_wp2_with fail
  refine E.mono ?_; rintro e w0 ⟨rfl, b0⟩
  have s0 := s0.keep b0
  have K := new_l (r := 1) (h := 1000) (by decide) (by decide) (n := 1) rfl s0
  clear E b0 s0
  go_wp2_with fail
  refine K.mono ?_; rintro e w1 ⟨g, rfl, s⟩
  clear K
  have xx := s.cs (b := b6) (vs := [.int .u32 a, .int .u16 p]) (by simp)
  have x0 := xx.cell 0 _ rfl
  have x1 := xx.cell 1 _ rfl
  have xl := xx.lt
  clear xx
  have K := see_l (e := 1) (k' := newR 1 1000) who a p ts (by omega) ha hp F1.out.1 F1.out.2 [] _ s
  clear s F1
  go_wp2_with fail
  refine K.mono ?_; rintro e w2 ⟨rfl, s⟩
  clear K x0 x1 xl
  have yx := s.cs (b := b7) (vs := [.int .u32 b, .int .u16 q]) (by simp)
  have y0 := yx.cell 0 _ rfl
  have y1 := yx.cell 1 _ rfl
  have yl := yx.lt
  clear yx
  have K := see_l (e := 1) (k' := newR 1 1000) who b q tt (by omega) hb hq F2.out.1 F2.out.2 [] _ s
  clear s F2
  go_wp2_with fail
  refine K.mono ?_; rintro e w3 ⟨rfl, s⟩
  clear K y0 y1 yl
  have K := addr_l 0 AD.out (b := false) (by decide) s (g := g) (by simp)
  clear s
  go_wp2_with fail
  refine K.mono ?_; rintro e w4 ⟨rfl, s⟩
  clear K AD
  have s2 := s.box [.int .u32 0, .int .u16 0] 35
  clear s
  go_upto_region 11 with fail
  generalize (w4.alloc (.cells #[.int .u32 0, .int .u16 0] 35)) = w5 at *
  generalize w4.heap.size = b17 at *
  have s := s2
  clear s2
  have xx := s.cs (b := b6) (vs := [.int .u32 a, .int .u16 p]) (by simp)
  have x0 := xx.cell 0 _ rfl
  have x1 := xx.cell 1 _ rfl
  have xl := xx.lt
  clear xx
  have s2 := s.box [.int .u32 a, .int .u16 p] 35
  clear s
  go_upto_region 12 with fail
  clear x0 x1 xl
  generalize (w5.alloc (.cells #[.int .u32 a, .int .u16 p] 35)) = w6 at *
  generalize w5.heap.size = b19 at *
  have s := s2
  clear s2
  go_upto_region 16 with fail
  try dsimp only [List.append]
  have xx := s.cs (b := b17) (vs := [.int .u32 0, .int .u16 0]) (by simp)
  have x0 := xx.cell 0 _ rfl
  have x1 := xx.cell 1 _ rfl
  have xl := xx.lt
  clear xx
  have yx := s.cs (b := b19) (vs := [.int .u32 a, .int .u16 p]) (by simp)
  have y0 := yx.cell 0 _ rfl
  have y1 := yx.cell 1 _ rfl
  have yl := yx.lt
  clear yx
  have K := votes_l (k := newR 1 1000) AL.out s (g := g) (by simp)
  clear s
  go_wp2_with fail
  refine K.mono ?_; rintro e wv ⟨u, rfl, s⟩
  clear K x0 x1 xl y0 y1 yl
  simp only [List.length_cons, List.length_nil]
  have BE := Lib.hid s.below
  clear s
  go_wp2
  go_ret
  exact ⟨rfl, BE.out⟩
set_option maxHeartbeats 6400000 in
set_option maxRecDepth 20000 in
theorem once_tt (who : Int) (a p b q : Nat) (ts tt : Int) (ha : a < 4294967296) (hp : p < 65536) (hb : b < 4294967296) (hq : q < 65536) (hs : 0 ≤ ts ∧ ts ≤ 65535) (ht : 0 ≤ tt ∧ tt ≤ 65535) (c1 : 1 ≤ who) (c2 : who ≤ 32) (hna : noneI a p = true) (hnb : noneI b q = true) (w : World) :
    Calls Try.prog 7 #[.int .i64 who, .agg #[.int .u32 a, .int .u16 p], .agg #[.int .u32 b, .int .u16 q], .int .u16 ts, .int .u16 tt] w fun e w' => e = .returned (.bool true) ∧ Below w.heap.size w w' := by
  have us := IntWalk.u64_in ts ⟨by omega, by omega⟩
  have ut := IntWalk.u64_in tt ⟨by omega, by omega⟩
  obtain ⟨n, rfl⟩ : ∃ n : Nat, who = n := ⟨who.toNat, by omega⟩
  have d1 : decide ((1 : Int) ≤ n) = true := decide_eq_true c1
  have d2 : decide ((n : Int) ≤ 32) = true := decide_eq_true c2
  have hv : ∀ (ip pt : Nat) (tm : Int), isV ⟨n, ip, pt, tm⟩ = true := fun ip pt tm => nodeI_iff.2 ⟨c1, c2⟩
  have F1 := Lib.hid (seeD_no (k := newR 1 1000) (i := n) (ip := a) (pt := p) (now := ts) (.inr (.inl hna)))
  have F2 := Lib.hid (seeD_no (k := newR 1 1000) (i := n) (ip := b) (pt := q) (now := tt) (.inr (.inl hnb)))
  have N1 := Lib.hid (fun w' => none_any a p ha hp w')
  have N2 := Lib.hid (fun w' => none_any b q hb hq w')
  rw [hna] at N1
  rw [hnb] at N2
  have AD := Lib.hid (addr_none 0 0 0 (newR 1 1000) rfl)
  have AL : Hid (allV (newR 1 1000).vote = []) := all_none
  have s0 := ((St.start w w (Below.refl _ _)).box [.int .u32 a, .int .u16 p] 35).box [.int .u32 b, .int .u16 q] 35
  have E := ex_any ((w.alloc (.cells #[.int .u32 a, .int .u16 p] 35)).alloc (.cells #[.int .u32 b, .int .u16 q] 35))
  go_enter Try.func7, Try.ntmps7
  go_upto_region 1 with fail
  rw [World.size_alloc] at s0
  generalize ((w.alloc (.cells #[.int .u32 a, .int .u16 p] 35)).alloc (.cells #[.int .u32 b, .int .u16 q] 35)) = wa at *
  obtain ⟨b7, hb7⟩ : ∃ z, z = w.heap.size + 1 := ⟨_, rfl⟩
  rw [← hb7] at s0 ⊢
  obtain ⟨b6, hb6⟩ : ∃ z, z = w.heap.size := ⟨_, rfl⟩
  rw [← hb6]
  replace s0 : St w [hC b7 [.int .u32 b, .int .u16 q], hC b6 [.int .u32 a, .int .u16 p]] wa := by rw [hb6]; exact s0
  clear hb7 hb6
  go_wp2_with fail
  refine E.mono ?_; rintro e w0 ⟨rfl, b0⟩
  have s0 := s0.keep b0
  have K := new_l (r := 1) (h := 1000) (by decide) (by decide) (n := 1) rfl s0
  clear E b0 s0
  go_wp2_with fail
  refine K.mono ?_; rintro e w1 ⟨g, rfl, s⟩
  clear K
  have xx := s.cs (b := b6) (vs := [.int .u32 a, .int .u16 p]) (by simp)
  have x0 := xx.cell 0 _ rfl
  have x1 := xx.cell 1 _ rfl
  have xl := xx.lt
  clear xx
  have K := see_l (e := 1) (k' := newR 1 1000) (n : Int) a p ts (by omega) ha hp F1.out.1 F1.out.2 [] _ s
  clear s F1
  go_wp2_with fail
  refine K.mono ?_; rintro e w2 ⟨rfl, s⟩
  clear K x0 x1 xl
  have yx := s.cs (b := b7) (vs := [.int .u32 b, .int .u16 q]) (by simp)
  have y0 := yx.cell 0 _ rfl
  have y1 := yx.cell 1 _ rfl
  have yl := yx.lt
  clear yx
  have K := see_l (e := 1) (k' := newR 1 1000) (n : Int) b q tt (by omega) hb hq F2.out.1 F2.out.2 [] _ s
  clear s F2
  go_wp2_with fail
  refine K.mono ?_; rintro e w3 ⟨rfl, s⟩
  clear K y0 y1 yl
  have K := addr_l 0 AD.out (b := false) (by decide) s (g := g) (by simp)
  clear s
  go_wp2_with fail
  refine K.mono ?_; rintro e w4 ⟨rfl, s⟩
  clear K AD
  have s2 := s.box [.int .u32 0, .int .u16 0] 35
  clear s
  go_upto_region 11 with fail
  generalize (w4.alloc (.cells #[.int .u32 0, .int .u16 0] 35)) = w5 at *
  generalize w4.heap.size = b17 at *
  have s := s2
  clear s2
  have xx := s.cs (b := b6) (vs := [.int .u32 a, .int .u16 p]) (by simp)
  have x0 := xx.cell 0 _ rfl
  have x1 := xx.cell 1 _ rfl
  have xl := xx.lt
  clear xx
  have s2 := s.box [.int .u32 a, .int .u16 p] 35
  clear s
  go_upto_region 12 with fail
  clear x0 x1 xl
  generalize (w5.alloc (.cells #[.int .u32 a, .int .u16 p] 35)) = w6 at *
  generalize w5.heap.size = b19 at *
  have s := s2
  clear s2
  have xx := s.cs (b := b6) (vs := [.int .u32 a, .int .u16 p]) (by simp)
  have x0 := xx.cell 0 _ rfl
  have x1 := xx.cell 1 _ rfl
  have xl := xx.lt
  clear xx
  have K := N1.out w6
  go_wp2_with fail
  refine K.mono ?_; rintro e w7 ⟨rfl, bb⟩
  have s2 := s.keep bb
  clear K bb s x0 x1 xl
  have s := s2
  clear s2
  have yx := s.cs (b := b7) (vs := [.int .u32 b, .int .u16 q]) (by simp)
  have y0 := yx.cell 0 _ rfl
  have y1 := yx.cell 1 _ rfl
  have yl := yx.lt
  clear yx
  have K := N2.out w7
  go_wp2_with fail
  refine K.mono ?_; rintro e w8 ⟨rfl, bb⟩
  have s2 := s.keep bb
  clear K bb s y0 y1 yl
  have s := s2
  clear s2
  go_upto_region 16 with fail
  try dsimp only [List.append]
  have xx := s.cs (b := b6) (vs := [.int .u32 a, .int .u16 p]) (by simp)
  have x0 := xx.cell 0 _ rfl
  have x1 := xx.cell 1 _ rfl
  have xl := xx.lt
  clear xx
  have K := N1.out w8
  go_wp2_with fail
  refine K.mono ?_; rintro e w9 ⟨rfl, bb⟩
  have s2 := s.keep bb
  clear K bb s x0 x1 xl
  have s := s2
  clear s2
  have yx := s.cs (b := b7) (vs := [.int .u32 b, .int .u16 q]) (by simp)
  have y0 := yx.cell 0 _ rfl
  have y1 := yx.cell 1 _ rfl
  have yl := yx.lt
  clear yx
  have K := N2.out w9
  go_wp2_with fail
  refine K.mono ?_; rintro e w10 ⟨rfl, bb⟩
  have s2 := s.keep bb
  clear K bb s y0 y1 yl
  have s := s2
  clear s2
  have xx := s.cs (b := b17) (vs := [.int .u32 0, .int .u16 0]) (by simp)
  have x0 := xx.cell 0 _ rfl
  have x1 := xx.cell 1 _ rfl
  have xl := xx.lt
  clear xx
  have yx := s.cs (b := b19) (vs := [.int .u32 a, .int .u16 p]) (by simp)
  have y0 := yx.cell 0 _ rfl
  have y1 := yx.cell 1 _ rfl
  have yl := yx.lt
  clear yx
  have K := votes_l (k := newR 1 1000) AL.out s (g := g) (by simp)
  clear s
  go_wp2_with fail
  refine K.mono ?_; rintro e wv ⟨u, rfl, s⟩
  clear K x0 x1 xl y0 y1 yl
  simp only [List.length_cons, List.length_nil]
  have BE := Lib.hid s.below
  clear s
  go_wp2
  go_ret
  exact ⟨rfl, BE.out⟩
set_option maxHeartbeats 6400000 in
set_option maxRecDepth 20000 in
theorem once_tf (who : Int) (a p b q : Nat) (ts tt : Int) (ha : a < 4294967296) (hp : p < 65536) (hb : b < 4294967296) (hq : q < 65536) (hs : 0 ≤ ts ∧ ts ≤ 65535) (ht : 0 ≤ tt ∧ tt ≤ 65535) (c1 : 1 ≤ who) (c2 : who ≤ 32) (hna : noneI a p = true) (hnb : noneI b q = false) (w : World) :
    Calls Try.prog 7 #[.int .i64 who, .agg #[.int .u32 a, .int .u16 p], .agg #[.int .u32 b, .int .u16 q], .int .u16 ts, .int .u16 tt] w fun e w' => e = .returned (.bool true) ∧ Below w.heap.size w w' := by
  have us := IntWalk.u64_in ts ⟨by omega, by omega⟩
  have ut := IntWalk.u64_in tt ⟨by omega, by omega⟩
  obtain ⟨n, rfl⟩ : ∃ n : Nat, who = n := ⟨who.toNat, by omega⟩
  have d1 : decide ((1 : Int) ≤ n) = true := decide_eq_true c1
  have d2 : decide ((n : Int) ≤ 32) = true := decide_eq_true c2
  have hv : ∀ (ip pt : Nat) (tm : Int), isV ⟨n, ip, pt, tm⟩ = true := fun ip pt tm => nodeI_iff.2 ⟨c1, c2⟩
  have F1 := Lib.hid (seeD_no (k := newR 1 1000) (i := n) (ip := a) (pt := p) (now := ts) (.inr (.inl hna)))
  have F2 := Lib.hid (seeD_yes (k := newR 1 1000) (i := n) (ip := b) (pt := q) (now := tt) (by omega) (by omega) hnb (by omega))
  have N1 := Lib.hid (fun w' => none_any a p ha hp w')
  have N2 := Lib.hid (fun w' => none_any b q hb hq w')
  rw [hna] at N1
  rw [hnb] at N2
  have AD := Lib.hid (addr_one (k := { newR 1 1000 with vote := oneF n ⟨n, b, q, tt⟩ }) (now := 0) (x := ⟨n, b, q, tt⟩) rfl (by omega) (hv _ _ _) (decide_eq_true (by show (0 : Int) < tt + 1000; omega)))
  have AL : Hid (allV (oneF n ⟨n, b, q, tt⟩) = [⟨n, b, q, tt⟩]) := all_one (by omega) (hv _ _ _)
  have s0 := ((St.start w w (Below.refl _ _)).box [.int .u32 a, .int .u16 p] 35).box [.int .u32 b, .int .u16 q] 35
  have E := ex_any ((w.alloc (.cells #[.int .u32 a, .int .u16 p] 35)).alloc (.cells #[.int .u32 b, .int .u16 q] 35))
  go_enter Try.func7, Try.ntmps7
  go_upto_region 1 with fail
  rw [World.size_alloc] at s0
  generalize ((w.alloc (.cells #[.int .u32 a, .int .u16 p] 35)).alloc (.cells #[.int .u32 b, .int .u16 q] 35)) = wa at *
  obtain ⟨b7, hb7⟩ : ∃ z, z = w.heap.size + 1 := ⟨_, rfl⟩
  rw [← hb7] at s0 ⊢
  obtain ⟨b6, hb6⟩ : ∃ z, z = w.heap.size := ⟨_, rfl⟩
  rw [← hb6]
  replace s0 : St w [hC b7 [.int .u32 b, .int .u16 q], hC b6 [.int .u32 a, .int .u16 p]] wa := by rw [hb6]; exact s0
  clear hb7 hb6
  go_wp2_with fail
  refine E.mono ?_; rintro e w0 ⟨rfl, b0⟩
  have s0 := s0.keep b0
  have K := new_l (r := 1) (h := 1000) (by decide) (by decide) (n := 1) rfl s0
  clear E b0 s0
  go_wp2_with fail
  refine K.mono ?_; rintro e w1 ⟨g, rfl, s⟩
  clear K
  have xx := s.cs (b := b6) (vs := [.int .u32 a, .int .u16 p]) (by simp)
  have x0 := xx.cell 0 _ rfl
  have x1 := xx.cell 1 _ rfl
  have xl := xx.lt
  clear xx
  have K := see_l (e := 1) (k' := newR 1 1000) (n : Int) a p ts (by omega) ha hp F1.out.1 F1.out.2 [] _ s
  clear s F1
  go_wp2_with fail
  refine K.mono ?_; rintro e w2 ⟨rfl, s⟩
  clear K x0 x1 xl
  have yx := s.cs (b := b7) (vs := [.int .u32 b, .int .u16 q]) (by simp)
  have y0 := yx.cell 0 _ rfl
  have y1 := yx.cell 1 _ rfl
  have yl := yx.lt
  clear yx
  have K := see_l (e := 0) (k' := { newR 1 1000 with vote := oneF n ⟨n, b, q, tt⟩ }) (n : Int) b q tt (by omega) hb hq F2.out.1 F2.out.2 [] _ s
  clear s F2
  go_wp2_with fail
  refine K.mono ?_; rintro e w3 ⟨rfl, s⟩
  clear K y0 y1 yl
  have K := addr_l 0 AD.out (b := true) (by decide) s (g := g) (by simp)
  clear s
  go_wp2_with fail
  refine K.mono ?_; rintro e w4 ⟨rfl, s⟩
  clear K AD
  have s2 := s.box [.int .u32 b, .int .u16 q] 35
  clear s
  go_upto_region 11 with fail
  generalize (w4.alloc (.cells #[.int .u32 b, .int .u16 q] 35)) = w5 at *
  generalize w4.heap.size = b17 at *
  have s := s2
  clear s2
  have xx := s.cs (b := b6) (vs := [.int .u32 a, .int .u16 p]) (by simp)
  have x0 := xx.cell 0 _ rfl
  have x1 := xx.cell 1 _ rfl
  have xl := xx.lt
  clear xx
  have s2 := s.box [.int .u32 a, .int .u16 p] 35
  clear s
  go_upto_region 12 with fail
  clear x0 x1 xl
  generalize (w5.alloc (.cells #[.int .u32 a, .int .u16 p] 35)) = w6 at *
  generalize w5.heap.size = b19 at *
  have s := s2
  clear s2
  have xx := s.cs (b := b6) (vs := [.int .u32 a, .int .u16 p]) (by simp)
  have x0 := xx.cell 0 _ rfl
  have x1 := xx.cell 1 _ rfl
  have xl := xx.lt
  clear xx
  have K := N1.out w6
  go_wp2_with fail
  refine K.mono ?_; rintro e w7 ⟨rfl, bb⟩
  have s2 := s.keep bb
  clear K bb s x0 x1 xl
  have s := s2
  clear s2
  have yx := s.cs (b := b7) (vs := [.int .u32 b, .int .u16 q]) (by simp)
  have y0 := yx.cell 0 _ rfl
  have y1 := yx.cell 1 _ rfl
  have yl := yx.lt
  clear yx
  have K := N2.out w7
  go_wp2_with fail
  refine K.mono ?_; rintro e w8 ⟨rfl, bb⟩
  have s2 := s.keep bb
  clear K bb s y0 y1 yl
  have s := s2
  clear s2
  have yx := s.cs (b := b7) (vs := [.int .u32 b, .int .u16 q]) (by simp)
  have y0 := yx.cell 0 _ rfl
  have y1 := yx.cell 1 _ rfl
  have yl := yx.lt
  clear yx
  have zx := s.cs (b := b19) (vs := [.int .u32 a, .int .u16 p]) (by simp)
  have z0 := zx.cell 0 _ rfl; have z1 := zx.cell 1 _ rfl; have zl := zx.lt; have zf0 := zx.free 0 _ rfl; have zf1 := zx.free 1 _ rfl
  have s2 := St.setc [] _ (St.setc [] _ s 0 (.int .u32 b) (by simp)) 1 (.int .u16 q) (by simp)
  simp only [List.set_cons_zero, List.set_cons_succ, List.nil_append] at s2
  clear s zx
  go_upto_region 16 with fail
  clear y0 y1 yl z0 z1 zl zf0 zf1
  generalize ((w8.setCell ⟨b19, 0, none⟩ (.int .u32 b)).setCell ⟨b19, 1, none⟩ (.int .u16 q)) = wz at *
  have s := s2
  clear s2
  try dsimp only [List.append]
  have xx := s.cs (b := b6) (vs := [.int .u32 a, .int .u16 p]) (by simp)
  have x0 := xx.cell 0 _ rfl
  have x1 := xx.cell 1 _ rfl
  have xl := xx.lt
  clear xx
  have K := N1.out wz
  go_wp2_with fail
  refine K.mono ?_; rintro e w9 ⟨rfl, bb⟩
  have s2 := s.keep bb
  clear K bb s x0 x1 xl
  have s := s2
  clear s2
  have yx := s.cs (b := b7) (vs := [.int .u32 b, .int .u16 q]) (by simp)
  have y0 := yx.cell 0 _ rfl
  have y1 := yx.cell 1 _ rfl
  have yl := yx.lt
  clear yx
  have K := N2.out w9
  go_wp2_with fail
  refine K.mono ?_; rintro e w10 ⟨rfl, bb⟩
  have s2 := s.keep bb
  clear K bb s y0 y1 yl
  have s := s2
  clear s2
  have xx := s.cs (b := b17) (vs := [.int .u32 b, .int .u16 q]) (by simp)
  have x0 := xx.cell 0 _ rfl
  have x1 := xx.cell 1 _ rfl
  have xl := xx.lt
  clear xx
  have yx := s.cs (b := b19) (vs := [.int .u32 b, .int .u16 q]) (by simp)
  have y0 := yx.cell 0 _ rfl
  have y1 := yx.cell 1 _ rfl
  have yl := yx.lt
  clear yx
  have K := votes_l (k := { newR 1 1000 with vote := oneF n ⟨n, b, q, tt⟩ }) AL.out s (g := g) (by simp)
  clear s
  go_wp2_with fail
  refine K.mono ?_; rintro e wv ⟨u, rfl, s⟩
  clear K x0 x1 xl y0 y1 yl
  simp only [List.length_cons, List.length_nil]
  have BE := Lib.hid s.below
  clear s
  go_wp2
  go_ret
  exact ⟨rfl, BE.out⟩
set_option maxHeartbeats 6400000 in
set_option maxRecDepth 20000 in
theorem once_ft (who : Int) (a p b q : Nat) (ts tt : Int) (ha : a < 4294967296) (hp : p < 65536) (hb : b < 4294967296) (hq : q < 65536) (hs : 0 ≤ ts ∧ ts ≤ 65535) (ht : 0 ≤ tt ∧ tt ≤ 65535) (c1 : 1 ≤ who) (c2 : who ≤ 32) (hna : noneI a p = false) (hnb : noneI b q = true) (w : World) :
    Calls Try.prog 7 #[.int .i64 who, .agg #[.int .u32 a, .int .u16 p], .agg #[.int .u32 b, .int .u16 q], .int .u16 ts, .int .u16 tt] w fun e w' => e = .returned (.bool true) ∧ Below w.heap.size w w' := by
  have us := IntWalk.u64_in ts ⟨by omega, by omega⟩
  have ut := IntWalk.u64_in tt ⟨by omega, by omega⟩
  obtain ⟨n, rfl⟩ : ∃ n : Nat, who = n := ⟨who.toNat, by omega⟩
  have d1 : decide ((1 : Int) ≤ n) = true := decide_eq_true c1
  have d2 : decide ((n : Int) ≤ 32) = true := decide_eq_true c2
  have hv : ∀ (ip pt : Nat) (tm : Int), isV ⟨n, ip, pt, tm⟩ = true := fun ip pt tm => nodeI_iff.2 ⟨c1, c2⟩
  have F1 := Lib.hid (seeD_yes (k := newR 1 1000) (i := n) (ip := a) (pt := p) (now := ts) (by omega) (by omega) hna (by omega))
  have F2 := Lib.hid (seeD_no (k := { newR 1 1000 with vote := oneF n ⟨n, a, p, ts⟩ }) (i := n) (ip := b) (pt := q) (now := tt) (.inr (.inl hnb)))
  have N1 := Lib.hid (fun w' => none_any a p ha hp w')
  have N2 := Lib.hid (fun w' => none_any b q hb hq w')
  rw [hna] at N1
  rw [hnb] at N2
  have AD := Lib.hid (addr_one (k := { newR 1 1000 with vote := oneF n ⟨n, a, p, ts⟩ }) (now := 0) (x := ⟨n, a, p, ts⟩) rfl (by omega) (hv _ _ _) (decide_eq_true (by show (0 : Int) < ts + 1000; omega)))
  have AL : Hid (allV (oneF n ⟨n, a, p, ts⟩) = [⟨n, a, p, ts⟩]) := all_one (by omega) (hv _ _ _)
  have s0 := ((St.start w w (Below.refl _ _)).box [.int .u32 a, .int .u16 p] 35).box [.int .u32 b, .int .u16 q] 35
  have E := ex_any ((w.alloc (.cells #[.int .u32 a, .int .u16 p] 35)).alloc (.cells #[.int .u32 b, .int .u16 q] 35))
  go_enter Try.func7, Try.ntmps7
  go_upto_region 1 with fail
  rw [World.size_alloc] at s0
  generalize ((w.alloc (.cells #[.int .u32 a, .int .u16 p] 35)).alloc (.cells #[.int .u32 b, .int .u16 q] 35)) = wa at *
  obtain ⟨b7, hb7⟩ : ∃ z, z = w.heap.size + 1 := ⟨_, rfl⟩
  rw [← hb7] at s0 ⊢
  obtain ⟨b6, hb6⟩ : ∃ z, z = w.heap.size := ⟨_, rfl⟩
  rw [← hb6]
  replace s0 : St w [hC b7 [.int .u32 b, .int .u16 q], hC b6 [.int .u32 a, .int .u16 p]] wa := by rw [hb6]; exact s0
  clear hb7 hb6
  go_wp2_with fail
  refine E.mono ?_; rintro e w0 ⟨rfl, b0⟩
  have s0 := s0.keep b0
  have K := new_l (r := 1) (h := 1000) (by decide) (by decide) (n := 1) rfl s0
  clear E b0 s0
  go_wp2_with fail
  refine K.mono ?_; rintro e w1 ⟨g, rfl, s⟩
  clear K
  have xx := s.cs (b := b6) (vs := [.int .u32 a, .int .u16 p]) (by simp)
  have x0 := xx.cell 0 _ rfl
  have x1 := xx.cell 1 _ rfl
  have xl := xx.lt
  clear xx
  have K := see_l (e := 0) (k' := { newR 1 1000 with vote := oneF n ⟨n, a, p, ts⟩ }) (n : Int) a p ts (by omega) ha hp F1.out.1 F1.out.2 [] _ s
  clear s F1
  go_wp2_with fail
  refine K.mono ?_; rintro e w2 ⟨rfl, s⟩
  clear K x0 x1 xl
  have yx := s.cs (b := b7) (vs := [.int .u32 b, .int .u16 q]) (by simp)
  have y0 := yx.cell 0 _ rfl
  have y1 := yx.cell 1 _ rfl
  have yl := yx.lt
  clear yx
  have K := see_l (e := 1) (k' := { newR 1 1000 with vote := oneF n ⟨n, a, p, ts⟩ }) (n : Int) b q tt (by omega) hb hq F2.out.1 F2.out.2 [] _ s
  clear s F2
  go_wp2_with fail
  refine K.mono ?_; rintro e w3 ⟨rfl, s⟩
  clear K y0 y1 yl
  have K := addr_l 0 AD.out (b := true) (by decide) s (g := g) (by simp)
  clear s
  go_wp2_with fail
  refine K.mono ?_; rintro e w4 ⟨rfl, s⟩
  clear K AD
  have s2 := s.box [.int .u32 a, .int .u16 p] 35
  clear s
  go_upto_region 11 with fail
  generalize (w4.alloc (.cells #[.int .u32 a, .int .u16 p] 35)) = w5 at *
  generalize w4.heap.size = b17 at *
  have s := s2
  clear s2
  have xx := s.cs (b := b6) (vs := [.int .u32 a, .int .u16 p]) (by simp)
  have x0 := xx.cell 0 _ rfl
  have x1 := xx.cell 1 _ rfl
  have xl := xx.lt
  clear xx
  have s2 := s.box [.int .u32 a, .int .u16 p] 35
  clear s
  go_upto_region 12 with fail
  clear x0 x1 xl
  generalize (w5.alloc (.cells #[.int .u32 a, .int .u16 p] 35)) = w6 at *
  generalize w5.heap.size = b19 at *
  have s := s2
  clear s2
  have xx := s.cs (b := b6) (vs := [.int .u32 a, .int .u16 p]) (by simp)
  have x0 := xx.cell 0 _ rfl
  have x1 := xx.cell 1 _ rfl
  have xl := xx.lt
  clear xx
  have K := N1.out w6
  go_wp2_with fail
  refine K.mono ?_; rintro e w7 ⟨rfl, bb⟩
  have s2 := s.keep bb
  clear K bb s x0 x1 xl
  have s := s2
  clear s2
  have yx := s.cs (b := b7) (vs := [.int .u32 b, .int .u16 q]) (by simp)
  have y0 := yx.cell 0 _ rfl
  have y1 := yx.cell 1 _ rfl
  have yl := yx.lt
  clear yx
  have K := N2.out w7
  go_wp2_with fail
  refine K.mono ?_; rintro e w8 ⟨rfl, bb⟩
  have s2 := s.keep bb
  clear K bb s y0 y1 yl
  have s := s2
  clear s2
  go_upto_region 16 with fail
  try dsimp only [List.append]
  have xx := s.cs (b := b6) (vs := [.int .u32 a, .int .u16 p]) (by simp)
  have x0 := xx.cell 0 _ rfl
  have x1 := xx.cell 1 _ rfl
  have xl := xx.lt
  clear xx
  have K := N1.out w8
  go_wp2_with fail
  refine K.mono ?_; rintro e w9 ⟨rfl, bb⟩
  have s2 := s.keep bb
  clear K bb s x0 x1 xl
  have s := s2
  clear s2
  have yx := s.cs (b := b7) (vs := [.int .u32 b, .int .u16 q]) (by simp)
  have y0 := yx.cell 0 _ rfl
  have y1 := yx.cell 1 _ rfl
  have yl := yx.lt
  clear yx
  have K := N2.out w9
  go_wp2_with fail
  refine K.mono ?_; rintro e w10 ⟨rfl, bb⟩
  have s2 := s.keep bb
  clear K bb s y0 y1 yl
  have s := s2
  clear s2
  have xx := s.cs (b := b17) (vs := [.int .u32 a, .int .u16 p]) (by simp)
  have x0 := xx.cell 0 _ rfl
  have x1 := xx.cell 1 _ rfl
  have xl := xx.lt
  clear xx
  have yx := s.cs (b := b19) (vs := [.int .u32 a, .int .u16 p]) (by simp)
  have y0 := yx.cell 0 _ rfl
  have y1 := yx.cell 1 _ rfl
  have yl := yx.lt
  clear yx
  have K := votes_l (k := { newR 1 1000 with vote := oneF n ⟨n, a, p, ts⟩ }) AL.out s (g := g) (by simp)
  clear s
  go_wp2_with fail
  refine K.mono ?_; rintro e wv ⟨u, rfl, s⟩
  clear K x0 x1 xl y0 y1 yl
  simp only [List.length_cons, List.length_nil]
  have BE := Lib.hid s.below
  clear s
  go_wp2
  go_ret
  exact ⟨rfl, BE.out⟩
set_option maxHeartbeats 6400000 in
set_option maxRecDepth 20000 in
theorem once_ff (who : Int) (a p b q : Nat) (ts tt : Int) (ha : a < 4294967296) (hp : p < 65536) (hb : b < 4294967296) (hq : q < 65536) (hs : 0 ≤ ts ∧ ts ≤ 65535) (ht : 0 ≤ tt ∧ tt ≤ 65535) (c1 : 1 ≤ who) (c2 : who ≤ 32) (hna : noneI a p = false) (hnb : noneI b q = false) (w : World) :
    Calls Try.prog 7 #[.int .i64 who, .agg #[.int .u32 a, .int .u16 p], .agg #[.int .u32 b, .int .u16 q], .int .u16 ts, .int .u16 tt] w fun e w' => e = .returned (.bool true) ∧ Below w.heap.size w w' := by
  have us := IntWalk.u64_in ts ⟨by omega, by omega⟩
  have ut := IntWalk.u64_in tt ⟨by omega, by omega⟩
  obtain ⟨n, rfl⟩ : ∃ n : Nat, who = n := ⟨who.toNat, by omega⟩
  have d1 : decide ((1 : Int) ≤ n) = true := decide_eq_true c1
  have d2 : decide ((n : Int) ≤ 32) = true := decide_eq_true c2
  have hv : ∀ (ip pt : Nat) (tm : Int), isV ⟨n, ip, pt, tm⟩ = true := fun ip pt tm => nodeI_iff.2 ⟨c1, c2⟩
  have F1 := Lib.hid (seeD_yes (k := newR 1 1000) (i := n) (ip := a) (pt := p) (now := ts) (by omega) (by omega) hna (by omega))
  have F2 := Lib.hid (seeD_yes (k := { newR 1 1000 with vote := oneF n ⟨n, a, p, ts⟩ }) (i := n) (ip := b) (pt := q) (now := tt) (by omega) (by omega) hnb (by omega))
  have N1 := Lib.hid (fun w' => none_any a p ha hp w')
  have N2 := Lib.hid (fun w' => none_any b q hb hq w')
  rw [hna] at N1
  rw [hnb] at N2
  have AD := Lib.hid (addr_one (k := { newR 1 1000 with vote := oneF n ⟨n, b, q, tt⟩ }) (now := 0) (x := ⟨n, b, q, tt⟩) rfl (by omega) (hv _ _ _) (decide_eq_true (by show (0 : Int) < tt + 1000; omega)))
  have AL : Hid (allV (oneF n ⟨n, b, q, tt⟩) = [⟨n, b, q, tt⟩]) := all_one (by omega) (hv _ _ _)
  have s0 := ((St.start w w (Below.refl _ _)).box [.int .u32 a, .int .u16 p] 35).box [.int .u32 b, .int .u16 q] 35
  have E := ex_any ((w.alloc (.cells #[.int .u32 a, .int .u16 p] 35)).alloc (.cells #[.int .u32 b, .int .u16 q] 35))
  go_enter Try.func7, Try.ntmps7
  go_upto_region 1 with fail
  rw [World.size_alloc] at s0
  generalize ((w.alloc (.cells #[.int .u32 a, .int .u16 p] 35)).alloc (.cells #[.int .u32 b, .int .u16 q] 35)) = wa at *
  obtain ⟨b7, hb7⟩ : ∃ z, z = w.heap.size + 1 := ⟨_, rfl⟩
  rw [← hb7] at s0 ⊢
  obtain ⟨b6, hb6⟩ : ∃ z, z = w.heap.size := ⟨_, rfl⟩
  rw [← hb6]
  replace s0 : St w [hC b7 [.int .u32 b, .int .u16 q], hC b6 [.int .u32 a, .int .u16 p]] wa := by rw [hb6]; exact s0
  clear hb7 hb6
  go_wp2_with fail
  refine E.mono ?_; rintro e w0 ⟨rfl, b0⟩
  have s0 := s0.keep b0
  have K := new_l (r := 1) (h := 1000) (by decide) (by decide) (n := 1) rfl s0
  clear E b0 s0
  go_wp2_with fail
  refine K.mono ?_; rintro e w1 ⟨g, rfl, s⟩
  clear K
  have xx := s.cs (b := b6) (vs := [.int .u32 a, .int .u16 p]) (by simp)
  have x0 := xx.cell 0 _ rfl
  have x1 := xx.cell 1 _ rfl
  have xl := xx.lt
  clear xx
  have K := see_l (e := 0) (k' := { newR 1 1000 with vote := oneF n ⟨n, a, p, ts⟩ }) (n : Int) a p ts (by omega) ha hp F1.out.1 F1.out.2 [] _ s
  clear s F1
  go_wp2_with fail
  refine K.mono ?_; rintro e w2 ⟨rfl, s⟩
  clear K x0 x1 xl
  have yx := s.cs (b := b7) (vs := [.int .u32 b, .int .u16 q]) (by simp)
  have y0 := yx.cell 0 _ rfl
  have y1 := yx.cell 1 _ rfl
  have yl := yx.lt
  clear yx
  have K := see_l (e := 0) (k' := { newR 1 1000 with vote := oneF n ⟨n, b, q, tt⟩ }) (n : Int) b q tt (by omega) hb hq F2.out.1 (F2.out.2.trans (by show Rc.mk _ _ (updV (oneF n _) n _) _ _ _ _ = _; rw [one_upd])) [] _ s
  clear s F2
  go_wp2_with fail
  refine K.mono ?_; rintro e w3 ⟨rfl, s⟩
  clear K y0 y1 yl
  have K := addr_l 0 AD.out (b := true) (by decide) s (g := g) (by simp)
  clear s
  go_wp2_with fail
  refine K.mono ?_; rintro e w4 ⟨rfl, s⟩
  clear K AD
  have s2 := s.box [.int .u32 b, .int .u16 q] 35
  clear s
  go_upto_region 11 with fail
  generalize (w4.alloc (.cells #[.int .u32 b, .int .u16 q] 35)) = w5 at *
  generalize w4.heap.size = b17 at *
  have s := s2
  clear s2
  have xx := s.cs (b := b6) (vs := [.int .u32 a, .int .u16 p]) (by simp)
  have x0 := xx.cell 0 _ rfl
  have x1 := xx.cell 1 _ rfl
  have xl := xx.lt
  clear xx
  have s2 := s.box [.int .u32 a, .int .u16 p] 35
  clear s
  go_upto_region 12 with fail
  clear x0 x1 xl
  generalize (w5.alloc (.cells #[.int .u32 a, .int .u16 p] 35)) = w6 at *
  generalize w5.heap.size = b19 at *
  have s := s2
  clear s2
  have xx := s.cs (b := b6) (vs := [.int .u32 a, .int .u16 p]) (by simp)
  have x0 := xx.cell 0 _ rfl
  have x1 := xx.cell 1 _ rfl
  have xl := xx.lt
  clear xx
  have K := N1.out w6
  go_wp2_with fail
  refine K.mono ?_; rintro e w7 ⟨rfl, bb⟩
  have s2 := s.keep bb
  clear K bb s x0 x1 xl
  have s := s2
  clear s2
  have yx := s.cs (b := b7) (vs := [.int .u32 b, .int .u16 q]) (by simp)
  have y0 := yx.cell 0 _ rfl
  have y1 := yx.cell 1 _ rfl
  have yl := yx.lt
  clear yx
  have K := N2.out w7
  go_wp2_with fail
  refine K.mono ?_; rintro e w8 ⟨rfl, bb⟩
  have s2 := s.keep bb
  clear K bb s y0 y1 yl
  have s := s2
  clear s2
  have yx := s.cs (b := b7) (vs := [.int .u32 b, .int .u16 q]) (by simp)
  have y0 := yx.cell 0 _ rfl
  have y1 := yx.cell 1 _ rfl
  have yl := yx.lt
  clear yx
  have zx := s.cs (b := b19) (vs := [.int .u32 a, .int .u16 p]) (by simp)
  have z0 := zx.cell 0 _ rfl; have z1 := zx.cell 1 _ rfl; have zl := zx.lt; have zf0 := zx.free 0 _ rfl; have zf1 := zx.free 1 _ rfl
  have s2 := St.setc [] _ (St.setc [] _ s 0 (.int .u32 b) (by simp)) 1 (.int .u16 q) (by simp)
  simp only [List.set_cons_zero, List.set_cons_succ, List.nil_append] at s2
  clear s zx
  go_upto_region 16 with fail
  clear y0 y1 yl z0 z1 zl zf0 zf1
  generalize ((w8.setCell ⟨b19, 0, none⟩ (.int .u32 b)).setCell ⟨b19, 1, none⟩ (.int .u16 q)) = wz at *
  have s := s2
  clear s2
  try dsimp only [List.append]
  have xx := s.cs (b := b6) (vs := [.int .u32 a, .int .u16 p]) (by simp)
  have x0 := xx.cell 0 _ rfl
  have x1 := xx.cell 1 _ rfl
  have xl := xx.lt
  clear xx
  have K := N1.out wz
  go_wp2_with fail
  refine K.mono ?_; rintro e w9 ⟨rfl, bb⟩
  have s2 := s.keep bb
  clear K bb s x0 x1 xl
  have s := s2
  clear s2
  have yx := s.cs (b := b7) (vs := [.int .u32 b, .int .u16 q]) (by simp)
  have y0 := yx.cell 0 _ rfl
  have y1 := yx.cell 1 _ rfl
  have yl := yx.lt
  clear yx
  have K := N2.out w9
  go_wp2_with fail
  refine K.mono ?_; rintro e w10 ⟨rfl, bb⟩
  have s2 := s.keep bb
  clear K bb s y0 y1 yl
  have s := s2
  clear s2
  have xx := s.cs (b := b17) (vs := [.int .u32 b, .int .u16 q]) (by simp)
  have x0 := xx.cell 0 _ rfl
  have x1 := xx.cell 1 _ rfl
  have xl := xx.lt
  clear xx
  have yx := s.cs (b := b19) (vs := [.int .u32 b, .int .u16 q]) (by simp)
  have y0 := yx.cell 0 _ rfl
  have y1 := yx.cell 1 _ rfl
  have yl := yx.lt
  clear yx
  have K := votes_l (k := { newR 1 1000 with vote := oneF n ⟨n, b, q, tt⟩ }) AL.out s (g := g) (by simp)
  clear s
  go_wp2_with fail
  refine K.mono ?_; rintro e wv ⟨u, rfl, s⟩
  clear K x0 x1 xl y0 y1 yl
  simp only [List.length_cons, List.length_nil]
  have BE := Lib.hid s.below
  clear s
  go_wp2
  go_ret
  exact ⟨rfl, BE.out⟩
theorem once_walk (who : Int) (a p b q : Nat) (s t : Int) (ha : a < 4294967296) (hp : p < 65536) (hb : b < 4294967296) (hq : q < 65536) (hs : 0 ≤ s ∧ s ≤ 65535) (ht : 0 ≤ t ∧ t ≤ 65535) (w : World) :
    Calls Try.prog 7 #[.int .i64 who, .agg #[.int .u32 a, .int .u16 p], .agg #[.int .u32 b, .int .u16 q], .int .u16 s, .int .u16 t] w fun e w' => e = .returned (.bool true) ∧ Below w.heap.size w w' := by
  by_cases c1 : 1 ≤ who
  · by_cases c2 : who ≤ 32
    · cases hna : noneI a p with
      | true =>
        cases hnb : noneI b q with
        | true => exact once_tt who a p b q s t ha hp hb hq hs ht c1 c2 hna hnb w
        | false => exact once_tf who a p b q s t ha hp hb hq hs ht c1 c2 hna hnb w
      | false =>
        cases hnb : noneI b q with
        | true => exact once_ft who a p b q s t ha hp hb hq hs ht c1 c2 hna hnb w
        | false => exact once_ff who a p b q s t ha hp hb hq hs ht c1 c2 hna hnb w
    · exact once_hi who a p b q s t ha hp hb hq hs ht c1 (by omega) w
  · exact once_lo who a p b q s t ha hp hb hq hs ht (by omega) w
theorem once_run (who a p b q s t : Int) (w : World) (ww : (Lit.int .i64 who).wf = true) (wa : (Lit.int .u32 a).wf = true) (wp : (Lit.int .u16 p).wf = true) (wb : (Lit.int .u32 b).wf = true) (wq : (Lit.int .u16 q).wf = true) (ws : (Lit.int .u16 s).wf = true) (wt : (Lit.int .u16 t).wf = true) :
    Calls Try.prog 7 #[.int .i64 who, .agg #[.int .u32 a, .int .u16 p], .agg #[.int .u32 b, .int .u16 q], .int .u16 s, .int .u16 t] w fun e w' => e = .returned (.bool true) ∧ Below w.heap.size w w' := by
  have h1 := bounds_u32 wa
  have h2 := bounds_u16 wp
  have h3 := bounds_u32 wb
  have h4 := bounds_u16 wq
  obtain ⟨a, rfl⟩ : ∃ n : Nat, a = n := ⟨a.toNat, by omega⟩
  obtain ⟨p, rfl⟩ : ∃ n : Nat, p = n := ⟨p.toNat, by omega⟩
  obtain ⟨b, rfl⟩ : ∃ n : Nat, b = n := ⟨b.toNat, by omega⟩
  obtain ⟨q, rfl⟩ : ∃ n : Nat, q = n := ⟨q.toNat, by omega⟩
  have h5 := bounds_u16 ws
  have h6 := bounds_u16 wt
  exact once_walk who a p b q s t (by omega) (by omega) (by omega) (by omega) ⟨h5.1, by omega⟩ ⟨h6.1, by omega⟩ w
theorem reachOnce_own : ownKnob Try.prog.godebug = none := by kernel_rfl
theorem reachOnce_laid : laidOutB Try.prog = true := by kernel_rfl
set_option maxRecDepth 100000 in
theorem reachOnce_lifted (os : Os) (started : os.Started) (H : Type) (enc : TypeId × Value → H) :
    ReturnsInHanded {} Try.checked os 7 .any (Rows.reachOnceSpec.pre6 enc Try.prog Try.f7 Rows.reachOnceRow.domain false) (Rows.reachOnceSpec.post enc Try.prog Try.f7 false true false false) := by
  refine returnsInHanded_of_change (C := Try.checked) reachOnce_own started (by kernel_rfl) Try.func7
    (ChangeSpec.witness6 (enc := enc) (C := Try.checked) false ⟨#[], #[.int .i64 0, .agg #[.int .u32 0, .int .u16 0], .agg #[.int .u32 0, .int .u16 0], .int .u16 0, .int .u16 0], []⟩ 8 (by kernel_rfl) (by kernel_rfl) (by kernel_rfl) (by kernel_rfl)) ?_
  intro W base args ds gs before hval0 hW hcnd _
  have hval : ∀ (j : Nat) t v, Try.f7.params[j]? = some t → args[j]? = some v → Value.okWide Try.prog W .any base t v := hval0
  have hW' := hW
  obtain ⟨p, q, hA0, hV, rfl, hfz, hnd⟩ := hW
  have hA : DataW.TrodAll enc Try.prog W 0 (fun _ => true) true Try.f7.params.toList args.toList ds p := hA0
  rw [Try.params7] at hA hval
  obtain ⟨v0, vs0, d0, ds0, p0, q0, hargs, rfl, rfl, h0, r0⟩ := trodAll_cons hA
  obtain ⟨v1, vs1, d1, ds1, p1, q1, rfl, rfl, rfl, h1, r1⟩ := trodAll_cons r0
  obtain ⟨v2, vs2, d2, ds2, p2, q2, rfl, rfl, rfl, h2, r2⟩ := trodAll_cons r1
  obtain ⟨v3, vs3, d3, ds3, p3, q3, rfl, rfl, rfl, h3, r3⟩ := trodAll_cons r2
  obtain ⟨v4, vs4, d4, ds4, p4, q4, rfl, rfl, rfl, h4, r4⟩ := trodAll_cons r3
  obtain ⟨rfl, rfl, rfl⟩ := trodAll_nil r4
  obtain rfl : args = #[v0, v1, v2, v3, v4] := by cases args; simp_all
  obtain ⟨rfl, rfl⟩ := trodVars_none hV
  obtain ⟨a0, rfl, rfl, rfl, w0⟩ := open_int Try.underlying3 (hval 0 3 v0 rfl rfl) h0
  have k1 := h1
  have lt1 : ∀ x ∈ p1, x.block < W.heap.size := by obtain ⟨m, hm⟩ := k1; exact DataW.trod_lt m _ _ _ hm
  obtain ⟨c1_0, c1_1, y1_0, y1_1, n1, rfl, rfl, rfl, t1_0, t1_1⟩ := Joins.open_agg2 Try.underlying35 (by kernel_rfl) (by kernel_rfl) (hval 1 35 v1 rfl rfl) h1
  obtain ⟨a1_0, e1_0, rfl, w1_0⟩ := DataW.trod_int Try.underlying32 t1_0
  obtain rfl := (List.cons.inj e1_0).1
  obtain ⟨a1_1, e1_1, rfl, w1_1⟩ := DataW.trod_int Try.underlying33 t1_1
  obtain rfl := (List.cons.inj e1_1).1
  have k2 := h2
  have lt2 : ∀ x ∈ p2, x.block < W.heap.size := by obtain ⟨m, hm⟩ := k2; exact DataW.trod_lt m _ _ _ hm
  obtain ⟨c2_0, c2_1, y2_0, y2_1, n2, rfl, rfl, rfl, t2_0, t2_1⟩ := Joins.open_agg2 Try.underlying35 (by kernel_rfl) (by kernel_rfl) (hval 2 35 v2 rfl rfl) h2
  obtain ⟨a2_0, e2_0, rfl, w2_0⟩ := DataW.trod_int Try.underlying32 t2_0
  obtain rfl := (List.cons.inj e2_0).1
  obtain ⟨a2_1, e2_1, rfl, w2_1⟩ := DataW.trod_int Try.underlying33 t2_1
  obtain rfl := (List.cons.inj e2_1).1
  obtain ⟨a3, rfl, rfl, rfl, w3⟩ := open_int Try.underlying33 (hval 3 33 v3 rfl rfl) h3
  obtain ⟨a4, rfl, rfl, rfl, w4⟩ := open_int Try.underlying33 (hval 4 33 v4 rfl rfl) h4
  clear hA0 hval0
  refine (once_run a0 a1_0 a1_1 a2_0 a2_1 a3 a4 W w0 w1_0 w1_1 w2_0 w2_1 w3 w4).mono fun e W' ⟨he, bel⟩ => ?_
  subst he
  exact ⟨_, rfl, _, _, _, [], _, [], hW', trodAll_mk1 (shut_bool Try.underlying4 _), (trodAll_cons_mk (shut_int Try.underlying3 w0) (trodAll_cons_mk (Below.trod reachOnce_laid (by kernel_rfl) (of_decide_eq_true (by kernel_rfl)) k1 bel lt1) (trodAll_cons_mk (Below.trod reachOnce_laid (by kernel_rfl) (of_decide_eq_true (by kernel_rfl)) k2 bel lt2) (trodAll_cons_mk (shut_int Try.underlying33 w3) (trodAll_cons_mk (shut_int Try.underlying33 w4) trodAll_mk0))))), rfl, bel.frame _, fun h => by cases h⟩
theorem reachOnce_over : Rows.reachOnceRow.holds Try.pinned (OpenSpec.ofChange Rows.reachOnceSpec) :=
  OpenClaim.holds_of_wide 7 Try.f7 rfl rfl rfl rfl rfl rfl rfl ⟨rfl, rfl, rfl, rfl, rfl⟩ rfl rfl rfl rfl rfl (by kernel_rfl) Try.func7 (by kernel_rfl)
    (of_decide_eq_true (by kernel_rfl)) (by unfold Func.isWrapper; first | (rw [if_pos (by decide +kernel)]; kernel_rfl) | (rw [if_neg (by decide +kernel)]; exact ⟨rfl, rfl⟩))
    (fun os started H enc _ => reachOnce_lifted os started H enc)
theorem reachOnce_holds : Rows.ReachOnceSaid := reachOnce_over
#print axioms reachOnce_holds
end Go.Proofs.Ytnkjepemliccpaa
