/- The program's: isNode, isSuspected, until, New, Until, Begin, Clear. -/
import Derived.Test.YtplllaafllcigaaDbRow
import Derived.BigRegion
namespace Go.Proofs.Ytplllaafllcigaa
open Go.Sort Go.RowKit Go.BigFrame
set_option linter.unusedVariables false
set_option linter.unusedSimpArgs false

theorem new_any (w : World) : Calls Try.prog 10 #[] w fun e w' => ∃ g, e = .returned (.pointer (some ⟨g, 0, none⟩)) ∧ w.heap.size ≤ g ∧ Ds g (fun _ => nilS) newD w' ∧ Below w.heap.size w w' := by
  obtain ⟨hz, hs⟩ := zero_of_info z_info
  have hc := z_cells
  have F := Lib.hid (Ds.new w)
  obtain ⟨zc, hzc⟩ : ∃ zc, zCells.toArray = zc := ⟨_, rfl⟩
  rw [hzc] at hz hc F
  clear hzc hs
  go_enter Try.func10, Try.ntmps10
  go_wp2
  go_ret
  exact ⟨w.heap.size, rfl, Nat.le_refl _, F.out, (Below.refl _ _).alloc (Nat.le_refl _) _⟩
theorem node_any (i : Int) (w : World) : Calls Try.prog 23 #[.int .i64 i] w fun e w' => e = .returned (.bool (nodeI i)) ∧ w = w' := by
  unfold nodeI
  by_cases h : 1 ≤ i
  · go_enter Try.func23, Try.ntmps23
    go_wp2
    go_ret
    exact ⟨bool_ret (by first | (simp [h]; done) | (simp; intros; omega)), rfl⟩
  · go_enter Try.func23, Try.ntmps23
    go_wp2
    go_ret
    exact ⟨bool_ret (by first | (simp [h]; done) | (simp; intros; omega)), rfl⟩
theorem susp_any (i : Int) (g : Nat) (V : Nat → Sl) (k : Nat → It) (w : World) (h : Ds g V k w) : Calls Try.prog 24 #[.pointer (some ⟨g, 0, none⟩), .int .i64 i] w fun e w' => e = .returned (.bool (suspI k i)) ∧ w = w' := by
  have K := node_any i
  have HI := Lib.hid (nodeI_iff (i := i))
  have gl := h.glt
  unfold suspI
  generalize nodeI i = q at *
  cases q with
  | false =>
    go_enter Try.func24, Try.ntmps24
    go_wp2_with fail
    refine (K _).mono ?_; rintro e w1 ⟨rfl, rfl⟩
    go_wp2
    go_ret
    exact ⟨rfl, rfl⟩
  | true =>
    have hi := HI.out.1 rfl
    obtain ⟨n, rfl⟩ : ∃ n : Nat, i = n := ⟨i.toNat, by omega⟩
    have hn : n < 33 := by omega
    have hn' : (n : Int) < 33 := by omega
    have hn0 : (0 : Int) ≤ n := by omega
    have c3 := h.cell n hn 3 _ rfl
    have HQ : Hid (susp (k n) = !((k n).hold == 0)) := rfl
    simp only [Int.toNat_natCast]
    generalize susp (k n) = q at *
    generalize (k n).hold = hd at *
    clear h HI hi
    go_enter Try.func24, Try.ntmps24
    go_wp2_with fail
    refine (K _).mono ?_; rintro e w1 ⟨rfl, rfl⟩
    go_wp2
    go_ret
    exact ⟨bool_ret (by rw [HQ.out]; rfl), rfl⟩
/-- what an item of a doubt is: its numbers are in their bounds -/
structure NumI (x : It) : Prop where
  s0 : 0 ≤ x.since
  s1 : x.since ≤ 4611686018427387904
  h0 : 0 ≤ x.hold
  h1 : x.hold ≤ 1000000
  w1 : x.who.length ≤ 32
theorem OkD.num {k : Nat → It} (h : OkD k) (i : Nat) : NumI (k i) := by
  cases e : susp (k i) with
  | true => exact ⟨(h.ok i e).s0, (h.ok i e).s1, Int.le_trans (by decide) (h.ok i e).h0, (h.ok i e).h1, h.len i⟩
  | false => rw [h.zero i e]; exact ⟨by decide, by decide, by decide, by decide, by decide⟩
set_option maxHeartbeats 1600000 in
theorem until_any (x : It) (s : Sl) (hs : s.n = x.who.length) (hx : NumI x) (w : World) : Calls Try.prog 31 #[.agg #[.int .i64 x.id, .int .u32 x.inc, .int .u64 x.since, .int .u64 x.hold, .slice s.a s.n s.c]] w fun e w' => e = .returned (.int .u64 (untilI x)) ∧ Below w.heap.size w w' := by
  have H := Lib.hid hx
  obtain ⟨a, n, c⟩ := s
  simp only at hs
  subst hs
  have hl := hx.w1
  have hh0 := hx.h0
  have hh1 := hx.h1
  have hs0 := hx.s0
  have hs1 := hx.s1
  have HU : Hid (untilI x = x.since + (x.hold + x.who.length) / (x.who.length + 1)) := rfl
  generalize untilI x = U at *
  obtain ⟨i, nc, sc, hd, l⟩ := x
  simp only at *
  generalize l.length = m at *
  have hq0 : 0 ≤ (hd + m) / ((m : Int) + 1) := Int.ediv_nonneg (by omega) (by omega)
  have hq1 : (hd + m) / ((m : Int) + 1) ≤ hd + m := Int.ediv_le_self _ (by omega)
  have u1 := IntWalk.u64_in (m : Int) ⟨by omega, by omega⟩
  have u2 := IntWalk.u64_in (hd + m) ⟨by omega, by omega⟩
  have u3 := IntWalk.u64_in ((m : Int) + 1) ⟨by omega, by omega⟩
  have z1 : ((m : Int) + 1 == 0) = false := by rw [beq_eq_false_iff_ne]; omega
  have z2 : ¬ (m : Int) + 1 = 0 := by omega
  have t1 : (hd + m).tdiv ((m : Int) + 1) = (hd + m) / ((m : Int) + 1) := Int.tdiv_eq_ediv_of_nonneg (by omega)
  generalize (hd + m) / ((m : Int) + 1) = Q at *
  have u4 := IntWalk.u64_in Q ⟨by omega, by omega⟩
  have u5 := IntWalk.u64_in (sc + Q) ⟨by omega, by omega⟩
  have B : Hid (Below w.heap.size w (w.alloc (.cells #[.int .i64 i, .int .u32 nc, .int .u64 sc, .int .u64 hd, .slice a m c] 53))) := (Below.refl _ w).alloc (Nat.le_refl _) _
  have X : Hid (Cs w.heap.size [.int .i64 i, .int .u32 nc, .int .u64 sc, .int .u64 hd, .slice a m c] (w.alloc (.cells #[.int .i64 i, .int .u32 nc, .int .u64 sc, .int .u64 hd, .slice a m c] 53))) := Cs.new w _ _
  go_enter Try.func31, Try.ntmps31
  go_upto_region 1 with fail
  generalize (w.alloc (.cells #[.int .i64 i, .int .u32 nc, .int .u64 sc, .int .u64 hd, .slice a m c] 53)) = w1 at *
  have B2 := Lib.hid (show Below w.heap.size w w1.drew from B.out.drew)
  generalize w.heap.size = b at X ⊢
  have x2 := X.out.cell 2 _ rfl
  have x3 := X.out.cell 3 _ rfl
  have x4 := X.out.cell 4 _ rfl
  have xl := X.out.lt
  clear X
  go_wp2_with fail
  go_region
  go_wp2
  rw [HU.out]
  refine bodyPost_ret (v := (.int .u64 (sc + Q))) (by simp [results, Try.results31, go_sem, *]) rfl ?_
  exact ⟨rfl, B2.out⟩
theorem nilS_n : nilS.n = 0 := rfl
theorem Ds.n {g : Nat} {V : Nat → Sl} {k : Nat → It} {w : World} (h : Ds g V k w) (i : Nat) : (V i).n = (k i).who.length := erow_n (h.who i)
def UntilPost (k : Nat → It) (i : Int) (w : World) (e : Ending) (w' : World) : Prop := e = .returned (.tuple #[.int .u64 (untilV k i), .bool (suspI k i)]) ∧ Below w.heap.size w w'
set_option maxHeartbeats 1600000 in
theorem duntil_any (i : Int) (g : Nat) (V : Nat → Sl) (k : Nat → It) (w : World) (h : Ds g V k w) : Calls Try.prog 20 #[.pointer (some ⟨g, 0, none⟩), .int .i64 i] w (UntilPost k i w) := by
  have K := susp_any i g V k w h
  have gl := h.glt
  have HI := Lib.hid (suspI_iff (k := k) (i := i))
  have HU : Hid (untilV k i = if suspI k i = true then untilI (k i.toNat) else 0) := rfl
  unfold UntilPost
  generalize untilV k i = U at *
  generalize suspI k i = q at *
  cases q with
  | false =>
    have e0 : U = 0 := by rw [HU.out]; rfl
    subst e0
    go_enter Try.func20, Try.ntmps20
    go_wp2_with fail
    refine K.mono ?_; rintro e w1 ⟨rfl, rfl⟩
    go_wp2
    refine bodyPost_ret (v := (.tuple #[.int .u64 0, .bool false])) (by simp [results, Try.results20, go_sem, *]) rfl ?_
    exact ⟨rfl, Below.refl _ _⟩
  | true =>
    have hi := HI.out.1 rfl
    obtain ⟨n, rfl⟩ : ∃ n : Nat, i = n := ⟨i.toNat, by omega⟩
    have hn : n < 33 := by omega
    have hn' : (n : Int) < 33 := by omega
    have hn0 : (0 : Int) ≤ n := by omega
    have e0 : U = untilI (k n) := by rw [HU.out]; rfl
    subst e0
    have c0 := h.cell n hn 0 _ rfl
    have c1 := h.cell n hn 1 _ rfl
    have c2 := h.cell n hn 2 _ rfl
    have c3 := h.cell n hn 3 _ rfl
    have c4 := h.cell n hn 4 _ rfl
    simp only [Nat.add_zero] at c0
    have KU := until_any (k n) (V n) (h.n n) (h.ok.num n)
    clear h HI hi HU
    generalize untilI (k n) = U at *
    generalize k n = x at *
    generalize V n = s at *
    go_enter Try.func20, Try.ntmps20
    go_wp2_with fail
    refine K.mono ?_; rintro e w1 ⟨rfl, rfl⟩
    go_wp2_with fail
    refine (KU _).mono ?_; rintro e w1 ⟨rfl, b1⟩
    go_wp2
    refine bodyPost_ret (v := (.tuple #[.int .u64 U, .bool true])) (by simp [results, Try.results20, go_sem, *]) rfl ?_
    exact ⟨rfl, b1⟩
def BeginPost (g : Nat) (V : Nat → Sl) (k : Nat → It) (i inc now hold : Int) (w : World) (e : Ending) (w' : World) : Prop := e = .returned (.int .i64 (beginE k i inc now hold)) ∧ DAft g V (beginD k i inc now hold) w w'
set_option maxHeartbeats 3200000 in
theorem begin_any (i inc now hold : Int) (hn : 0 ≤ now) (hh : 0 ≤ hold) (g : Nat) (V : Nat → Sl) (k : Nat → It) (w : World) (h : Ds g V k w) :
    Calls Try.prog 18 #[.pointer (some ⟨g, 0, none⟩), .int .i64 i, .int .u32 inc, .int .u64 now, .int .u64 hold] w (BeginPost g V k i inc now hold w) := by
  have K1 := node_any i
  have K2 := susp_any i g V k w h
  have gl := h.glt
  unfold BeginPost
  have HE : Hid (beginE k i inc now hold = if argB i now hold = true then 1 else if suspI k i = true ∧ inc ≤ (k i.toNat).inc then 6 else 0) := rfl
  have HD : Hid (beginD k i inc now hold = if beginE k i inc now hold = 0 then updD k i.toNat ⟨i, inc, now, hold, []⟩ else k) := rfl
  have HB := Lib.hid (begin_ok h.ok i inc now hold hn hh)
  have SAME := Lib.hid (h.same (Below.refl _ _))
  cases ha : argB i now hold with
  | true =>
    have e1 : beginE k i inc now hold = 1 := by rw [HE.out, if_pos ha]
    have e2 : beginD k i inc now hold = k := by rw [HD.out, if_neg (by rw [e1]; decide)]
    rw [e1, e2]
    unfold argB at ha
    clear HE HD HB K2 e1 e2
    cases q : nodeI i with
    | false =>
      rw [q] at K1
      go_enter Try.func18, Try.ntmps18
      go_wp2_with fail
      refine (K1 _).mono ?_; rintro e w1 ⟨rfl, rfl⟩
      go_wp2
      refine bodyPost_ret (v := (.int .i64 1)) (by simp [results, Try.results18, go_sem, *]) rfl ?_
      exact ⟨rfl, SAME.out⟩
    | true =>
      rw [q] at ha K1
      by_cases c1 : 4611686018427387904 < now
      · have d1 : decide (4611686018427387904 < now) = true := decide_eq_true c1
        clear ha c1
        go_enter Try.func18, Try.ntmps18
        go_wp2_with fail
        refine (K1 _).mono ?_; rintro e w1 ⟨rfl, rfl⟩
        go_wp2
        refine bodyPost_ret (v := (.int .i64 1)) (by simp [results, Try.results18, go_sem, *]) rfl ?_
        exact ⟨rfl, SAME.out⟩
      · have d1 : decide (4611686018427387904 < now) = false := decide_eq_false c1
        by_cases c2 : hold = 0
        · have d2 : (hold == 0) = true := beq_iff_eq.2 c2
          clear ha c1 c2
          go_enter Try.func18, Try.ntmps18
          go_wp2_with fail
          refine (K1 _).mono ?_; rintro e w1 ⟨rfl, rfl⟩
          go_wp2
          refine bodyPost_ret (v := (.int .i64 1)) (by simp [results, Try.results18, go_sem, *]) rfl ?_
          exact ⟨rfl, SAME.out⟩
        · have d2 : (hold == 0) = false := beq_eq_false_iff_ne.2 c2
          have d3 : decide (1000000 < hold) = true := by
            rw [d1, d2] at ha
            simpa using ha
          clear ha c1 c2
          go_enter Try.func18, Try.ntmps18
          go_wp2_with fail
          refine (K1 _).mono ?_; rintro e w1 ⟨rfl, rfl⟩
          go_wp2
          refine bodyPost_ret (v := (.int .i64 1)) (by simp [results, Try.results18, go_sem, *]) rfl ?_
          exact ⟨rfl, SAME.out⟩
  | false =>
    obtain ⟨h1, h2, h3, h4, h5⟩ := begin_arg ha
    have q : nodeI i = true := nodeI_iff.2 ⟨h1, h2⟩
    rw [q] at K1
    have d1 : decide (4611686018427387904 < now) = false := decide_eq_false (by omega)
    have d2 : (hold == 0) = false := beq_eq_false_iff_ne.2 h4
    have d3 : decide (1000000 < hold) = false := decide_eq_false (by omega)
    obtain ⟨n, rfl⟩ : ∃ n : Nat, i = n := ⟨i.toNat, by omega⟩
    have hn1 : n < 33 := by omega
    have hn' : (n : Int) < 33 := by omega
    have hn0 : (0 : Int) ≤ n := by omega
    have c1 := h.cell n hn1 1 _ rfl
    simp only [Int.toNat_natCast] at HE HD
    have HOLD := Lib.hid h
    by_cases hq : suspI k n = true ∧ inc ≤ (k n).inc
    · have e1 : beginE k n inc now hold = 6 := by rw [HE.out, if_neg (by simp [ha]), if_pos hq]
      have e2 : beginD k n inc now hold = k := by rw [HD.out, if_neg (by rw [e1]; decide)]
      rw [e1, e2]
      rw [hq.1] at K2
      have d4 : decide (inc ≤ (k n).inc) = true := decide_eq_true hq.2
      clear HE HD HB e1 e2 h ha hq q HOLD h1 h2 h3 h4 h5
      generalize (k n).inc = y at *
      go_enter Try.func18, Try.ntmps18
      go_wp2_with fail
      refine (K1 _).mono ?_; rintro e w1 ⟨rfl, rfl⟩
      go_wp2_with fail
      refine K2.mono ?_; rintro e w1 ⟨rfl, rfl⟩
      go_wp2
      refine bodyPost_ret (v := (.int .i64 6)) (by simp [results, Try.results18, go_sem, *]) rfl ?_
      exact ⟨rfl, SAME.out⟩
    · have e1 : beginE k n inc now hold = 0 := by rw [HE.out, if_neg (by simp [ha]), if_neg hq]
      have e2 : beginD k n inc now hold = updD k n ⟨n, inc, now, hold, []⟩ := by rw [HD.out, if_pos e1]
      rw [e2] at HB
      rw [e1, e2]
      have ST := Lib.hid (h.store (x := ⟨n, inc, now, hold, []⟩) hn1 rfl HB.out)
      have fr := fun o => h.free o
      have c0 := h.cell n hn1 0 _ rfl
      have c2 := h.cell n hn1 2 _ rfl
      have c3 := h.cell n hn1 3 _ rfl
      have c4 := h.cell n hn1 4 _ rfl
      simp only [Nat.add_zero] at c0
      clear HE HD HB e1 e2 h ha q HOLD h1 h2 h3 h4 h5 SAME
      simp only [ci, nilS] at ST
      cases hs : suspI k n with
      | false =>
        rw [hs] at K2
        clear hq hs
        generalize k n = y at *
        generalize V n = s at *
        go_enter Try.func18, Try.ntmps18
        go_wp2_with fail
        refine (K1 _).mono ?_; rintro e w1 ⟨rfl, rfl⟩
        go_wp2_with fail
        refine K2.mono ?_; rintro e w1 ⟨rfl, rfl⟩
        go_wp2
        refine bodyPost_ret (v := (.int .i64 0)) (by simp [results, Try.results18, go_sem, *]) rfl ?_
        exact ⟨rfl, ST.out⟩
      | true =>
        rw [hs] at K2
        have d4 : decide (inc ≤ (k n).inc) = false := decide_eq_false (fun hc => hq ⟨hs, hc⟩)
        clear hq hs
        generalize k n = y at *
        generalize V n = s at *
        go_enter Try.func18, Try.ntmps18
        go_wp2_with fail
        refine (K1 _).mono ?_; rintro e w1 ⟨rfl, rfl⟩
        go_wp2_with fail
        refine K2.mono ?_; rintro e w1 ⟨rfl, rfl⟩
        go_wp2
        refine bodyPost_ret (v := (.int .i64 0)) (by simp [results, Try.results18, go_sem, *]) rfl ?_
        exact ⟨rfl, ST.out⟩
def ClearPost (g : Nat) (V : Nat → Sl) (k : Nat → It) (i inc : Int) (w : World) (e : Ending) (w' : World) : Prop := e = .returned (.bool (clearB k i inc)) ∧ DAft g V (clearD k i inc) w w'
set_option maxHeartbeats 3200000 in
theorem clear_any (i inc : Int) (g : Nat) (V : Nat → Sl) (k : Nat → It) (w : World) (h : Ds g V k w) :
    Calls Try.prog 13 #[.pointer (some ⟨g, 0, none⟩), .int .i64 i, .int .u32 inc] w (ClearPost g V k i inc w) := by
  have K2 := susp_any i g V k w h
  have gl := h.glt
  unfold ClearPost
  have HI := Lib.hid (suspI_iff (k := k) (i := i))
  have HE : Hid (clearB k i inc = (suspI k i && decide ((k i.toNat).inc < inc))) := rfl
  have HD : Hid (clearD k i inc = if clearB k i inc = true then updD k i.toNat zIt else k) := rfl
  have HB := Lib.hid (clear_ok h.ok i inc)
  have SAME := Lib.hid (h.same (Below.refl _ _))
  cases hs : suspI k i with
  | false =>
    have e1 : clearB k i inc = false := by rw [HE.out, hs]; rfl
    have e2 : clearD k i inc = k := by rw [HD.out, if_neg (by simp [e1])]
    rw [e1, e2]
    rw [hs] at K2
    clear HE HD HB HI e1 e2 hs
    go_enter Try.func13, Try.ntmps13
    go_wp2_with fail
    refine K2.mono ?_; rintro e w1 ⟨rfl, rfl⟩
    go_wp2
    refine bodyPost_ret (v := (.bool false)) (by simp [results, Try.results13, go_sem, *]) rfl ?_
    exact ⟨rfl, SAME.out⟩
  | true =>
    have hi := HI.out.1 hs
    obtain ⟨n, rfl⟩ : ∃ n : Nat, i = n := ⟨i.toNat, by omega⟩
    have hn1 : n < 33 := by omega
    have hn' : (n : Int) < 33 := by omega
    have hn0 : (0 : Int) ≤ n := by omega
    have c1 := h.cell n hn1 1 _ rfl
    simp only [Int.toNat_natCast] at HE HD
    rw [hs] at K2
    by_cases hq : inc ≤ (k n).inc
    · have e1 : clearB k n inc = false := by rw [HE.out, decide_eq_false (by omega), Bool.and_false]
      have e2 : clearD k n inc = k := by rw [HD.out, if_neg (by simp [e1])]
      rw [e1, e2]
      have d4 : decide (inc ≤ (k n).inc) = true := decide_eq_true hq
      clear HE HD HB HI e1 e2 hs h hi hq
      generalize (k n).inc = y at *
      go_enter Try.func13, Try.ntmps13
      go_wp2_with fail
      refine K2.mono ?_; rintro e w1 ⟨rfl, rfl⟩
      go_wp2
      refine bodyPost_ret (v := (.bool false)) (by simp [results, Try.results13, go_sem, *]) rfl ?_
      exact ⟨rfl, SAME.out⟩
    · have e1 : clearB k n inc = true := by rw [HE.out, hs, decide_eq_true (by omega)]; rfl
      have e2 : clearD k n inc = updD k n zIt := by rw [HD.out, if_pos e1]
      rw [e2] at HB
      rw [e1, e2]
      have d4 : decide (inc ≤ (k n).inc) = false := decide_eq_false hq
      have ST := Lib.hid (h.store (x := zIt) hn1 rfl HB.out)
      have fr := fun o => h.free o
      have c0 := h.cell n hn1 0 _ rfl
      have c2 := h.cell n hn1 2 _ rfl
      have c3 := h.cell n hn1 3 _ rfl
      have c4 := h.cell n hn1 4 _ rfl
      simp only [Nat.add_zero] at c0
      clear HE HD HB HI e1 e2 hs h hi hq SAME
      simp only [ci, nilS, zIt] at ST
      generalize k n = y at *
      generalize V n = s at *
      go_enter Try.func13, Try.ntmps13
      go_wp2_with fail
      refine K2.mono ?_; rintro e w1 ⟨rfl, rfl⟩
      go_wp2
      refine bodyPost_ret (v := (.bool true)) (by simp [results, Try.results13, go_sem, *]) rfl ?_
      exact ⟨rfl, ST.out⟩
end Go.Proofs.Ytplllaafllcigaa
