/- The program's: Open, Heard. -/
import Derived.Test.YtpeoallhbbleaaaPaCalls
namespace Go.Proofs.Ytpeoallhbbleaaa
open Go.Sort Go.RowKit Go.BigFrame
set_option linter.unusedVariables false
set_option linter.unusedSimpArgs false

def OpenPost (g : Nat) (k : Tk) (id : Int) (ip pt : Nat) (now : Int) (w : World) (e : Ending) (w' : World) : Prop := e = .returned (.int .i64 (openE id ip pt now)) ∧ TAft g (openD k id ip pt now) w w'
set_option maxHeartbeats 3200000 in
theorem open_any (id : Int) (ip pt : Nat) (now : Int) (hn : 0 ≤ now) (hi : ip < 4294967296) (hp : pt < 65536) (g : Nat) (k : Tk) (w : World) (h : Ts g k w) :
    Calls Try.prog 14 #[.pointer (some ⟨g, 0, none⟩), .int .i64 id, .agg #[.int .u32 ip, .int .u16 pt], .int .u64 now] w (OpenPost g k id ip pt now w) := by
  have B0 : Hid (Below w.heap.size w (w.alloc (.cells #[.int .u32 ip, .int .u16 pt] 35))) := (Below.refl _ w).alloc (Nat.le_refl _) _
  have K := node_any id (w.alloc (.cells #[.int .u32 ip, .int .u16 pt] 35))
  have K2 := none_any ip pt hi hp (w.alloc (.cells #[.int .u32 ip, .int .u16 pt] 35))
  have RO := open_ok h.ok id ip pt now hn hi hp
  have SAME := Lib.hid (fun w' (b : Below w.heap.size w w') => h.same b)
  have X := Lib.hid (Cs.new w [.int .u32 ip, .int .u16 pt] 35)
  unfold OpenPost
  unfold openD at RO ⊢
  cases hv : nodeI id with
  | false =>
    have hb := badC_lo (now := now) hv
    have e1 : openE id ip pt now = 1 := by unfold openE; rw [if_pos (.inl hb)]
    rw [e1, if_neg (by decide)]
    rw [hv] at K
    clear h hb e1 RO K2 hv X
    go_enter Try.func14, Try.ntmps14
    go_wp2_with fail
    refine K.mono ?_; rintro e w1 ⟨rfl, rfl⟩
    clear K
    go_wp2
    refine bodyPost_ret (v := (.int .i64 1)) (by simp [results, Try.results14, go_sem, *]) rfl ?_
    exact ⟨rfl, SAME.out _ B0.out⟩
  | true =>
    have hb := badC_hi (now := now) hv
    rw [hv] at K
    by_cases hl : 4611686018427387904 < now
    · rw [decide_eq_true hl] at hb
      have e1 : openE id ip pt now = 1 := by unfold openE; rw [if_pos (.inl hb)]
      have hl2 : decide (4611686018427387904 < now) = true := decide_eq_true hl
      rw [e1, if_neg (by decide)]
      clear h hb e1 RO K2 hv X
      go_enter Try.func14, Try.ntmps14
      go_wp2_with fail
      refine K.mono ?_; rintro e w1 ⟨rfl, rfl⟩
      clear K
      go_wp2
      refine bodyPost_ret (v := (.int .i64 1)) (by simp [results, Try.results14, go_sem, *]) rfl ?_
      exact ⟨rfl, SAME.out _ B0.out⟩
    · have hl2 : decide (4611686018427387904 < now) = false := decide_eq_false hl
      rw [hl2] at hb
      cases hc : noneI ip pt with
      | true =>
        have e1 : openE id ip pt now = 1 := by unfold openE; rw [if_pos (.inr hc)]
        rw [e1, if_neg (by decide)]
        rw [hc] at K2
        have x0 := X.out.cell 0 _ rfl
        have x1 := X.out.cell 1 _ rfl
        have xl := X.out.lt
        clear h hb e1 RO hv
        go_enter Try.func14, Try.ntmps14
        go_wp2_with fail
        refine K.mono ?_; rintro e w1 ⟨rfl, rfl⟩
        clear K
        go_wp2_with fail
        refine K2.mono ?_; rintro e w1 ⟨rfl, b1⟩
        have B1 : Hid (Below w.heap.size w w1) := B0.out.trans (b1.mono B0.out.size)
        clear K2 x0 x1 xl
        go_wp2
        refine bodyPost_ret (v := (.int .i64 1)) (by simp [results, Try.results14, go_sem, *]) rfl ?_
        exact ⟨rfl, SAME.out _ B1.out⟩
      | false =>
        have e1 : openE id ip pt now = 0 := by unfold openE; rw [if_neg (by rw [hb, hc]; simp)]
        rw [e1, if_pos rfl] at RO ⊢
        rw [hc] at K2
        have hb2 := nodeI_iff.1 hv
        obtain ⟨n, rfl⟩ : ∃ n : Nat, id = n := ⟨id.toNat, by omega⟩
        simp only [Int.toNat_natCast] at RO ⊢
        have H := Lib.hid h
        have ROH := Lib.hid RO
        have k0 := h.ok.k0
        have k1 := h.ok.k1
        have h0 := h.ok.h0
        have h1 := h.ok.h1
        have p1 := IntWalk.u64_in (now + k.keep) ⟨by omega, by omega⟩
        have p2 := IntWalk.u64_in (now + k.hold) ⟨by omega, by omega⟩
        have hn0 : (0 : Int) ≤ n := by omega
        have hn1 : (n : Int) < 33 := by omega
        have hn2 : n < 33 := by omega
        have x0 := X.out.cell 0 _ rfl
        have x1 := X.out.cell 1 _ rfl
        have xl := X.out.lt
        clear h hb e1 hv hc RO
        go_enter Try.func14, Try.ntmps14
        go_wp2_with fail
        refine K.mono ?_; rintro e w1 ⟨rfl, rfl⟩
        clear K
        go_wp2_with fail
        refine K2.mono ?_; rintro e w1 ⟨rfl, b1⟩
        have B1 : Hid (Below w.heap.size w w1) := B0.out.trans (b1.mono B0.out.size)
        have H1 := Lib.hid (H.out.keep B1.out)
        have X1 := Lib.hid (X.out.keep b1)
        clear K2 b1 x0 x1 xl X H SAME B0
        go_upto_region 3 with fail
        generalize hxb : w.heap.size = xb at *
        have y0 := X1.out.cell 0 _ rfl
        have y1 := X1.out.cell 1 _ rfl
        have yl := X1.out.lt
        have c2 := H1.out.hd 2 _ rfl
        have c3 := H1.out.hd 3 _ rfl
        have fr := fun o => H1.out.free o
        have gl := H1.out.lt
        have d0 := H1.out.p n (by omega) 0 _ rfl
        have d1 := H1.out.p n (by omega) 1 _ rfl
        have d2 := H1.out.p n (by omega) 2 _ rfl
        have d3 := H1.out.p n (by omega) 3 _ rfl
        have d4 := H1.out.p n (by omega) 4 _ rfl
        have d5 := H1.out.p n (by omega) 5 _ rfl
        have d6 := H1.out.p n (by omega) 6 _ rfl
        simp only [Nat.add_zero] at d0
        have F : Hid (TAft g (setP k n ⟨n, 3, 0, ip, pt, now + k.keep, now + k.hold⟩) w (w1.setCells g (4 + n * 7) (cp ⟨n, 3, 0, ip, pt, now + k.keep, now + k.hold⟩)).drew) :=
          ((H1.out.put (i := n) (by omega) _ ROH.out).after (by rw [hxb]; exact B1.out : Below w.heap.size w w1)).then_ (Below.refl _ _).drew
        simp only [cp, World.setCells, Nat.add_assoc, Nat.reduceAdd, Int.natCast_zero, Int.ofNat_zero, Int.cast_ofNat_Int] at F
        clear H1 B1 X1
        go_region
        all_goals go_wp2
        all_goals (refine bodyPost_ret (v := (.int .i64 0)) (by simp [results, Try.results14, go_sem, *]) rfl ?_)
        all_goals exact ⟨rfl, F.out⟩
def HeardPost (g : Nat) (k : Tk) (id : Int) (ip pt : Nat) (now : Int) (w : World) (e : Ending) (w' : World) : Prop := e = .returned (.bool (heardB k id ip pt now)) ∧ TAft g (heardD k id ip pt now) w w'
set_option maxHeartbeats 3200000 in
theorem heard_any (id : Int) (ip pt : Nat) (now : Int) (hn : 0 ≤ now) (g : Nat) (k : Tk) (w : World) (h : Ts g k w) :
    Calls Try.prog 17 #[.pointer (some ⟨g, 0, none⟩), .int .i64 id, .agg #[.int .u32 ip, .int .u16 pt], .int .u64 now] w (HeardPost g k id ip pt now w) := by
  have B0 : Hid (Below w.heap.size w (w.alloc (.cells #[.int .u32 ip, .int .u16 pt] 35))) := (Below.refl _ w).alloc (Nat.le_refl _) _
  have K := node_any id (w.alloc (.cells #[.int .u32 ip, .int .u16 pt] 35))
  have RO := heard_ok h.ok id ip pt now hn
  have SAME := Lib.hid (fun w' (b : Below w.heap.size w w') => h.same b)
  have X := Lib.hid (Cs.new w [.int .u32 ip, .int .u16 pt] 35)
  unfold HeardPost
  unfold heardD at RO ⊢
  cases hv : nodeI id with
  | false =>
    have hb := badC_lo (now := now) hv
    have e1 : heardB k id ip pt now = false := by unfold heardB; rw [hb]; rfl
    rw [e1, if_neg (by decide)]
    rw [hv] at K
    clear h hb e1 RO hv X
    go_enter Try.func17, Try.ntmps17
    go_wp2_with fail
    refine K.mono ?_; rintro e w1 ⟨rfl, rfl⟩
    clear K
    go_wp2
    refine bodyPost_ret (v := (.bool false)) (by simp [results, Try.results17, go_sem, *]) rfl ?_
    exact ⟨rfl, SAME.out _ B0.out⟩
  | true =>
    have hb := badC_hi (now := now) hv
    rw [hv] at K
    by_cases hl : 4611686018427387904 < now
    · rw [decide_eq_true hl] at hb
      have e1 : heardB k id ip pt now = false := by unfold heardB; rw [hb]; rfl
      have hl2 : decide (4611686018427387904 < now) = true := decide_eq_true hl
      rw [e1, if_neg (by decide)]
      clear h hb e1 RO hv X
      go_enter Try.func17, Try.ntmps17
      go_wp2_with fail
      refine K.mono ?_; rintro e w1 ⟨rfl, rfl⟩
      clear K
      go_wp2
      refine bodyPost_ret (v := (.bool false)) (by simp [results, Try.results17, go_sem, *]) rfl ?_
      exact ⟨rfl, SAME.out _ B0.out⟩
    · have hl2 : decide (4611686018427387904 < now) = false := decide_eq_false hl
      rw [hl2] at hb
      have hb2 := nodeI_iff.1 hv
      obtain ⟨n, rfl⟩ : ∃ n : Nat, id = n := ⟨id.toNat, by omega⟩
      obtain ⟨x, hx⟩ : ∃ x, k.p n = x := ⟨_, rfl⟩
      have H := Lib.hid (h.keep B0.out)
      have hn0 : (0 : Int) ≤ n := by omega
      have hn1 : (n : Int) < 33 := by omega
      have hn2 : n < 33 := by omega
      have fr := fun o => H.out.free o
      have gl := H.out.lt
      have gl0 := h.lt
      have x0 := X.out.cell 0 _ rfl
      have x1 := X.out.cell 1 _ rfl
      have xl := X.out.lt
      have c1 := H.out.p n hn2 1 _ rfl
      have c3 := H.out.p n hn2 3 _ rfl
      have c4 := H.out.p n hn2 4 _ rfl
      have e0 : heardB k n ip pt now = (x.st == 3 && (decide (x.ip = ip) && decide (x.pt = pt))) := by unfold heardB; rw [hb, Int.toNat_natCast, hx]; rfl
      rw [e0] at RO ⊢
      rw [hx] at c1 c3 c4
      rw [Int.toNat_natCast] at RO ⊢
      clear hb hv
      by_cases h3 : x.st = 3
      · have h3' : (x.st == 3) = true := beq_iff_eq.2 h3
        rw [h3'] at RO ⊢
        rw [Bool.true_and] at RO ⊢
        have nb := h.ok.num n
        rw [hx] at nb
        have nip := nb.ip
        have npt := nb.pt
        by_cases ha : x.ip = ip ∧ x.pt = pt
        · rw [decide_eq_true ha.1, decide_eq_true ha.2, if_pos (by decide)] at RO ⊢
          have k3 := H.out.hd 3 _ rfl
          have h0 := h.ok.h0
          have h1 := h.ok.h1
          have p2 := IntWalk.u64_in (now + k.hold) ⟨by omega, by omega⟩
          have c6 := H.out.p n hn2 6 _ rfl
          have F := Lib.hid (fun nq => ((H.out.keep (below_drewN (Below.refl _ _) nq)).set (i := n) (j := 6) hn2 (by omega) { k.p n with un := now + k.hold } (.int .u64 (now + k.hold)) rfl RO).after (below_drewN B0.out nq))
          rw [h3] at c1
          obtain ⟨ha1, ha2⟩ := ha
          rw [ha1] at c3
          rw [ha2] at c4
          rw [hx] at c6 F ⊢
          clear RO h H e0 X B0 nb nip npt ha1 ha2 hx h3'
          go_enter Try.func17, Try.ntmps17
          go_wp2_with fail
          refine K.mono ?_; rintro e w1 ⟨rfl, rfl⟩
          clear K
          go_upto_region 4 with fail
          go_quiet (fail)
          go_wp2
          refine bodyPost_ret (v := (.bool true)) (by simp [results, Try.results17, go_sem, *]) rfl ?_
          exact ⟨rfl, F.out _⟩
        · have hne : (decide (x.ip = ip) && decide (x.pt = pt)) = false := by
            cases hq : decide (x.ip = ip) && decide (x.pt = pt) with
            | false => rfl
            | true => rw [Bool.and_eq_true, decide_eq_true_eq, decide_eq_true_eq] at hq; exact absurd hq ha
          rw [hne, if_neg (by decide)]
          have hne2 : (decide (ip = x.ip) && decide (pt = x.pt)) = false := by
            rw [show decide (ip = x.ip) = decide (x.ip = ip) from decide_eq_decide.2 eq_comm, show decide (pt = x.pt) = decide (x.pt = pt) from decide_eq_decide.2 eq_comm]; exact hne
          rw [h3] at c1
          clear RO h H e0 X nb hx h3'
          by_cases hq : x.ip = ip
          · have hq2 : ¬ x.pt = pt := fun e => ha ⟨hq, e⟩
            have hq3 : (((x.pt : Int)) == (pt : Int)) = false := beq_eq_false_iff_ne.2 (by omega)
            rw [hq] at c3
            go_enter Try.func17, Try.ntmps17
            go_wp2_with fail
            refine K.mono ?_; rintro e w1 ⟨rfl, rfl⟩
            clear K
            go_upto_region 4 with fail
            go_quiet (fail)
            go_wp2
            refine bodyPost_ret (v := (.bool false)) (by simp [results, Try.results17, go_sem, *]) rfl ?_
            exact ⟨rfl, SAME.out _ (below_drewN B0.out _)⟩
          · have hq3 : (((x.ip : Int)) == (ip : Int)) = false := beq_eq_false_iff_ne.2 (by omega)
            go_enter Try.func17, Try.ntmps17
            go_wp2_with fail
            refine K.mono ?_; rintro e w1 ⟨rfl, rfl⟩
            clear K
            go_upto_region 4 with fail
            go_quiet (fail)
            go_wp2
            refine bodyPost_ret (v := (.bool false)) (by simp [results, Try.results17, go_sem, *]) rfl ?_
            exact ⟨rfl, SAME.out _ (below_drewN B0.out _)⟩
      · have h3' : (x.st == 3) = false := beq_eq_false_iff_ne.2 h3
        rw [h3', Bool.false_and, if_neg (by decide)]
        clear RO h H e0 X hx
        go_enter Try.func17, Try.ntmps17
        go_wp2_with fail
        refine K.mono ?_; rintro e w1 ⟨rfl, rfl⟩
        clear K
        go_upto_region 4 with fail
        go_quiet (fail)
        go_wp2
        refine bodyPost_ret (v := (.bool false)) (by simp [results, Try.results17, go_sem, *]) rfl ?_
        exact ⟨rfl, SAME.out _ (below_drewN B0.out _)⟩
end Go.Proofs.Ytpeoallhbbleaaa
