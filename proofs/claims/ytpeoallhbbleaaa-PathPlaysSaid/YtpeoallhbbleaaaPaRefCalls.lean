/- The reference's: Want, Open, Heard. -/
import Derived.Test.YtpeoallhbbleaaaPaRefSet
namespace Go.Proofs.Ytpeoallhbbleaaa
open Go.Sort Go.RowKit Go.BigFrame
set_option linter.unusedVariables false
set_option linter.unusedSimpArgs false

def RWantPost (g : Nat) (u : Sl) (k : Tk) (id now : Int) (w : World) (e : Ending) (w' : World) : Prop := e = .returned (.int .i64 (wantE k id now)) ∧ QAft g u (wantD k id now) w w'
set_option maxHeartbeats 3200000 in
theorem rwant_any (id now : Int) (hn : 0 ≤ now) (g : Nat) (u : Sl) (k : Tk) (w : World) (h : Qs g u k w) :
    Calls Try.prog 13 #[.pointer (some ⟨g, 0, none⟩), .int .i64 id, .int .u64 now] w (RWantPost g u k id now w) := by
  have K1 := rbad_any id now w
  have K := find_any id g u k w h
  have RO := want_ok h.ok id now hn
  have SAME := Lib.hid (fun w1 hb => h.same (w' := w1) hb)
  unfold RWantPost
  unfold wantD at RO ⊢
  cases hb : badC id now with
  | true =>
    have e1 : wantE k id now = 1 := by unfold wantE; rw [if_pos hb]
    rw [e1, if_neg (by decide)]
    rw [hb] at K1
    clear h hb e1 RO K
    go_enter Try.func13, Try.ntmps13
    go_wp2_with fail
    refine K1.mono ?_; rintro e w1 ⟨rfl, rfl⟩
    go_wp2
    refine bodyPost_ret (v := (.int .i64 1)) (by simp [results, Try.results13, go_sem, *]) rfl ?_
    exact ⟨rfl, SAME.out _ (Below.refl _ _)⟩
  | false =>
    rw [hb] at K1
    cases hc : isP k id with
    | true =>
      have e1 : wantE k id now = 6 := by unfold wantE; rw [if_neg (by rw [hb]; decide), if_pos hc]
      rw [e1, if_neg (by decide)]
      rw [hc] at K
      clear h hb e1 RO
      generalize atL id (allP k.p) = m at *
      go_enter Try.func13, Try.ntmps13
      go_wp2_with fail
      refine K1.mono ?_; rintro e w1 ⟨rfl, rfl⟩
      go_wp2_with fail
      refine K.mono ?_; rintro e w1 ⟨rfl, b1⟩
      go_wp2
      refine bodyPost_ret (v := (.int .i64 6)) (by simp [results, Try.results13, go_sem, *]) rfl ?_
      exact ⟨rfl, SAME.out _ b1⟩
    | false =>
      have e1 : wantE k id now = 0 := by unfold wantE; rw [if_neg (by rw [hb]; decide), if_neg (by rw [hc]; decide)]
      rw [e1, if_pos rfl] at RO ⊢
      rw [hc] at K
      have hb2 := (badC_no hb).1
      obtain ⟨n, rfl⟩ : ∃ n : Nat, id = n := ⟨id.toNat, by omega⟩
      rw [Int.toNat_natCast] at RO ⊢
      have KS := Lib.hid (fun w1 (b : Below w.heap.size w w1) => rset_any n ⟨n, 2, 0, 0, 0, now, 0⟩ (by omega) rfl rfl g u k w1 (h.keep b) RO)
      simp only [cp, Int.natCast_zero, Int.ofNat_zero, Int.cast_ofNat_Int] at KS
      clear h hb e1 RO hc SAME
      generalize atL n (allP k.p) = m at *
      go_enter Try.func13, Try.ntmps13
      go_wp2_with fail
      refine K1.mono ?_; rintro e w1 ⟨rfl, rfl⟩
      go_wp2_with fail
      refine K.mono ?_; rintro e w1 ⟨rfl, b1⟩
      have KT := KS.out _ b1
      go_wp2_with fail
      refine KT.mono ?_; rintro e w2 ⟨rfl, q⟩
      have Q1 := Lib.hid (q.after b1)
      clear KT KS q b1
      go_wp2
      refine bodyPost_ret (v := (.int .i64 0)) (by simp [results, Try.results13, go_sem, *]) rfl ?_
      exact ⟨rfl, Q1.out⟩
def ROpenPost (g : Nat) (u : Sl) (k : Tk) (id : Int) (ip pt : Nat) (now : Int) (w : World) (e : Ending) (w' : World) : Prop := e = .returned (.int .i64 (openE id ip pt now)) ∧ QAft g u (openD k id ip pt now) w w'
set_option maxHeartbeats 6400000 in
set_option maxRecDepth 20000 in
theorem ropen_any (id : Int) (ip pt : Nat) (now : Int) (hn : 0 ≤ now) (hi : ip < 4294967296) (hp : pt < 65536) (g : Nat) (u : Sl) (k : Tk) (w : World) (h : Qs g u k w) :
    Calls Try.prog 15 #[.pointer (some ⟨g, 0, none⟩), .int .i64 id, .agg #[.int .u32 ip, .int .u16 pt], .int .u64 now] w (ROpenPost g u k id ip pt now w) := by
  have B0 : Hid (Below w.heap.size w (w.alloc (.cells #[.int .u32 ip, .int .u16 pt] 42))) := (Below.refl _ w).alloc (Nat.le_refl _) _
  have X := Lib.hid (Cs.new w [.int .u32 ip, .int .u16 pt] 42)
  have K0 := rnone_any ip pt hi hp (w.alloc (.cells #[.int .u32 ip, .int .u16 pt] 42))
  have K1 := fun w => rbad_any id now w
  have RO := open_ok h.ok id ip pt now hn hi hp
  have SAME := Lib.hid (fun w1 hb => h.same (w' := w1) hb)
  have x0 := X.out.cell 0 _ rfl
  have x1 := X.out.cell 1 _ rfl
  have xl := X.out.lt
  unfold ROpenPost
  unfold openD at RO ⊢
  cases hb : badC id now with
  | true =>
    have e1 : openE id ip pt now = 1 := by unfold openE; rw [if_pos (.inl hb)]
    rw [e1, if_neg (by decide)]
    rw [hb] at K1
    generalize noneI ip pt = nn at *
    clear h hb e1 RO X
    go_enter Try.func15, Try.ntmps15
    go_wp2_with fail
    refine K0.mono ?_; rintro e w1 ⟨rfl, b1⟩
    have B1 : Hid (Below w.heap.size w w1) := B0.out.trans (b1.mono B0.out.size)
    clear K0 x0 x1 xl
    go_wp2_with fail
    refine (K1 _).mono ?_; rintro e w2 ⟨rfl, rfl⟩
    go_wp2
    refine bodyPost_ret (v := (.int .i64 1)) (by simp [results, Try.results15, go_sem, *]) rfl ?_
    exact ⟨rfl, SAME.out _ B1.out⟩
  | false =>
    rw [hb] at K1
    cases hc : noneI ip pt with
    | true =>
      have e1 : openE id ip pt now = 1 := by unfold openE; rw [if_pos (.inr hc)]
      rw [e1, if_neg (by decide)]
      rw [hc] at K0
      clear h hb e1 RO X
      go_enter Try.func15, Try.ntmps15
      go_wp2_with fail
      refine K0.mono ?_; rintro e w1 ⟨rfl, b1⟩
      have B1 : Hid (Below w.heap.size w w1) := B0.out.trans (b1.mono B0.out.size)
      clear K0 x0 x1 xl
      go_wp2_with fail
      refine (K1 _).mono ?_; rintro e w2 ⟨rfl, rfl⟩
      go_wp2
      refine bodyPost_ret (v := (.int .i64 1)) (by simp [results, Try.results15, go_sem, *]) rfl ?_
      exact ⟨rfl, SAME.out _ B1.out⟩
    | false =>
      have e1 : openE id ip pt now = 0 := by unfold openE; rw [if_neg (by rw [hb, hc]; simp)]
      rw [e1, if_pos rfl] at RO ⊢
      rw [hc] at K0
      have hb2 := badC_no hb
      obtain ⟨n, rfl⟩ : ∃ n : Nat, id = n := ⟨id.toNat, by omega⟩
      rw [Int.toNat_natCast] at RO ⊢
      have k0 := h.ok.k0
      have k1 := h.ok.k1
      have h0 := h.ok.h0
      have h1 := h.ok.h1
      have p1 := IntWalk.u64_in (now + k.keep) ⟨by omega, by omega⟩
      have p2 := IntWalk.u64_in (now + k.hold) ⟨by omega, by omega⟩
      have KS : Hid (∀ w1, Below w.heap.size w w1 → Cs w.heap.size [.int .u32 ip, .int .u16 pt] w1 → Calls Try.prog 31 #[.pointer (some ⟨g, 0, none⟩), .agg (cp ⟨n, 3, 0, ip, pt, now + k.keep, now + k.hold⟩).toArray] w1 (fun e w' => e = .returned (.tuple #[]) ∧ QAft g u (setP k n ⟨n, 3, 0, ip, pt, now + k.keep, now + k.hold⟩) w w' ∧ (w'.cell? ⟨w.heap.size, 0, none⟩ = some (.int .u32 ip) ∧ w'.cell? ⟨w.heap.size, 1, none⟩ = some (.int .u16 pt) ∧ w'.cell? ⟨g, 2, none⟩ = some (.int .u64 k.keep) ∧ w'.cell? ⟨g, 3, none⟩ = some (.int .u64 k.hold)))) := fun w1 b hx =>
        (rset_any n ⟨n, 3, 0, ip, pt, now + k.keep, now + k.hold⟩ (by omega) rfl rfl g u k w1 (h.keep b) RO).mono fun e w' ⟨h1, h2⟩ => ⟨h1, h2.after b, by
          obtain ⟨u', q1, q2, q3⟩ := h2
          have hx2 := hx.touch q2 (fun e => by have := h.lt _ e; omega)
          exact ⟨hx2.cell 0 _ rfl, hx2.cell 1 _ rfl, q1.box.cell 2 _ rfl, q1.box.cell 3 _ rfl⟩⟩
      simp only [cp, Int.natCast_zero, Int.ofNat_zero, Int.cast_ofNat_Int] at KS
      have HB := Lib.hid (fun w1 (b : Below w.heap.size w w1) => h.box.keep b)
      clear h hb e1 RO hc SAME hb2 k0 k1 h0 h1
      go_enter Try.func15, Try.ntmps15
      go_wp2_with fail
      refine K0.mono ?_; rintro e w1 ⟨rfl, b1⟩
      have B1 : Hid (Below w.heap.size w w1) := B0.out.trans (b1.mono B0.out.size)
      have X1 := Lib.hid (X.out.keep b1)
      clear K0 x0 x1 xl X b1 B0
      go_wp2_with fail
      refine (K1 _).mono ?_; rintro e w2 ⟨rfl, rfl⟩
      clear K1
      have SA : Hid (Below w.heap.size w w1.drew) := B1.out.drew
      have MK : Hid (w1.drew.cell? ⟨w.heap.size, 0, none⟩ = some (.int .u32 ip) ∧ w1.drew.cell? ⟨w.heap.size, 1, none⟩ = some (.int .u16 pt) ∧ w1.drew.cell? ⟨g, 2, none⟩ = some (.int .u64 k.keep) ∧ w1.drew.cell? ⟨g, 3, none⟩ = some (.int .u64 k.hold)) :=
        ⟨X1.out.cell 0 _ rfl, X1.out.cell 1 _ rfl, (HB.out _ B1.out).cell 2 _ rfl, (HB.out _ B1.out).cell 3 _ rfl⟩
      have XD := Lib.hid (X1.out.drew)
      clear X1 HB B1
      generalize hxb : w.heap.size = xb at *
      go_upto_region 4 with fail
      go_region_held (fun w' => w'.cell? ⟨xb, 0, none⟩ = some (.int .u32 ip) ∧ w'.cell? ⟨xb, 1, none⟩ = some (.int .u16 pt) ∧ w'.cell? ⟨g, 2, none⟩ = some (.int .u64 k.keep) ∧ w'.cell? ⟨g, 3, none⟩ = some (.int .u64 k.hold)) (first | exact MK.out | exact MB.out) (first | (go_at_call 31; refine (KS.out _ SA.out XD.out).mono ?_; rintro e wA ⟨rfl, q, mb⟩; have Q1 := Lib.hid q; have MB := Lib.hid mb; clear q mb) | fail)
      all_goals go_wp2
      all_goals (refine bodyPost_ret (v := (.int .i64 0)) (by simp [results, Try.results15, go_sem, *]) rfl ?_)
      all_goals exact ⟨rfl, Q1.out⟩
end Go.Proofs.Ytpeoallhbbleaaa
