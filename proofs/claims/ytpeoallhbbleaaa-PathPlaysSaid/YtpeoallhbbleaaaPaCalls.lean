/- The program's: Of, Want, Open, Heard. -/
import Derived.Test.YtpeoallhbbleaaaPaSmall
namespace Go.Proofs.Ytpeoallhbbleaaa
open Go.Sort Go.RowKit Go.BigFrame
set_option linter.unusedVariables false
set_option linter.unusedSimpArgs false

def OfPost (k : Tk) (id : Int) (w : World) (e : Ending) (w' : World) : Prop := e = .returned (.tuple #[.agg (cp (ofX k id)).toArray, .bool (isP k id)]) ∧ Below w.heap.size w w'
set_option maxHeartbeats 1600000 in
theorem of_any (id : Int) (g : Nat) (k : Tk) (w : World) (h : Ts g k w) :
    Calls Try.prog 25 #[.pointer (some ⟨g, 0, none⟩), .int .i64 id] w (OfPost k id w) := by
  have K := isP_any id g k _ (h.keep ((Below.refl _ w).alloc (Nat.le_refl _) (.cells (cp zP).toArray 61)))
  unfold OfPost ofX
  simp only [cp, zP] at K
  cases hc : isP k id with
  | false =>
    rw [hc] at K
    rw [if_neg (by decide)]
    clear h hc
    simp only [cp, zP]
    go_enter Try.func25, Try.ntmps25
    go_wp2_with fail
    refine K.mono ?_; rintro e w1 ⟨rfl, rfl⟩
    clear K
    go_wp2
    refine bodyPost_ret (v := (.tuple #[.agg #[.int .i64 0, .int .i64 0, .int .i64 0, .int .u32 0, .int .u16 0, .int .u64 0, .int .u64 0], .bool false])) (by simp [results, Try.results25, go_sem, *]) rfl ?_
    exact ⟨rfl, by (repeat (first | with_reducible exact Below.refl _ _ | with_reducible refine Below.drew ?_ | with_reducible refine below_drewN ?_ _ | with_reducible refine Below.alloc ?_ (by first | omega | (simp; done) | (simp; omega)) _ | with_reducible refine Below.setCell ?_ (by first | omega | (simp; done) | (simp; omega)) _))⟩
  | true =>
    obtain ⟨n, rfl, h1, h2, h3⟩ := isP_node hc
    rw [if_pos rfl]
    simp only [Int.toNat_natCast]
    have hn0 : (0 : Int) ≤ n := by omega
    have hn1 : (n : Int) < 33 := by omega
    have hn2 : n < 33 := by omega
    have gl := h.lt
    rw [hc] at K
    have c0 := h.p n (by omega) 0 _ rfl
    have c1 := h.p n (by omega) 1 _ rfl
    have c2 := h.p n (by omega) 2 _ rfl
    have c3 := h.p n (by omega) 3 _ rfl
    have c4 := h.p n (by omega) 4 _ rfl
    have c5 := h.p n (by omega) 5 _ rfl
    have c6 := h.p n (by omega) 6 _ rfl
    simp only [Nat.add_zero] at c0
    generalize k.p n = x at *
    obtain ⟨x1, x2, x3, x4, x5, x6, x7⟩ := x
    simp only [cp] at c0 c1 c2 c3 c4 c5 c6 ⊢
    clear h hc
    go_enter Try.func25, Try.ntmps25
    go_wp2_with fail
    refine K.mono ?_; rintro e w1 ⟨rfl, rfl⟩
    clear K
    go_wp2
    refine bodyPost_ret (v := (.tuple #[.agg #[.int .i64 x1, .int .i64 x2, .int .i64 x3, .int .u32 x4, .int .u16 x5, .int .u64 x6, .int .u64 x7], .bool true])) (by simp [results, Try.results25, go_sem, *]) rfl ?_
    exact ⟨rfl, by (repeat (first | with_reducible exact Below.refl _ _ | with_reducible refine Below.drew ?_ | with_reducible refine below_drewN ?_ _ | with_reducible refine Below.alloc ?_ (by first | omega | (simp; done) | (simp; omega)) _ | with_reducible refine Below.setCell ?_ (by first | omega | (simp; done) | (simp; omega)) _))⟩
/-- what a call may not be asked of, tried ahead: two ways to be wrong -/
theorem badC_lo {id now : Int} (h : nodeI id = false) : badC id now = true := by unfold badC; rw [h]; rfl
theorem badC_hi {id now : Int} (h : nodeI id = true) : badC id now = decide (4611686018427387904 < now) := by unfold badC; rw [h]; rfl
def WantPost (g : Nat) (k : Tk) (id now : Int) (w : World) (e : Ending) (w' : World) : Prop := e = .returned (.int .i64 (wantE k id now)) ∧ TAft g (wantD k id now) w w'
set_option maxHeartbeats 1600000 in
theorem want_any (id now : Int) (hn : 0 ≤ now) (g : Nat) (k : Tk) (w : World) (h : Ts g k w) :
    Calls Try.prog 12 #[.pointer (some ⟨g, 0, none⟩), .int .i64 id, .int .u64 now] w (WantPost g k id now w) := by
  have K := node_any id w
  have K2 := isP_any id g k w h
  have RO := want_ok h.ok id now hn
  have SAME := Lib.hid (h.same (Below.refl _ _))
  unfold WantPost
  unfold wantD at RO ⊢
  cases hv : nodeI id with
  | false =>
    have hb := badC_lo (now := now) hv
    have e1 : wantE k id now = 1 := by unfold wantE; rw [if_pos hb]
    rw [e1, if_neg (by decide)]
    rw [hv] at K
    clear h hb e1 RO K2 hv
    go_enter Try.func12, Try.ntmps12
    go_wp2_with fail
    refine K.mono ?_; rintro e w1 ⟨rfl, rfl⟩
    clear K
    go_wp2
    refine bodyPost_ret (v := (.int .i64 1)) (by simp [results, Try.results12, go_sem, *]) rfl ?_
    exact ⟨rfl, SAME.out⟩
  | true =>
    have hb := badC_hi (now := now) hv
    rw [hv] at K
    by_cases hl : 4611686018427387904 < now
    · rw [decide_eq_true hl] at hb
      have e1 : wantE k id now = 1 := by unfold wantE; rw [if_pos hb]
      have hl2 : decide (4611686018427387904 < now) = true := decide_eq_true hl
      rw [e1, if_neg (by decide)]
      clear h hb e1 RO K2 hv
      go_enter Try.func12, Try.ntmps12
      go_wp2_with fail
      refine K.mono ?_; rintro e w1 ⟨rfl, rfl⟩
      clear K
      go_wp2
      refine bodyPost_ret (v := (.int .i64 1)) (by simp [results, Try.results12, go_sem, *]) rfl ?_
      exact ⟨rfl, SAME.out⟩
    · have hl2 : decide (4611686018427387904 < now) = false := decide_eq_false hl
      rw [hl2] at hb
      cases hc : isP k id with
      | true =>
        have e1 : wantE k id now = 6 := by unfold wantE; rw [if_neg (by rw [hb]; decide), if_pos hc]
        rw [e1, if_neg (by decide)]
        rw [hc] at K2
        clear h hb e1 RO hv
        go_enter Try.func12, Try.ntmps12
        go_wp2_with fail
        refine K.mono ?_; rintro e w1 ⟨rfl, rfl⟩
        clear K
        go_wp2_with fail
        refine K2.mono ?_; rintro e w1 ⟨rfl, rfl⟩
        clear K2
        go_wp2
        refine bodyPost_ret (v := (.int .i64 6)) (by simp [results, Try.results12, go_sem, *]) rfl ?_
        exact ⟨rfl, SAME.out⟩
      | false =>
        have e1 : wantE k id now = 0 := by unfold wantE; rw [if_neg (by rw [hb]; decide), if_neg (by rw [hc]; decide)]
        rw [e1, if_pos rfl] at RO ⊢
        rw [hc] at K2
        have hb2 := nodeI_iff.1 hv
        obtain ⟨n, rfl⟩ : ∃ n : Nat, id = n := ⟨id.toNat, by omega⟩
        simp only [Int.toNat_natCast] at RO ⊢
        have F := Lib.hid (h.put (i := n) (by omega) ⟨n, 2, 0, 0, 0, now, 0⟩ RO)
        have fr := fun o => h.free o
        have gl := h.lt
        simp only [cp, World.setCells] at F
        have hn0 : (0 : Int) ≤ n := by omega
        have hn1 : (n : Int) < 33 := by omega
        have hn2 : n < 33 := by omega
        have c0 := h.p n (by omega) 0 _ rfl
        have c1 := h.p n (by omega) 1 _ rfl
        have c2 := h.p n (by omega) 2 _ rfl
        have c3 := h.p n (by omega) 3 _ rfl
        have c4 := h.p n (by omega) 4 _ rfl
        have c5 := h.p n (by omega) 5 _ rfl
        have c6 := h.p n (by omega) 6 _ rfl
        simp only [Nat.add_zero] at c0
        clear h hb e1 hv hc RO
        go_enter Try.func12, Try.ntmps12
        go_wp2_with fail
        refine K.mono ?_; rintro e w1 ⟨rfl, rfl⟩
        clear K
        go_wp2_with fail
        refine K2.mono ?_; rintro e w1 ⟨rfl, rfl⟩
        clear K2
        go_wp2
        refine bodyPost_ret (v := (.int .i64 0)) (by simp [results, Try.results12, go_sem, *]) rfl ?_
        exact ⟨rfl, F.out⟩
end Go.Proofs.Ytpeoallhbbleaaa
