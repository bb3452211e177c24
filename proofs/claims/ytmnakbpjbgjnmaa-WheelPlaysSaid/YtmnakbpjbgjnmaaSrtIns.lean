/- The order of timers as the program tells it; insertion of timers. -/
import Derived.Test.YtmnakbpjbgjnmaaSrtSwap
namespace Go.Proofs.Ytmnakbpjbgjnmaa
open Go.Sort Go.RowKit Go.BigFrame
set_option linter.unusedVariables false
set_option linter.unusedSimpArgs false

def cmpI (a b : Int) : Int := if a < b then -1 else if a > b then 1 else 0
theorem cmpI_lt {a b : Int} (h : a < b) : cmpI a b = -1 := if_pos h
theorem cmpI_ge {a b : Int} (h : ¬ a < b) : 0 ≤ cmpI a b := by unfold cmpI; rw [if_neg h]; split <;> omega
set_option maxHeartbeats 1000000 in
theorem first_any (x y : Tm) (w : World) :
    Calls Try.prog 28 #[.agg #[.int .i64 x.k, .int .i64 x.i, .int .u64 x.t], .agg #[.int .i64 y.k, .int .i64 y.i, .int .u64 y.t]] w fun e w' => e = .returned (.int .i64 (cmpI x.t y.t)) ∧ Below w.heap.size w w' := by
  obtain ⟨x1, x2, x3⟩ := x
  obtain ⟨y1, y2, y3⟩ := y
  simp only
  unfold cmpI
  by_cases h1 : x3 < y3
  · rw [if_pos h1]
    go_enter Try.func28, Try.ntmps28
    go_wp2
    go_ret
    exact ⟨rfl, by (repeat (first | with_reducible exact Below.refl _ _ | with_reducible refine Below.drew ?_ | with_reducible refine below_drewN ?_ _ | with_reducible refine Below.alloc ?_ (by first | omega | (simp; done) | (simp; omega)) _ | with_reducible refine Below.setCell ?_ (by first | omega | (simp; done) | (simp; omega)) _))⟩
  · rw [if_neg h1]
    by_cases h2 : x3 > y3
    · rw [if_pos h2]
      go_enter Try.func28, Try.ntmps28
      go_wp2
      go_ret
      exact ⟨rfl, by (repeat (first | with_reducible exact Below.refl _ _ | with_reducible refine Below.drew ?_ | with_reducible refine below_drewN ?_ _ | with_reducible refine Below.alloc ?_ (by first | omega | (simp; done) | (simp; omega)) _ | with_reducible refine Below.setCell ?_ (by first | omega | (simp; done) | (simp; omega)) _))⟩
    · rw [if_neg h2]
      go_enter Try.func28, Try.ntmps28
      go_wp2
      go_ret
      exact ⟨rfl, by (repeat (first | with_reducible exact Below.refl _ _ | with_reducible refine Below.drew ?_ | with_reducible refine below_drewN ?_ _ | with_reducible refine Below.alloc ?_ (by first | omega | (simp; done) | (simp; omega)) _ | with_reducible refine Below.setCell ?_ (by first | omega | (simp; done) | (simp; omega)) _))⟩
def fv : Value := .func (.func 28) #[] #[]
def InsOJ (X M Z : List Tm) (g cap : Nat) (w0 : World) (iv : Value) (wr : World) : Prop := ∃ (i : Nat) (D : List Tm), iv = .int .i64 (i : Nat) ∧ InsO kt X M Z i D ∧ SR 39 g cap D w0 wr
def InsNJ (X M Z : List Tm) (i g cap : Nat) (w0 : World) (jv : Value) (wr : World) : Prop := ∃ (j : Nat) (D : List Tm), jv = .int .i64 (j : Nat) ∧ InsN kt X M Z i j D ∧ SR 39 g cap D w0 wr
def MergePost (g cap : Nat) (X M Z : List Tm) (w0 : World) (e : Ending) (w' : World) : Prop := e = .returned (.tuple #[]) ∧ ∃ D, Merged kt X M Z D ∧ SR 39 g cap D w0 w'
set_option maxHeartbeats 3200000 in
theorem ins_any (X M Z : List Tm) (n g cap : Nat) (hn : n = X.length + M.length + Z.length) (hl : n ≤ 1000000) (w0 w : World) (h : SR 39 g cap (X ++ M ++ Z) w0 w) (av bv : Int) (ha : av = (X.length : Nat)) (hb : bv = ((X.length + M.length : Nat) : Int)) :
    Calls Try.prog 34 #[.slice (some ⟨g, 0, none⟩) n cap, .int .i64 av, .int .i64 bv, .func (.func 28) #[] #[]] w (MergePost g cap X M Z w0) := by
  subst ha hb
  by_cases hm : M.length = 0
  · obtain rfl : M = [] := List.eq_nil_of_length_eq_zero hm
    have F : Hid (∃ D, Merged kt X [] Z D ∧ SR 39 g cap D w0 w) := ⟨_, ⟨[], rfl, srt_nil, Eqv.refl _⟩, h⟩
    simp only [List.length_nil, Nat.add_zero] at hn ⊢
    have h0 : (0 : Int) ≤ X.length := by omega
    have h1 : (X.length : Int) ≤ 1000000 := by omega
    clear h hn
    generalize X.length = p at *
    go_enter Try.func34, Try.ntmps34
    go_wp2_with fail
    go_loopw [8] (fun iv wr => iv = .int .i64 ((p : Int) + 1) ∧ wr = w) (fun _ _ => 0)
    case atStart => exact ⟨by go_num, rfl⟩
    case round =>
      obtain ⟨rfl, rfl⟩ := hrel
      have h3 : decide ((p : Int) + 1 < p) = false := decide_eq_false (by omega)
      go_wp2_with fail
      refine bodyPost_ret (v := (.tuple #[])) (by simp [results, Try.results34, go_sem, *]) rfl ?_
      exact ⟨rfl, F.out⟩
  · have S0 : Hid (InsOJ X M Z g cap w0 (.int .i64 ((X.length + 1 : Nat) : Int)) w) := ⟨_, _, rfl, InsO.start (by omega), h⟩
    have HN : Hid (∀ i D, InsO kt X M Z i D → D.length = n) := fun i D h => by rw [h.len, hn]
    have HN2 : Hid (∀ i j D, InsN kt X M Z i j D → D.length = n) := fun i j D h => by rw [h.le.2.2.2, hn]
    have HI : Hid (∀ i D, InsO kt X M Z i D → i < X.length + M.length → InsN kt X M Z i i D) := fun i D h h2 => h.inner h2
    have HD : Hid (∀ i D, InsO kt X M Z i D → ¬ i < X.length + M.length → Merged kt X M Z D) := fun i D h h2 => h.done h2
    have HL : Hid (∀ i j D, InsN kt X M Z i j D → X.length ≤ j ∧ j ≤ i ∧ i < X.length + M.length) := fun i j D h => ⟨h.le.1, h.le.2.1, h.le.2.2.1⟩
    have HF : Hid (∀ i j D, InsN kt X M Z i j D → j ≤ X.length → InsO kt X M Z (i + 1) D) := fun i j D h h2 => by
      obtain rfl : j = X.length := by have := h.le.1; omega
      exact h.first
    have HK : Hid (∀ i j D, InsN kt X M Z i j D → X.length < j → ∃ x y, D[j]? = some x ∧ D[j - 1]? = some y ∧ (x.t < y.t → InsN kt X M Z i (j - 1) (swp D j (j - 1) y x)) ∧ (¬ x.t < y.t → InsO kt X M Z (i + 1) D)) := fun i j D h h2 => h.look h2
    have h0 : (0 : Int) ≤ X.length := by omega
    have h1 : (X.length : Int) ≤ 1000000 := by omega
    have h2 : ((X.length + M.length : Nat) : Int) ≤ n := by omega
    have h3 : X.length + M.length ≤ n := by omega
    have h4 : (n : Int) ≤ 1000000 := by omega
    clear h hn hm
    generalize X.length + M.length = b at *
    generalize X.length = p at *
    go_enter Try.func34, Try.ntmps34
    go_wp2_with fail
    go_loopw [8] (fun iv wr => InsOJ X M Z g cap w0 iv wr) (fun iv _ => b - (intOf iv).toNat)
    case atStart => exact S0.out
    case round =>
      obtain ⟨i, D, rfl, hI, hS⟩ := hrel
      clear S0
      have hi0 : (0 : Int) ≤ i := by omega
      by_cases hlt : i < b
      · have hlt' : (i : Int) < b := by omega
        have N0 : Hid (InsNJ X M Z i g cap w0 (.int .i64 (i : Nat)) wr) := ⟨_, _, rfl, HI.out _ _ hI hlt, hS⟩
        clear hI hS
        go_wp2_with fail
        go_loopw [9] (fun jv wr => InsNJ X M Z i g cap w0 jv wr) (fun jv _ => (intOf jv).toNat)
        case atStart => exact N0.out
        case round =>
          obtain ⟨j, D, rfl, hI, hS⟩ := hrel
          clear N0
          obtain ⟨l1, l2, -⟩ := HL.out _ _ _ hI
          have hj0 : (0 : Int) ≤ j := by omega
          by_cases hj : p < j
          · obtain ⟨x, y, hx, hy, k1, k2⟩ := HK.out _ _ _ hI hj
            have hDl := HN2.out _ _ _ hI
            have hgt : (p : Int) < j := by omega
            have hjn : (j : Int) < n := by omega
            have hjm : (j : Int) - 1 = ((j - 1 : Nat) : Int) := by omega
            have hsw := hS.swap j (j - 1) y x (by omega) (by omega)
            have c0 := hS.cell hx 0 _ rfl
            have c1 := hS.cell hx 1 _ rfl
            have c2 := hS.cell hx 2 _ rfl
            have d0 := hS.cell hy 0 _ rfl
            have d1 := hS.cell hy 1 _ rfl
            have d2 := hS.cell hy 2 _ rfl
            have HS := Lib.hid hS
            have HSW := Lib.hid hsw
            have HX := Lib.hid hx
            have HY := Lib.hid hy
            have K1 := Lib.hid k1
            have K2 := Lib.hid k2
            have gl := hS.lt
            have hjd : j < D.length := by omega
            have hjd2 : j - 1 < D.length := by omega
            have HJD := Lib.hid hjd
            have HJD2 := Lib.hid hjd2
            have hlj : j - 1 < j := by omega
            have hj1 : (0 : Int) ≤ ((j - 1 : Nat) : Int) := by omega
            have hj2 : ((j - 1 : Nat) : Int) < n := by omega
            have hj3 : j < n := by omega
            have hj4 : j - 1 < n := by omega
            have N1 := first_any x y
            clear hI hS hx hy k1 k2 hsw hDl hjd hjd2
            have hi1 : (i : Int) ≤ 1000000 := by omega
            have HIL := Lib.hid l2
            clear l1 l2 hj
            generalize j - 1 = jm at *
            obtain ⟨x1, x2, x3⟩ := x
            obtain ⟨y1, y2, y3⟩ := y
            simp only [Nat.add_zero] at c0 c1 c2 d0 d1 d2 N1
            go_wp2_with fail
            have hC := Lib.hid c0
            have c0 := cell_regrown c0
            have c1 := cell_regrown c1
            have c2 := cell_regrown c2
            have d0 := cell_regrown d0
            have d1 := cell_regrown d1
            have d2 := cell_regrown d2
            have KK := fun d os => Calls.regrown_of (N1 (grow (redrawn wr d) os))
            clear N1 hC
            by_cases hxy : x3 < y3
            · rw [cmpI_lt hxy] at KK
              have HO := Lib.hid (K1.out hxy)
              clear K1 K2 hxy
              (refine wp_region_quiet_below (by kernel_rfl) (by kernel_rfl) ?_; (repeat (go_big_quiet_step (first | with_reducible exact KK _ _))); refine wpQuiet_nil ?_; intro _ hw'; obtain ⟨⟨dq, osq⟩, hw''⟩ := hw'; subst hw'')
              have bq := below_regrown wr dq osq
              have c0 := c0 dq osq
              have c1 := c1 dq osq
              have c2 := c2 dq osq
              have d0 := d0 dq osq
              have d1 := d1 dq osq
              have d2 := d2 dq osq
              clear KK
              have SS := Lib.hid (HS.out.keep bq)
              have gl := Nat.lt_of_lt_of_le gl bq.size
              clear bq HS HSW
              simp only at *
              generalize grow (redrawn wr dq) osq = w2 at *
              have hsw := Lib.hid (SS.out.swap j jm ⟨y1, y2, y3⟩ ⟨x1, x2, x3⟩ HJD.out HJD2.out)
              have fr := fun o => SS.out.free o
              go_wp2_with fail
              go_region
              go_wp2_with fail
              go_roundw
              case rel => exact ⟨jm, _, by go_num, HO.out, hsw.out.keep ((Below.refl _ _).drew)⟩
              case measure => simp [intOf]; omega
            · have hge := cmpI_ge hxy
              generalize cmpI x3 y3 = cc at *
              have HO := Lib.hid (K2.out (by omega))
              clear K1 K2 hxy
              have hcc : decide (cc < 0) = false := decide_eq_false (by omega)
              (refine wp_region_quiet_below (by kernel_rfl) (by kernel_rfl) ?_; (repeat (go_big_quiet_step (first | with_reducible exact KK _ _))); refine wpQuiet_nil ?_; intro _ hw'; obtain ⟨⟨dq, osq⟩, hw''⟩ := hw'; subst hw'')
              have bq := below_regrown wr dq osq
              clear KK c0 c1 c2 d0 d1 d2
              have SS := Lib.hid (HS.out.keep bq)
              clear bq HS HSW
              simp only at *
              generalize grow (redrawn wr dq) osq = w2 at *
              go_wp2_with fail
              go_roundw
              case rel => exact ⟨i + 1, D, by go_num, HO.out, SS.out⟩
              case measure => simp [intOf]; omega
          · have hge : decide ((p : Int) < j) = false := decide_eq_false (by omega)
            have hge2 : decide (p < j) = false := decide_eq_false (by omega)
            have HO := Lib.hid (HF.out _ _ _ hI (by omega))
            have hi1 : (i : Int) ≤ 1000000 := by omega
            clear hI l1 l2 hj
            have SS := Lib.hid hS
            clear hS
            go_wp2_with fail
            go_quiet (fail)
            have bq : Below wr.heap.size wr (wr.drewN nq) := below_drewN (Below.refl _ _) _
            have SS := Lib.hid (SS.out.keep bq)
            clear bq
            generalize wr.drewN nq = w2 at *
            go_wp2_with fail
            go_roundw
            case rel => exact ⟨i + 1, D, by go_num, HO.out, SS.out⟩
            case measure => simp [intOf]; omega
      · have HO := Lib.hid (HD.out _ _ hI hlt)
        have hge : decide ((i : Int) < b) = false := decide_eq_false (by omega)
        have hge2 : decide (i < b) = false := decide_eq_false (by omega)
        have hge3 : (b : Int) ≤ i := by omega
        have hge4 : b ≤ i := by omega
        have SS := Lib.hid hS
        clear hI hS hlt
        go_wp2_with fail
        refine bodyPost_ret (v := (.tuple #[])) (by simp [results, Try.results34, go_sem, *]) rfl ?_
        exact ⟨rfl, D, HO.out, SS.out⟩
end Go.Proofs.Ytmnakbpjbgjnmaa
