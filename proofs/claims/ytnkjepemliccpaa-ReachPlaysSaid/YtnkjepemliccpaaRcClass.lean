/- The program's: Class; slices.Contains at bools. -/
import Derived.Test.YtnkjepemliccpaaRcEnd
namespace Go.Proofs.Ytnkjepemliccpaa
open Go.Sort Go.RowKit Go.BigFrame
set_option linter.unusedVariables false
set_option linter.unusedSimpArgs false

def isT (l : List Bool) : Bool := l.any id
def InJ (w : World) (l : List Bool) (i : Value) (wr : World) : Prop := ∃ j : Nat, j ≤ l.length ∧ i = .int .i64 j ∧ (∀ b ∈ l.take j, b = false) ∧ w = wr
theorem in_end {l : List Bool} {j : Nat} (h : ∀ b ∈ l.take j, b = false) (hj : l.length ≤ j) : isT l = false := by
  rw [List.take_of_length_le hj] at h
  unfold isT; rw [List.any_eq_false]; intro b hb; rw [h b hb]; decide
theorem in_yes {l : List Bool} {j : Nat} (hj : j < l.length) (h : l.getD j false = true) : isT l = true := by
  have : l.getD j false = l[j] := by simp [List.getD_eq_getElem?_getD, hj]
  rw [this] at h
  unfold isT; rw [List.any_eq_true]
  exact ⟨l[j], List.getElem_mem hj, h⟩
theorem in_no {l : List Bool} {j : Nat} (hj : j < l.length) (h0 : ∀ b ∈ l.take j, b = false) (h : l.getD j false = false) : ∀ b ∈ l.take (j + 1), b = false := by
  have e : l.getD j false = l[j] := by simp [List.getD_eq_getElem?_getD, hj]
  intro b hb
  rw [List.take_succ_eq_append_getElem hj, List.mem_append, List.mem_singleton] at hb
  rcases hb with hb | hb
  · exact h0 b hb
  · rw [hb, ← e]; exact h
set_option maxHeartbeats 800000 in
theorem index_any (g off cap : Nat) (l : List Bool) (hl : l.length ≤ 1000000) (w : World) (hg : g < w.heap.size) (hr : ∀ j, j < l.length → w.cell? ⟨g, off + j, none⟩ = some (.bool (l.getD j false))) :
    Calls Try.prog 36 #[.slice (some ⟨g, off, none⟩) l.length cap, .bool true] w fun e w' => ∃ i : Int, e = .returned (.int .i64 i) ∧ decide (0 ≤ i) = isT l ∧ w = w' := by
  go_enter Try.func36, Try.ntmps36
  go_wp2_with fail
  go_loopw [5, 8] (fun _ i wr => InJ w l i wr) (fun _ i _ => l.length - (intOf i).toNat)
  case atStart => exact ⟨0, Nat.zero_le _, rfl, by simp, rfl⟩
  case round =>
    obtain ⟨j, hj, rfl, hx, rfl⟩ := hrel
    by_cases hlt : j < l.length
    · have hlt' : (j : Int) < l.length := by omega
      have hj0 : (0 : Int) ≤ j := by omega
      have c0 := hr j hlt
      have Hyes := Lib.hid (in_yes hlt)
      have Hno := Lib.hid (in_no hlt hx)
      clear hx hr
      generalize l.getD j false = y at *
      cases y with
      | true =>
        have E := Lib.hid (Hyes.out rfl)
        clear Hyes Hno
        go_wp2
        go_ret
        exact ⟨_, rfl, by rw [E.out]; exact decide_eq_true hj0, rfl⟩
      | false =>
        have E := Lib.hid (Hno.out rfl)
        clear Hyes Hno
        go_wp2
        go_roundw
        case rel => exact ⟨j + 1, hlt, by go_num, E.out, rfl⟩
        case measure => simp [intOf]; omega
    · have hlt' : ¬ (j : Int) < l.length := by omega
      have E := Lib.hid (in_end hx (by omega))
      clear hx hr
      go_wp2
      go_ret
      exact ⟨_, rfl, by rw [E.out]; rfl, rfl⟩
theorem contains_any (g off cap : Nat) (l : List Bool) (hl : l.length ≤ 1000000) (w : World) (hg : g < w.heap.size) (hr : ∀ j, j < l.length → w.cell? ⟨g, off + j, none⟩ = some (.bool (l.getD j false))) :
    Calls Try.prog 35 #[.slice (some ⟨g, off, none⟩) l.length cap, .bool true] w fun e w' => e = .returned (.bool (isT l)) ∧ w = w' := by
  have K := index_any g off cap l hl w hg hr
  clear hr
  obtain ⟨q, hq⟩ : ∃ q, isT l = q := ⟨_, rfl⟩
  rw [hq] at K ⊢
  clear hq
  go_enter Try.func35, Try.ntmps35
  go_wp2_with fail
  refine K.mono ?_; rintro e w1 ⟨i, rfl, hi, rfl⟩
  clear K
  have HI := Lib.hid hi
  clear hi
  go_wp2
  go_ret
  exact ⟨bool_ret HI.out, rfl⟩
def ClassPost (k : Rc) (w : World) (e : Ending) (w' : World) : Prop := e = .returned (.int .i64 (classI k)) ∧ Below w.heap.size w w'
set_option maxHeartbeats 1600000 in
theorem class_any (g : Nat) (k : Rc) (w : World) (h : Rs g k w) : Calls Try.prog 26 #[.pointer (some ⟨g, 0, none⟩)] w (ClassPost k w) := by
  unfold ClassPost
  have HH := Lib.hid (h.keep ((Below.refl _ w).drew))
  have gl := HH.out.lt
  have c0 := HH.out.hd 0 _ rfl
  have c142 := HH.out.tl 0 _ rfl
  have B := Lib.hid (Below.refl w.heap.size w).drew
  have r0 := h.ok.r0
  have r1 := h.ok.r1
  have rl := h.ok.len
  by_cases hc : k.past.length < k.rounds
  · have e1 : classI k = 0 := by unfold classI; rw [if_pos hc]
    rw [e1]
    have d : (k.past.length : Int) < k.rounds := by omega
    clear h HH e1
    go_enter Try.func26, Try.ntmps26
    go_upto_region 1 with fail
    go_region
    go_wp2
    refine bodyPost_ret (v := (.int .i64 0)) (by simp [results, Try.results26, go_sem, *]) rfl ?_
    exact ⟨rfl, B.out⟩
  · have hl : k.past.length = k.rounds := by omega
    have d : ¬ (k.past.length : Int) < k.rounds := by omega
    have H2 := Lib.hid (HH.out.keep ((Below.refl _ w.drew).drew))
    have B2 := Lib.hid (B.out.drew)
    have KK := Lib.hid (fun w' (b : Below w.drew.heap.size w.drew w') => (contains_any g 134 8 k.past (by omega) w' (HH.out.keep b).lt (fun j hj => (HH.out.keep b).past j (by omega))).mono (R' := fun e w2 => e = .returned (.bool (isT k.past)) ∧ Below w'.heap.size w' w2) (fun e w2 ⟨h1, h2⟩ => ⟨h1, by rw [← h2]; exact Below.refl _ _⟩))
    have HC : Hid (classI k = if isT k.past = true then 1 else 2) := by show _ = _; unfold classI; rw [if_neg hc]; rfl
    have f0 := H2.out.hd 0 _ rfl
    have f1 := H2.out.lt
    rw [hl] at KK d
    rw [show (k.past.length : Int) = (k.rounds : Int) by omega] at c142
    generalize isT k.past = q at *
    have r2 : (1 : Int) ≤ k.rounds := by omega
    have r3 : (k.rounds : Int) ≤ 8 := by omega
    have r4 : (0 : Int) ≤ k.rounds := by omega
    clear h HH hc hl rl H2
    generalize k.rounds = r at *
    generalize hw1 : w.drew = w1 at *
    have C := fun d os => Calls.regrown_of (KK.out (grow (redrawn w1 d) os) (below_regrown w1 d os))
    have k0 := cell_regrown c0
    cases q with
    | true =>
      rw [show classI k = 1 by rw [HC.out]; rfl]
      clear HC
      go_enter Try.func26, Try.ntmps26
      go_upto_region 1 with fail
      go_region
      go_upto_region 3 with fail
      (refine wp_region_quiet_below (by kernel_rfl) (by kernel_rfl) ?_; (repeat (go_big_quiet_step (first | with_reducible exact C _ _))); refine wpQuiet_nil ?_; intro _ hw'; obtain ⟨⟨dq, osq⟩, hw''⟩ := hw'; subst hw'')
      go_wp2
      refine bodyPost_ret (v := (.int .i64 1)) (by simp [results, Try.results26, go_sem, *]) rfl ?_
      exact ⟨rfl, B.out.trans ((below_regrown w1 dq osq).mono B.out.size)⟩
    | false =>
      rw [show classI k = 2 by rw [HC.out]; rfl]
      clear HC
      go_enter Try.func26, Try.ntmps26
      go_upto_region 1 with fail
      go_region
      go_upto_region 3 with fail
      (refine wp_region_quiet_below (by kernel_rfl) (by kernel_rfl) ?_; (repeat (go_big_quiet_step (first | with_reducible exact C _ _))); refine wpQuiet_nil ?_; intro _ hw'; obtain ⟨⟨dq, osq⟩, hw''⟩ := hw'; subst hw'')
      go_wp2
      refine bodyPost_ret (v := (.int .i64 2)) (by simp [results, Try.results26, go_sem, *]) rfl ?_
      exact ⟨rfl, B.out.trans ((below_regrown w1 dq osq).mono B.out.size)⟩
end Go.Proofs.Ytnkjepemliccpaa
