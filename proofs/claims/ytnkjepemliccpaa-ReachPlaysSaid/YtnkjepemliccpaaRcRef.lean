/- The reference's: New, Round, Heard, Reset, Class. -/
import Derived.Test.YtnkjepemliccpaaRcRefRow
namespace Go.Proofs.Ytnkjepemliccpaa
open Go.Sort Go.RowKit Go.BigFrame
set_option linter.unusedVariables false
set_option linter.unusedSimpArgs false

theorem rnew_bad (r h : Int) (ha : argN r h = true) (w : World) : Calls Try.prog 11 #[.int .i64 r, .int .u64 h] w fun e w' => e = .returned (.pointer none) ∧ w = w' := by
  unfold argN at ha
  by_cases c1 : r < 1
  · have d1 : decide (r < 1) = true := decide_eq_true c1
    go_enter Try.func11, Try.ntmps11
    go_wp2
    go_ret
    exact ⟨rfl, rfl⟩
  · by_cases c2 : 8 < r
    · have d1 : decide (r < 1) = false := decide_eq_false c1
      have d2 : decide (8 < r) = true := decide_eq_true c2
      go_enter Try.func11, Try.ntmps11
      go_wp2
      go_ret
      exact ⟨rfl, rfl⟩
    · have d1 : decide (r < 1) = false := decide_eq_false c1
      have d2 : decide (8 < r) = false := decide_eq_false c2
      rw [d1, d2] at ha
      simp only [Bool.false_or] at ha
      by_cases c3 : h = 0
      · subst c3
        go_enter Try.func11, Try.ntmps11
        go_wp2
        go_ret
        exact ⟨rfl, rfl⟩
      · have d3 : (h == 0) = false := beq_eq_false_iff_ne.2 c3
        rw [d3] at ha
        simp only [Bool.false_or] at ha
        go_enter Try.func11, Try.ntmps11
        go_wp2
        go_ret
        exact ⟨rfl, rfl⟩
def RNewPost (r h : Int) (w : World) (e : Ending) (w' : World) : Prop := ∃ g, e = .returned (.pointer (some ⟨g, 0, none⟩)) ∧ w.heap.size ≤ g ∧ Qs g nilS nilS 0 false (newR r.toNat h) w' ∧ Below w.heap.size w w'
set_option maxHeartbeats 1600000 in
theorem rnew_any (r h : Int) (ha : argN r h = false) (hh : 0 ≤ h) (w : World) : Calls Try.prog 11 #[.int .i64 r, .int .u64 h] w (RNewPost r h w) := by
  obtain ⟨h1, h2, h3, h4⟩ := argN_no ha
  have hok := new_ok ha hh
  obtain ⟨n, rfl⟩ : ∃ n : Nat, r = n := ⟨r.toNat, by omega⟩
  unfold RNewPost
  simp only [Int.toNat_natCast] at hok ⊢
  have all0 : allV (newR n h).vote = [] := by
    show allV (fun _ => zV) = []
    kernel_rfl
  have F : Hid (Qs w.heap.size nilS nilS 0 false (newR n h) (w.alloc (.cells #[.int .i64 n, .int .u64 h, .slice none 0 0, .slice none 0 0, .bool false, .int .u32 0, .bool false] 55))) := by
    refine ⟨Cs.new w (qC (newR n h) nilS nilS 0 false) _, ?_, prow_nil, fun b hb => absurd hb (nil_own b), fun a ha => by simp [nilS] at ha, fun e => by simp [newR] at e, hok⟩
    rw [all0]; exact erow_nil
  have d1 : decide ((n : Int) < 1) = false := decide_eq_false (by omega)
  have d2 : decide ((8 : Int) < n) = false := decide_eq_false (by omega)
  have d3 : (h == 0) = false := beq_eq_false_iff_ne.2 h3
  have d4 : decide (1000000 < h) = false := decide_eq_false (by omega)
  clear ha all0 hok
  go_enter Try.func11, Try.ntmps11
  go_wp2
  go_ret
  exact ⟨w.heap.size, rfl, Nat.le_refl _, F.out, (Below.refl _ _).alloc (Nat.le_refl _) _⟩
theorem touch_c {g : Nat} {w w' : World} (h : Touch (fun b => b = g) w w') (n : Nat) (v : Value) : Touch (fun b => b = g) w (w'.setCell ⟨g, n, none⟩ v) := Touch.set (F := fun b => b = g) h (a := ⟨g, n, none⟩) (fun _ => rfl) v
def RRoundPost (g : Nat) (v p : Sl) (k : Rc) (seq now : Int) (w : World) (e : Ending) (w' : World) : Prop := e = .returned (.int .i64 (roundE k now)) ∧ QAft g v p (roundD k seq now) w w'
set_option maxHeartbeats 1600000 in
theorem rround_any (seq now : Int) (g : Nat) (v p : Sl) (sq : Int) (gt : Bool) (k : Rc) (w : World) (h : Qs g v p sq gt k w) :
    Calls Try.prog 13 #[.pointer (some ⟨g, 0, none⟩), .int .u32 seq, .int .u64 now] w (RRoundPost g v p k seq now w) := by
  unfold RRoundPost
  have gl := h.box.lt
  have SAME := Lib.hid (h.same (Below.refl _ _))
  have c4 := h.box.cell 4 _ rfl
  by_cases hn : 4611686018427387904 < now
  · have e1 : roundE k now = 1 := by unfold roundE; rw [if_pos hn]
    have e2 : roundD k seq now = k := roundD_no (by rw [e1]; decide)
    rw [e1, e2]
    go_enter Try.func13, Try.ntmps13
    go_wp2
    refine bodyPost_ret (v := (.int .i64 1)) (by simp [results, Try.results13, go_sem, *]) rfl ?_
    exact ⟨rfl, SAME.out⟩
  · cases ho : k.on with
    | true =>
      have e1 : roundE k now = 4 := by unfold roundE; rw [if_neg hn, if_pos ho]
      have e2 : roundD k seq now = k := roundD_no (by rw [e1]; decide)
      rw [e1, e2]
      rw [ho] at c4
      go_enter Try.func13, Try.ntmps13
      go_wp2
      refine bodyPost_ret (v := (.int .i64 4)) (by simp [results, Try.results13, go_sem, *]) rfl ?_
      exact ⟨rfl, SAME.out⟩
    | false =>
      have e := roundD_yes (k := k) (seq := seq) (now := now) (by omega) ho
      rw [e.1, e.2]
      have hok := round_ok h.ok seq now
      rw [e.2] at hok
      have X1 := ((h.box.set 4 (.bool true) (by simp [qC])).set 5 (.int .u32 seq) (by simp [qC])).set 6 (.bool false) (by simp [qC])
      have T1 : Touch (fun b => b = g) w (((w.setCell ⟨g, 4, none⟩ (.bool true)).setCell ⟨g, 5, none⟩ (.int .u32 seq)).setCell ⟨g, 6, none⟩ (.bool false)) :=
        touch_c (touch_c (touch_c (Touch.refl _ _) _ _) _ _) _ _
      have F := Lib.hid (h.put (k' := { k with on := true, seq := seq, got := false }) (v' := v) (p' := p) (sq' := seq) (gt' := false) (Below.refl _ _) T1 X1 h.row h.past (fun _ hb => .inl hb) (fun _ ha => .inl ha) (fun _ => ⟨rfl, rfl⟩) hok)
      rw [ho] at c4
      have c5 := h.box.cell 5 _ rfl
      have c6 := h.box.cell 6 _ rfl
      have f4 := h.box.free 4 _ rfl
      have f5 := h.box.free 5 _ rfl
      have f6 := h.box.free 6 _ rfl
      clear h SAME e hok X1 T1 ho
      go_enter Try.func13, Try.ntmps13
      go_wp2
      refine bodyPost_ret (v := (.int .i64 0)) (by simp [results, Try.results13, go_sem, *]) rfl ?_
      exact ⟨rfl, F.out⟩
def RHeardPost (g : Nat) (v p : Sl) (k : Rc) (seq : Int) (w : World) (e : Ending) (w' : World) : Prop := e = .returned (.bool (heardB k seq)) ∧ QAft g v p (heardD k seq) w w'
set_option maxHeartbeats 1600000 in
theorem rheard_any (seq : Int) (g : Nat) (v p : Sl) (sq : Int) (gt : Bool) (k : Rc) (w : World) (h : Qs g v p sq gt k w) :
    Calls Try.prog 15 #[.pointer (some ⟨g, 0, none⟩), .int .u32 seq] w (RHeardPost g v p k seq w) := by
  unfold RHeardPost
  have gl := h.box.lt
  have SAME := Lib.hid (h.same (Below.refl _ _))
  have c4 := h.box.cell 4 _ rfl
  have c5 := h.box.cell 5 _ rfl
  cases ho : k.on with
  | false =>
    have e1 : heardB k seq = false := by unfold heardB; rw [ho]; rfl
    rw [e1, heardD_no e1]
    rw [ho] at c4
    go_enter Try.func15, Try.ntmps15
    go_wp2
    refine bodyPost_ret (v := (.bool false)) (by simp [results, Try.results15, go_sem, *]) rfl ?_
    exact ⟨rfl, SAME.out⟩
  | true =>
    have hr := h.rel ho
    rw [ho] at c4
    by_cases hs : k.seq = seq
    · have e1 : heardB k seq = true := by unfold heardB; rw [ho]; simpa using hs
      have hok := heard_ok h.ok seq
      rw [heardD_yes e1] at hok ⊢
      rw [e1]
      have X1 := h.box.set 6 (.bool true) (by simp [qC])
      have T1 : Touch (fun b => b = g) w (w.setCell ⟨g, 6, none⟩ (.bool true)) := touch_c (Touch.refl _ _) _ _
      have F := Lib.hid (h.put (k' := { k with got := true }) (v' := v) (p' := p) (sq' := sq) (gt' := true) (Below.refl _ _) T1 X1 h.row h.past (fun _ hb => .inl hb) (fun _ ha => .inl ha) (fun _ => ⟨hr.1, rfl⟩) hok)
      have q : (sq != seq) = false := by rw [hr.1, hs]; simp
      have c6 := h.box.cell 6 _ rfl
      have f6 := h.box.free 6 _ rfl
      clear h SAME hok X1 T1 ho hr e1
      go_enter Try.func15, Try.ntmps15
      go_wp2
      refine bodyPost_ret (v := (.bool true)) (by simp [results, Try.results15, go_sem, *]) rfl ?_
      exact ⟨rfl, F.out⟩
    · have e1 : heardB k seq = false := by unfold heardB; rw [ho]; simpa using hs
      rw [e1, heardD_no e1]
      have q : (sq != seq) = true := by rw [hr.1]; simpa using hs
      clear h hr ho
      go_enter Try.func15, Try.ntmps15
      go_wp2
      refine bodyPost_ret (v := (.bool false)) (by simp [results, Try.results15, go_sem, *]) rfl ?_
      exact ⟨rfl, SAME.out⟩
set_option maxHeartbeats 1600000 in
theorem rreset_any (g : Nat) (v p : Sl) (sq : Int) (gt : Bool) (k : Rc) (w : World) (h : Qs g v p sq gt k w) :
    Calls Try.prog 19 #[.pointer (some ⟨g, 0, none⟩)] w fun e w' => e = .returned (.tuple #[]) ∧ QAft g v p (resetD k) w w' := by
  have gl := h.box.lt
  have all0 : allV (resetD k).vote = [] := by
    show allV (fun _ => zV) = []
    kernel_rfl
  have X1 := ((h.box.set 2 (.slice none 0 0) (by simp [qC])).set 3 (.slice none 0 0) (by simp [qC])).set 4 (.bool false) (by simp [qC])
  have T1 : Touch (fun b => b = g) w (((w.setCell ⟨g, 2, none⟩ (.slice none 0 0)).setCell ⟨g, 3, none⟩ (.slice none 0 0)).setCell ⟨g, 4, none⟩ (.bool false)) :=
    touch_c (touch_c (touch_c (Touch.refl _ _) _ _) _ _) _ _
  have F := Lib.hid (h.put (k' := resetD k) (v' := nilS) (p' := nilS) (sq' := sq) (gt' := gt) (Below.refl _ _) T1 X1 (by rw [all0]; exact erow_nil) prow_nil (fun b hb => absurd hb (nil_own b)) (fun a ha => by simp [nilS] at ha) (fun e => by simp [resetD, newR] at e) (reset_ok h.ok))
  have c2 := h.box.cell 2 _ rfl
  have c3 := h.box.cell 3 _ rfl
  have c4 := h.box.cell 4 _ rfl
  have f2 := h.box.free 2 _ rfl
  have f3 := h.box.free 3 _ rfl
  have f4 := h.box.free 4 _ rfl
  clear h X1 T1 all0
  go_enter Try.func19, Try.ntmps19
  go_wp2
  refine bodyPost_end (v := .tuple #[]) (by simp [results, Try.results19, go_sem]) rfl ?_
  exact ⟨rfl, F.out⟩
def RInJ (w : World) (l : List Bool) (i : Value) (wr : World) : Prop := ∃ j : Nat, j ≤ l.length ∧ i = .int .i64 j ∧ (∀ b ∈ l.take j, b = false) ∧ w = wr
theorem isT_rev (l : List Bool) : isT l.reverse = l.any id := by unfold isT; rw [List.any_reverse]
set_option maxHeartbeats 3200000 in
theorem rclass_any (g : Nat) (v p : Sl) (sq : Int) (gt : Bool) (k : Rc) (w : World) (h : Qs g v p sq gt k w) :
    Calls Try.prog 27 #[.pointer (some ⟨g, 0, none⟩)] w (ClassPost k w) := by
  unfold ClassPost
  have HH := Lib.hid (h.keep ((Below.refl _ w).drew))
  have gl := HH.out.box.lt
  have c0 := HH.out.box.cell 0 _ rfl
  have c3 := HH.out.box.cell 3 _ rfl
  have B := Lib.hid (Below.refl w.heap.size w).drew
  have r0 := h.ok.r0
  have r1 := h.ok.r1
  have rl := h.ok.len
  have hpn := h.pn
  have hp8 := h.p8
  obtain ⟨pa, pn, pc⟩ := p
  simp only at hpn hp8 c3
  by_cases hc : k.past.length < k.rounds
  · have e1 : classI k = 0 := by unfold classI; rw [if_pos hc]
    rw [e1]
    have d : (pn : Int) < k.rounds := by omega
    clear h HH e1
    go_enter Try.func27, Try.ntmps27
    go_upto_region 1 with fail
    go_region
    go_wp2
    refine bodyPost_ret (v := (.int .i64 0)) (by simp [results, Try.results27, go_sem, *]) rfl ?_
    exact ⟨rfl, B.out⟩
  · have d : ¬ (pn : Int) < k.rounds := by omega
    have HC : Hid (classI k = if isT k.past.reverse = true then 1 else 2) := by show _ = _; rw [isT_rev]; unfold classI; rw [if_neg hc]
    have hln : Hid (k.past.reverse.length = pn) := by show _ = _; rw [List.length_reverse]; omega
    have HR := Lib.hid HH.out.past.rd
    generalize k.past.reverse = l at *
    clear h HH hc rl hpn
    go_enter Try.func27, Try.ntmps27
    go_upto_region 1 with fail
    go_region
    generalize w.drew = w1 at *
    go_wp2_with fail
    go_loopw [3] (fun i wr => RInJ w1 l i wr) (fun i _ => 9 - (intOf i).toNat)
    case atStart => exact ⟨0, Nat.zero_le _, rfl, by simp, rfl⟩
    case round =>
      obtain ⟨j, hj, rfl, hx, rfl⟩ := hrel
      have hj0 : (0 : Int) ≤ j := by omega
      rw [hln.out] at hj
      have j8 := IntWalk.i64_in ((j : Int) + 1) ⟨by omega, by omega⟩
      by_cases hlt : j < l.length
      · have hlt' : (j : Int) < pn := by have := hln.out; omega
        obtain ⟨b, off, hb, hbl, hcc⟩ := HR.out (by omega)
        subst hb
        have x0 := hcc j (l.getD j false) (by rw [List.getD_eq_getElem?_getD, List.getElem?_eq_getElem hlt]; rfl) 0 _ rfl
        have hjn : Hid (j + 1 ≤ l.length) := hlt
        simp only [Nat.mul_one, Nat.add_zero] at x0
        have Hyes := Lib.hid (in_yes hlt)
        have Hno := Lib.hid (in_no hlt hx)
        clear hcc hx hlt
        generalize l.getD j false = y at *
        cases y with
        | true =>
          have E := Lib.hid (Hyes.out rfl)
          have e1 : classI k = 1 := by rw [HC.out, E.out]; rfl
          replace e1 := Lib.hid e1
          clear Hyes Hno HC
          go_wp2
          refine bodyPost_ret (v := (.int .i64 1)) (by simp [results, Try.results27, go_sem, *]) rfl ?_
          exact ⟨by rw [e1.out], B.out⟩
        | false =>
          have E := Lib.hid (Hno.out rfl)
          clear Hyes Hno
          go_wp2
          go_roundw
          case rel => exact ⟨j + 1, hjn.out, by go_num, E.out, rfl⟩
          case measure => simp [intOf]; omega
      · have hlt' : ¬ (j : Int) < pn := by have := hln.out; omega
        have E := Lib.hid (in_end hx (by omega))
        have e1 : classI k = 2 := by rw [HC.out, E.out]; rfl
        replace e1 := Lib.hid e1
        clear hx HC hlt
        go_wp2
        refine bodyPost_ret (v := (.int .i64 2)) (by simp [results, Try.results27, go_sem, *]) rfl ?_
        exact ⟨by rw [e1.out], B.out⟩
end Go.Proofs.Ytnkjepemliccpaa
