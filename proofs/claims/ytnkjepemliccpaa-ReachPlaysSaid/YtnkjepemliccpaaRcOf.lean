/- The program's: counts, of; an array by value. -/
import Derived.Test.YtnkjepemliccpaaRcClass
namespace Go.Proofs.Ytnkjepemliccpaa
open Go.Sort Go.RowKit Go.BigFrame
set_option linter.unusedVariables false
set_option linter.unusedSimpArgs false

/-- many cells loaded at once -/
theorem wpList_load_cells {P : Program} {ops : Array Oper} {rest : List Oper} {o : Oper} {a : Act} {w : World} {Q : Exit → Act → World → Prop} (hgd : o.guard = none) (ty : TypeId) (x : Operand) (ho : o.op = .load ty x)
    (ad : Addr) (hx : a.eval x = .pointer (some ad)) (cs : List Value) (hc : ∀ j v, cs[j]? = some v → w.cell? (ad.add j) = some v) (d : TypeDesc)
    (hu : P.underlying ty = some d) (hd : (match d with | .struct _ | .array _ _ => true | _ => false) = true) (hi : (P.info? ty).map (·.size) = some cs.length)
    (h : wpList P ops Q rest (a.put o.dst (.agg cs.toArray)) w) : wpList P ops Q (o :: rest) a w := by
  refine wpList_plain hgd fun _ hK => ?_
  have hl := run_loadCells_list (P := P) w ad cs hc
  have hrun : (loadVar ty ad).run P w = .ok (.agg cs.toArray) w := by
    cases hq : P.info? ty with
    | none => simp [hq] at hi
    | some i =>
      have hs : i.size = cs.length := by simpa [hq] using hi
      have hagg : (isAgg ty).run P w = .ok true w := by
        unfold isAgg
        rw [Sem.run_bind, run_underlying hu w]
        cases d <;> simp_all
      simp [loadVar, Sem.run_bind, hagg, sizeOf, typeInfo, hq, hs, hl]
  unfold Oper.wp execOp
  simp only [ho, hx, Instr.loadAt, Instr.sureAddr, Sem.run_bind, Sem.run_pure, Result.andThen_ok, hrun]
  exact hK _ _ h
/-- an element of an array by value -/
theorem wpList_index_part {P : Program} {ops : Array Oper} {rest : List Oper} {o : Oper} {a : Act} {w : World} {Q : Exit → Act → World → Prop} (hgd : o.guard = none) (ty : TypeId) (x ix : Operand) (ho : o.op = .index ty x ix)
    (cs : List Value) (hx : a.eval x = .agg cs.toArray) (k : IntKind) (i : Nat) (hix : a.eval ix = .int k i) (n z : Nat) (e : TypeId) (hu : P.underlying ty = some (.array n e)) (hi : i < n) (d : TypeDesc)
    (hue : P.underlying e = some d) (hd : (match d with | .struct _ | .array _ _ => true | _ => false) = true) (hs : (P.info? e).map (·.size) = some z)
    (vs : List Value) (hv : (cs.drop (i * z)).take z = vs)
    (h : wpList P ops Q rest (a.put o.dst (.agg vs.toArray)) w) : wpList P ops Q (o :: rest) a w := by
  refine wpList_plain hgd fun _ hK => ?_
  have hrun : (Instr.index ty (.agg cs.toArray) (.int k i)).run P w = .ok (.agg vs.toArray) w := by
    cases hq : P.info? e with
    | none => simp [hq] at hs
    | some inf =>
      have hsz : inf.size = z := by simpa [hq] using hs
      have hagg : (isAgg e).run P w = .ok true w := by
        unfold isAgg
        rw [Sem.run_bind, run_underlying hue w]
        cases d <;> simp_all
      have h0 : (0 : Int) ≤ i := by omega
      have h1 : (i : Int) < n := by omega
      subst hv
      simp [Instr.index, asIntOf, run_underlying hu, h0, h1, hi, part, hagg, sizeOf, typeInfo, hq, hsz, List.take_drop]
  unfold Oper.wp execOp
  simp only [ho, hx, hix, Sem.run_bind, Sem.run_pure, hrun, Result.andThen_ok]
  exact hK _ _ h
set_option maxHeartbeats 1600000 in
theorem counts_any (v : Vt) (h0 : 0 ≤ v.tm) (h1 : v.tm ≤ 4611686018427387904) (now : Int) (g : Nat) (k : Rc) (w : World) (h : Rs g k w) :
    Calls Try.prog 31 #[.pointer (some ⟨g, 0, none⟩), .agg #[.int .i64 v.who, .int .u32 v.ip, .int .u16 v.pt, .int .u64 v.tm], .int .u64 now] w fun e w' => e = .returned (.bool (isV v && liveB k.hold now v)) ∧ Below w.heap.size w w' := by
  have K := node_any v.who
  have hh0 := h.ok.h0
  have hh1 := h.ok.h1
  have p1 := IntWalk.u64_in (v.tm + k.hold) ⟨by omega, by omega⟩
  have B : Hid (Below w.heap.size w (w.alloc (.cells #[.int .i64 v.who, .int .u32 v.ip, .int .u16 v.pt, .int .u64 v.tm] 57))) := (Below.refl _ w).alloc (Nat.le_refl _) _
  have X : Hid (Cs w.heap.size [.int .i64 v.who, .int .u32 v.ip, .int .u16 v.pt, .int .u64 v.tm] (w.alloc (.cells #[.int .i64 v.who, .int .u32 v.ip, .int .u16 v.pt, .int .u64 v.tm] 57))) := Cs.new w _ _
  have H1 := Lib.hid (h.keep B.out)
  have hL : Hid (liveB k.hold now v = decide (now < v.tm + k.hold)) := rfl
  unfold isV
  generalize nodeI v.who = q at *
  generalize liveB k.hold now v = lv at *
  clear h
  go_enter Try.func31, Try.ntmps31
  go_upto_region 1 with fail
  generalize (w.alloc (.cells #[.int .i64 v.who, .int .u32 v.ip, .int .u16 v.pt, .int .u64 v.tm] 57)) = w1 at *
  generalize w.heap.size = b at X ⊢
  have k0 := cell_regrown (X.out.cell 0 _ rfl)
  have k3 := cell_regrown (X.out.cell 3 _ rfl)
  have kh := cell_regrown (H1.out.hd 1 _ rfl)
  have C := fun d os => Calls.regrown_of ((K (grow (redrawn w1 d) os)).mono (R' := fun e w2 => e = .returned (.bool q) ∧ Below (grow (redrawn w1 d) os).heap.size (grow (redrawn w1 d) os) w2) (fun e w2 ⟨h1, h2⟩ => ⟨h1, by rw [← h2]; exact Below.refl _ _⟩))
  clear K X
  cases q with
  | false =>
    (refine wp_region_quiet_below (by kernel_rfl) (by kernel_rfl) ?_; (repeat (go_big_quiet_step (first | with_reducible exact C _ _))); refine wpQuiet_nil ?_; intro _ hw'; obtain ⟨⟨dq, osq⟩, hw''⟩ := hw'; subst hw'')
    go_wp2
    refine bodyPost_ret (v := (.bool false)) (by simp [results, Try.results31, go_sem, *]) rfl ?_
    exact ⟨rfl, B.out.trans ((below_regrown w1 dq osq).mono B.out.size)⟩
  | true =>
    (refine wp_region_quiet_below (by kernel_rfl) (by kernel_rfl) ?_; (repeat (go_big_quiet_step (first | with_reducible exact C _ _))); refine wpQuiet_nil ?_; intro _ hw'; obtain ⟨⟨dq, osq⟩, hw''⟩ := hw'; subst hw'')
    go_wp2
    refine bodyPost_ret (v := (.bool (decide (now < v.tm + k.hold)))) (by simp [results, Try.results31, go_sem, *]) rfl ?_
    exact ⟨bool_ret (by rw [hL.out]; rfl), B.out.trans ((below_regrown w1 dq osq).mono B.out.size)⟩
/-! how many votes are of an address -/
def cntTo (k : Rc) (ip pt : Nat) (now : Int) (i : Nat) : Nat := cntL k.hold now (loV k.vote i) ip pt
theorem cnt_yes {k : Rc} {ip pt : Nat} {now : Int} {i : Nat} (h : (isV (k.vote i) && liveB k.hold now (k.vote i)) = true) (hs : sameA (k.vote i) ip pt = true) : cntTo k ip pt now (i + 1) = cntTo k ip pt now i + 1 := by
  rw [Bool.and_eq_true] at h
  unfold cntTo cntL
  rw [lo_yes h.1, List.countP_append, List.countP_cons_of_pos (by unfold cntB; rw [h.2, hs]; rfl)]; rfl
theorem cnt_no {k : Rc} {ip pt : Nat} {now : Int} {i : Nat} (h : (isV (k.vote i) && liveB k.hold now (k.vote i)) = false ∨ sameA (k.vote i) ip pt = false) : cntTo k ip pt now (i + 1) = cntTo k ip pt now i := by
  unfold cntTo cntL
  cases hv : isV (k.vote i) with
  | false => rw [lo_no hv]
  | true =>
    rw [lo_yes hv, List.countP_append, List.countP_cons_of_neg]
    · rfl
    · rw [hv, Bool.true_and] at h
      unfold cntB
      rcases h with h | h <;> rw [h] <;> simp
theorem cntTo_le (k : Rc) (ip pt : Nat) (now : Int) (i : Nat) : cntTo k ip pt now i ≤ i := Nat.le_trans (cnt_le _ _ _ _ _) (lo_len _ _)
def OfJ (k : Rc) (ip pt : Nat) (now : Int) (w : World) (g4 : Nat) (nv iv : Value) (wr : World) : Prop :=
  ∃ i : Nat, i ≤ 33 ∧ iv = .int .i64 (i : Nat) ∧ nv = .int .i64 (cntTo k ip pt now i : Nat) ∧ Cs g4 [.int .u32 ip, .int .u16 pt] wr ∧ Below w.heap.size w wr
theorem vs_part (f : Nat → Vt) {i : Nat} (hi : i < 33) : ((vsL f).flatten.drop (i * 4)).take 4 = cv (f i) := by
  rw [flatten_drop (z := 4) _ _ (vs4 f)]
  have h2 : (vsL f)[i]? = some (cv (f i)) := by unfold vsL; rw [List.getElem?_map, List.getElem?_range hi]; rfl
  obtain ⟨h1, h3⟩ := List.getElem?_eq_some_iff.1 h2
  have : (vsL f).drop i = cv (f i) :: (vsL f).drop (i + 1) := by rw [List.drop_eq_getElem_cons h1, h3]
  rw [this, List.flatten_cons, List.take_append_of_le_length (by rw [cv_len]; exact Nat.le_refl _)]
  exact List.take_of_length_le (by rw [cv_len]; exact Nat.le_refl _)
set_option maxHeartbeats 3200000 in
set_option maxRecDepth 20000 in
theorem of_any (ip pt : Nat) (now : Int) (g : Nat) (k : Rc) (w : World) (h : Rs g k w) :
    Calls Try.prog 32 #[.pointer (some ⟨g, 0, none⟩), .agg #[.int .u32 ip, .int .u16 pt], .int .u64 now] w fun e w' => e = .returned (.int .i64 (cntL k.hold now (allV k.vote) ip pt : Nat)) ∧ Below w.heap.size w w' := by
  have H := Lib.hid h
  have B : Hid (Below w.heap.size w (w.alloc (.cells #[.int .u32 ip, .int .u16 pt] 35))) := (Below.refl _ w).alloc (Nat.le_refl _) _
  have X : Hid (Cs w.heap.size [.int .u32 ip, .int .u16 pt] (w.alloc (.cells #[.int .u32 ip, .int .u16 pt] 35))) := Cs.new w _ _
  have H1 := Lib.hid (h.keep B.out)
  have gl := H1.out.lt
  have LD : Hid (∀ j v, (vsL k.vote).flatten[j]? = some v → (w.alloc (.cells #[.int .u32 ip, .int .u16 pt] 35)).cell? ((⟨g, 2, none⟩ : Addr).add j) = some v) := fun j v hv => by
    rw [add_at]
    have hj := (List.getElem?_eq_some_iff.1 hv).1
    rw [vs_len] at hj
    exact H1.out.at_ (by rw [cR_vs k hj]; exact hv)
  have VP : Hid (∀ i, i < 33 → ((vsL k.vote).flatten.drop (i * 4)).take 4 = cv (k.vote i)) := fun i hi => vs_part k.vote hi
  have HI : (Try.prog.info? 70).map (·.size) = some (vsL k.vote).flatten.length := by rw [vs_len]; kernel_rfl
  generalize (vsL k.vote).flatten = VS at *
  clear h
  go_enter Try.func32, Try.ntmps32
  go_upto_region 2 with fail
  generalize (w.alloc (.cells #[.int .u32 ip, .int .u16 pt] 35)) = w1 at *
  generalize w.heap.size = b4 at X ⊢
  go_wp2_with (refine wpList_load_cells rfl 70 _ rfl ⟨g, 2, none⟩ rfl VS LD.out _ Try.underlying70 rfl HI ?_)
  go_loopw [7, 9, 14] (fun nv pv iv wr => OfJ k ip pt now w b4 nv iv wr) (fun _ _ i _ => 33 - (intOf i).toNat)
  case atStart => exact ⟨0, Nat.zero_le _, rfl, rfl, X.out, B.out⟩
  case round =>
    obtain ⟨i, hi, rfl, rfl, hx, hb⟩ := hrel
    have XB := Lib.hid hx
    have HB := Lib.hid hb
    clear hx hb
    have hi0 : (0 : Int) ≤ i := by omega
    have HCL := Lib.hid (cntTo_le k ip pt now i)
    by_cases hlt : i < 33
    · have hlt' : (i : Int) < 33 := by omega
      have hn := H.out.ok.num i
      have HK := Lib.hid (fun w' (b : Below w.heap.size w w') => counts_any (k.vote i) hn.1 hn.2.1 now g k w' (H.out.keep b))
      have CY := Lib.hid (cnt_yes (k := k) (ip := ip) (pt := pt) (now := now) (i := i))
      have CN := Lib.hid (cnt_no (k := k) (ip := ip) (pt := pt) (now := now) (i := i))
      have VPi := VP.out i hlt
      have HI1 : Hid (i + 1 ≤ 33) := hlt
      have HS : Hid (sameA (k.vote i) ip pt = decide ((k.vote i).ip = ip ∧ (k.vote i).pt = pt)) := rfl
      generalize sameA (k.vote i) ip pt = sm at *
      generalize (isV (k.vote i) && liveB k.hold now (k.vote i)) = lv at *
      generalize k.vote i = x at *
      have p1 := IntWalk.i64_in ((cntTo k ip pt now i : Nat) + 1 : Int) ⟨by omega, by have := HCL.out; omega⟩
      clear VP hn
      generalize hc : cntTo k ip pt now i = c at *
      obtain ⟨x1, x2, x3, x4⟩ := x
      simp only at HS HK VPi
      have B2 : Hid (Below w.heap.size w (wr.alloc (.cells #[.int .i64 x1, .int .u32 x2, .int .u16 x3, .int .u64 x4] 57))) := HB.out.alloc HB.out.size _
      have X2 : Hid (Cs wr.heap.size [.int .i64 x1, .int .u32 x2, .int .u16 x3, .int .u64 x4] (wr.alloc (.cells #[.int .i64 x1, .int .u32 x2, .int .u16 x3, .int .u64 x4] 57))) := Cs.new wr _ _
      replace XB := Lib.hid (XB.out.alloc (.cells #[.int .i64 x1, .int .u32 x2, .int .u16 x3, .int .u64 x4] 57))
      have K := HK.out _ B2.out
      clear HK gl LD X B H1
      go_wp2_with (first | (refine wpList_index_part rfl 70 _ _ rfl VS rfl .i64 i rfl 33 4 57 Try.underlying70 hlt _ Try.underlying57 rfl (by kernel_rfl) _ VPi ?_; simp only [cv]))
      refine K.mono ?_; rintro e w3 ⟨rfl, b3⟩
      have BF := Lib.hid (B2.out.trans (b3.mono B2.out.size))
      have X3 := Lib.hid (X2.out.keep b3)
      have XF := Lib.hid (XB.out.keep b3)
      have z1 := X3.out.cell 1 _ rfl
      have z2 := X3.out.cell 2 _ rfl
      have zl := X3.out.lt
      have y0 := XF.out.cell 0 _ rfl
      have y1 := XF.out.cell 1 _ rfl
      have yl := XF.out.lt
      clear K X2 XB B2 X3 b3 VPi
      generalize wr.heap.size = b9 at *
      cases lv with
      | false =>
        have E : Hid (cntTo k ip pt now (i + 1) = c) := CN.out (.inl rfl)
        clear CY CN HS
        go_wp2
        go_roundw
        case rel => exact ⟨i + 1, HI1.out, by go_num, by rw [E.out], XF.out, BF.out⟩
        case measure => simp [intOf]; omega
      | true =>
        by_cases hs : x2 = ip ∧ x3 = pt
        · have hsm : sm = true := by rw [HS.out]; exact decide_eq_true hs
          have E : Hid (cntTo k ip pt now (i + 1) = c + 1) := CY.out rfl hsm
          clear CY CN HS hsm hc HCL
          obtain ⟨h2, h3⟩ := hs
          replace E := Lib.hid (congrArg (fun z : Nat => Value.int .i64 (z : Int)) E.out)
          rw [← h2] at y0
          rw [← h3] at y1
          clear h2 h3
          go_wp2
          go_roundw
          case rel => exact ⟨i + 1, HI1.out, by go_num, by rw [E.out]; first | rfl | (simp; done) | go_num, XF.out, BF.out⟩
          case measure => simp [intOf]; omega
        · have hsm : sm = false := by rw [HS.out]; exact decide_eq_false hs
          have E : Hid (cntTo k ip pt now (i + 1) = c) := CN.out (.inr hsm)
          clear CY CN HS hsm
          by_cases h2 : x2 = ip
          · have h3 : ¬ x3 = pt := fun e => hs ⟨h2, e⟩
            have h3i : ¬ (x3 : Int) = (pt : Int) := by omega
            clear hs
            rw [← h2] at y0
            clear h2
            go_wp2
            go_roundw
            case rel => exact ⟨i + 1, HI1.out, by go_num, by rw [E.out], XF.out, BF.out⟩
            case measure => simp [intOf]; omega
          · have h2i : ¬ (x2 : Int) = (ip : Int) := by omega
            clear hs
            go_wp2
            go_roundw
            case rel => exact ⟨i + 1, HI1.out, by go_num, by rw [E.out], XF.out, BF.out⟩
            case measure => simp [intOf]; omega
    · have hlt' : ¬ (i : Int) < 33 := by omega
      obtain rfl : i = 33 := by omega
      clear LD VP HCL gl
      go_wp2
      refine bodyPost_ret (v := (.int .i64 (cntTo k ip pt now 33 : Nat))) (by simp [results, Try.results32, go_sem, *]) rfl ?_
      exact ⟨rfl, HB.out⟩
end Go.Proofs.Ytnkjepemliccpaa
