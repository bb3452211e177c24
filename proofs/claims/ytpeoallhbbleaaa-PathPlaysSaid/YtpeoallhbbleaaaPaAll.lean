/- The program's: All. -/
import Derived.Test.YtpeoallhbbleaaaPaStep
namespace Go.Proofs.Ytpeoallhbbleaaa
open Go.Sort Go.RowKit Go.BigFrame
set_option linter.unusedVariables false
set_option linter.unusedSimpArgs false

/-- many cells loaded at once -/
theorem wpList_load_cells {P : Program} {ops : Array Oper} {rest : List Oper} {o : Oper} {a : Act} {w : World} {Q : Exit → Act → World → Prop} (hgd : o.guard = none) (ty : TypeId) (x : Operand) (ho : o.op = .load ty x)
    (ad : Addr) (hx : a.eval x = .pointer (some ad)) (cs : List Value) (hc : ∀ j v, cs[j]? = some v → w.cell? (ad.add j) = some v) (d : TypeDesc)
    (hu : P.underlying ty = some d) (hd : (match d with | .struct _ | .array _ _ => true | _ => false) = true) (hi : (P.info? ty).map (·.size) = some cs.length)
    (h : wpList P ops Q rest (a.put o.dst (.agg cs.toArray)) w) : wpList P ops Q (o :: rest) a w := by
  refine wpList_plain hgd fun _ hK => ?_
  have hl := run_loadCells_list (P := P) w ad cs hc
  have hrun : (loadVar ty ad).run P w = .ok (.agg cs.toArray) w := by
    cases hq : P.info? ty with
    | none => simp [hq] at hi
    | some i =>
      have hs : i.size = cs.length := by simpa [hq] using hi
      have hagg : (isAgg ty).run P w = .ok true w := by
        unfold isAgg
        rw [Sem.run_bind, run_underlying hu w]
        cases d <;> simp_all
      simp [loadVar, Sem.run_bind, hagg, sizeOf, typeInfo, hq, hs, hl]
  unfold Oper.wp execOp
  simp only [ho, hx, Instr.loadAt, Instr.sureAddr, Sem.run_bind, Sem.run_pure, Result.andThen_ok, hrun]
  exact hK _ _ h
/-- an element of an array by value -/
theorem wpList_index_part {P : Program} {ops : Array Oper} {rest : List Oper} {o : Oper} {a : Act} {w : World} {Q : Exit → Act → World → Prop} (hgd : o.guard = none) (ty : TypeId) (x ix : Operand) (ho : o.op = .index ty x ix)
    (cs : List Value) (hx : a.eval x = .agg cs.toArray) (k : IntKind) (i : Nat) (hix : a.eval ix = .int k i) (n z : Nat) (e : TypeId) (hu : P.underlying ty = some (.array n e)) (hi : i < n) (d : TypeDesc)
    (hue : P.underlying e = some d) (hd : (match d with | .struct _ | .array _ _ => true | _ => false) = true) (hs : (P.info? e).map (·.size) = some z)
    (vs : List Value) (hv : (cs.drop (i * z)).take z = vs)
    (h : wpList P ops Q rest (a.put o.dst (.agg vs.toArray)) w) : wpList P ops Q (o :: rest) a w := by
  refine wpList_plain hgd fun _ hK => ?_
  have hrun : (Instr.index ty (.agg cs.toArray) (.int k i)).run P w = .ok (.agg vs.toArray) w := by
    cases hq : P.info? e with
    | none => simp [hq] at hs
    | some inf =>
      have hsz : inf.size = z := by simpa [hq] using hs
      have hagg : (isAgg e).run P w = .ok true w := by
        unfold isAgg
        rw [Sem.run_bind, run_underlying hue w]
        cases d <;> simp_all
      have h0 : (0 : Int) ≤ i := by omega
      have h1 : (i : Int) < n := by omega
      subst hv
      simp [Instr.index, asIntOf, run_underlying hu, h0, h1, hi, part, hagg, sizeOf, typeInfo, hq, hsz, List.take_drop]
  unfold Oper.wp execOp
  simp only [ho, hx, hix, Sem.run_bind, Sem.run_pure, hrun, Result.andThen_ok]
  exact hK _ _ h

theorem info_pt : (Try.prog.info? 61).map (fun i => (i.zero, i.size, i.bytes)) = some (some (.agg #[.int .i64 0, .int .i64 0, .int .i64 0, .int .u32 0, .int .u16 0, .int .u64 0, .int .u64 0]), 7, 48) := by kernel_rfl
theorem info_int : (Try.prog.info? 3).map (fun i => (i.zero, i.size, i.bytes)) = some (some (.int .i64 0), 1, 8) := by kernel_rfl
def AllJ (k : Tk) (w : World) (sv iv : Value) (wr : World) : Prop :=
  ∃ i : Nat, i ≤ 33 ∧ iv = .int .i64 (i : Nat) ∧ ERow cp 7 61 wr sv (loP k.p i) ∧ Below w.heap.size w wr ∧ ∀ b, sv.ownBlock = some b → w.heap.size ≤ b
set_option maxHeartbeats 3200000 in
set_option maxRecDepth 20000 in
theorem all_any (g : Nat) (k : Tk) (w : World) (h : Ts g k w) :
    Calls Try.prog 23 #[.pointer (some ⟨g, 0, none⟩)] w (NewPost cp 7 61 (allP k.p) w) := by
  obtain ⟨i0, hi0, hz0, hz1, hz2⟩ := info_parts info_pt
  have H := Lib.hid h
  have gl := h.lt
  have LD : Hid (∀ j v, (rowL cp k.p).flatten[j]? = some v → w.cell? ((⟨g, 4, none⟩ : Addr).add j) = some v) := fun j v hv => by
    rw [add_at]
    exact H.out.arr j v hv
  have VP : Hid (∀ i, i < 33 → ((rowL cp k.p).flatten.drop (i * 7)).take 7 = cp (k.p i)) := fun i hi => row_part cp_enc k.p hi
  have HI : (Try.prog.info? 71).map (·.size) = some (rowL cp k.p).flatten.length := by rw [row_len cp_enc]; kernel_rfl
  generalize (rowL cp k.p).flatten = VS at *
  clear h
  go_enter Try.func23, Try.ntmps23
  go_wp2_with (refine wpList_load_cells rfl 71 _ rfl ⟨g, 4, none⟩ rfl VS LD.out _ Try.underlying71 rfl HI ?_)
  go_loopw [3, 4, 5, 10] (fun sv iv4 pv iv wr => AllJ k w sv iv wr) (fun _ _ _ i _ => 33 - (intOf i).toNat)
  case atStart => exact ⟨0, Nat.zero_le _, rfl, erow_nil, Below.refl _ _, fun b hb => by simp [Value.ownBlock] at hb⟩
  case round =>
    obtain ⟨i, hi, rfl, hr, hb, hov⟩ := hrel
    generalize u3 = sv at *
    have HROW := Lib.hid hr
    have HB := Lib.hid hb
    have HOV := Lib.hid hov
    clear hr hb hov
    have hi0' : (0 : Int) ≤ i := by omega
    have hml := lo_len k.p i
    by_cases hlt : i < 33
    · have hlt' : (i : Int) < 33 := by omega
      have VPi := VP.out i hlt
      have HI1 : Hid (i + 1 ≤ 33) := hlt
      have KY := lo_yes (f := k.p) (i := i)
      have KN := lo_no (f := k.p) (i := i)
      have HK := Lib.hid (fun w' (b : Below w.heap.size w w') => isP_any (i : Int) g k w' (H.out.keep b))
      rw [isP_at H.out.ok] at HK
      generalize isS (k.p i) = q at *
      generalize hx : k.p i = x at *
      clear VP hx
      obtain ⟨x1, x2, x3, x4, x5, x6, x7⟩ := x
      have B2 : Hid (Below w.heap.size w (wr.alloc (.cells #[.int .i64 x1, .int .i64 x2, .int .i64 x3, .int .u32 x4, .int .u16 x5, .int .u64 x6, .int .u64 x7] 61))) := HB.out.alloc HB.out.size _
      have X2 : Hid (Cs wr.heap.size [.int .i64 x1, .int .i64 x2, .int .i64 x3, .int .u32 x4, .int .u16 x5, .int .u64 x6, .int .u64 x7] (wr.alloc (.cells #[.int .i64 x1, .int .i64 x2, .int .i64 x3, .int .u32 x4, .int .u16 x5, .int .u64 x6, .int .u64 x7] 61))) := Cs.new wr _ _
      have R1 : Hid (ERow cp 7 61 (wr.alloc (.cells #[.int .i64 x1, .int .i64 x2, .int .i64 x3, .int .u32 x4, .int .u16 x5, .int .u64 x6, .int .u64 x7] 61)) sv (loP k.p i)) := erow_keep HROW.out ((Below.refl _ wr).alloc (Nat.le_refl _) _)
      have K := HK.out _ B2.out
      clear HK gl LD HROW
      go_wp2_with (first | (refine wpList_index_part rfl 71 _ _ rfl VS rfl .i64 i rfl 33 7 61 Try.underlying71 hlt _ Try.underlying61 rfl (by kernel_rfl) _ VPi ?_; simp only [cp]))
      refine K.mono ?_; rintro e w3 ⟨rfl, rfl⟩
      cases q with
      | true =>
        have EQ := Lib.hid (KY rfl)
        clear KY KN K VPi
        have XL := X2.out.lt
        have c0 := X2.out.cell 0 _ rfl
        have c1 := X2.out.cell 1 _ rfl
        have c2 := X2.out.cell 2 _ rfl
        have c3 := X2.out.cell 3 _ rfl
        have c4 := X2.out.cell 4 _ rfl
        have c5 := X2.out.cell 5 _ rfl
        have c6 := X2.out.cell 6 _ rfl
        have WB : Hid (w.heap.size ≤ wr.heap.size) := HB.out.size
        clear X2
        go_upto_region 6 with fail
        generalize (wr.alloc (.cells #[.int .i64 x1, .int .i64 x2, .int .i64 x3, .int .u32 x4, .int .u16 x5, .int .u64 x6, .int .u64 x7] 61)) = w2 at *
        go_wp2_with (at_builtin; refine wpList_append_lies _ rfl (.tmp 17) (.tmp 19) 54 rfl 0 61 i0 _ 7 48 Try.underlying54 hi0 hz0 hz1 hz2 rfl (by omega) sv (loP k.p i).length ((loP k.p i).map cp).flatten rfl (erow_keep R1.out ((Below.refl _ _).alloc (Nat.le_refl _) _)) ⟨_, 0, none⟩ 1 1 (cp ⟨x1, x2, x3, x4, x5, x6, x7⟩) rfl rfl (World.news_of_block (cs := (cp ⟨x1, x2, x3, x4, x5, x6, x7⟩).toArray) (t := 61) (fr := (0, 0)) (heap_alloc_new _ _)) (cp_ones _) (by omega) ?c2 ?c3 ?c4 _ rfl ?_)
        case c2 => unfold maxLen; omega
        case c3 => omega
        case c4 => exact Nat.zero_le _
        intro g1 cap1 w9 hown hgrow hat hlt9
        have fin : Hid (ERow cp 7 61 w9 (.slice (some ⟨g1, 0, none⟩) ((loP k.p i).length + 1) cap1) (loP k.p (i + 1))) := by
          rw [EQ.out]; exact erow_snoc rfl hown
        have QB := B2.out.alloc B2.out.size (.cells (cp ⟨x1, x2, x3, x4, x5, x6, x7⟩).toArray 61)
        have bin := Lib.hid (QB.grown hgrow QB.size (fun k hk => HOV.out k hk))
        have hov : Hid (∀ b, (Value.slice (some ⟨g1, 0, none⟩) ((loP k.p i).length + 1) cap1).ownBlock = some b → w.heap.size ≤ b) := fun b hb => by
          obtain rfl : g1 = b := by injection hb
          rcases hat with h | h
          · exact HOV.out _ h
          · rw [h]; have := B2.out.size; simp; omega
        clear hown hgrow hat QB
        go_wp2
        go_roundw
        case rel => exact ⟨i + 1, HI1.out, by go_num, fin.out, bin.out, hov.out⟩
        case measure => simp [intOf]; omega
      | false =>
        have EQ := Lib.hid (KN rfl)
        clear KY KN K VPi
        go_wp2
        go_roundw
        case rel => exact ⟨i + 1, HI1.out, by go_num, by rw [EQ.out]; exact R1.out, B2.out, HOV.out⟩
        case measure => simp [intOf]; omega
    · obtain rfl : i = 33 := by omega
      obtain ⟨a, cap, hsv⟩ := erow_sl HROW.out
      subst hsv
      have F : Hid (NewE cp 7 61 (allP k.p) w ⟨a, (loP k.p 33).length, cap⟩ wr) := ⟨HROW.out, rfl, HOV.out⟩
      generalize (loP k.p 33).length = n at *
      clear LD VP gl
      go_wp2
      go_ret
      exact ⟨⟨a, n, cap⟩, rfl, F.out, HB.out⟩
end Go.Proofs.Ytpeoallhbbleaaa
