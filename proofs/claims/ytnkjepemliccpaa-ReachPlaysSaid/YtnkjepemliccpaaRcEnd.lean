/- The program's: End. -/
import Derived.Test.YtnkjepemliccpaaRcSee
import Derived.Deep.RegionLaw
namespace Go.Proofs.Ytnkjepemliccpaa
open Go.Sort Go.RowKit Go.BigFrame
set_option linter.unusedVariables false
set_option linter.unusedSimpArgs false

/-- a reach's block, whatever its cells -/
structure Hb (g : Nat) (C : List Value) (w : World) : Prop where
  heap : w.heap[g]? = some (.cells C.toArray 73 (0, 0))
section
variable {g : Nat} {C : List Value} {w w' : World}
theorem Hb.lt (h : Hb g C w) : g < w.heap.size := heap_lt' h.heap
theorem Hb.free (h : Hb g C w) (o : Nat) : w.frozen? ⟨g, o, none⟩ = false := frozen_of_row w g o _ _ h.heap
theorem Hb.at_ (h : Hb g C w) {n : Nat} {u : Value} (hu : C[n]? = some u) : w.cell? ⟨g, n, none⟩ = some u := by
  rw [cell_of_row w g _ _ _ _ h.heap, List.getElem?_toArray]; exact hu
theorem Hb.drew (h : Hb g C w) : Hb g C w.drew := ⟨h.heap⟩
theorem Hb.set (h : Hb g C w) (n : Nat) (v : Value) : Hb g (C.set n v) (w.setCell ⟨g, n, none⟩ v) := by
  refine ⟨?_⟩
  rw [heap_setCell_same w g n _ _ v h.heap]
  simp
theorem Hb.row (h : Hb g C w) (D : List Value) : Hb g D (w.setRow g D.toArray) := ⟨setRow_heap w g _ _ _ _ h.heap⟩
end
/-- a copy into a block, out of it (what stood there ahead of it), as one step of a region that draws -/
theorem step_copy_row {P : Program} {ops : Array Oper} {o : Oper} {a : Act} {w : World} {K : Act → World → Prop} {Q : Exit → Act → World → Prop} {E : Prop} (hgd : o.guard = none) (d s : Operand) (dT sT : TypeId)
    (ho : o.op = .call { callee := .builtin .copy, args := #[d, s], argTypes := #[dT, sT] }) (elem : TypeId) (hu : P.underlying dT = some (.slice elem)) (hsz : (P.info? elem).map (·.size) = some 1)
    (g off dLen dCap sLen sCap : Nat) (ad : Addr) (hd : a.eval d = .slice (some ⟨g, off, none⟩) dLen dCap) (hs : a.eval s = .slice (some ad) sLen sCap)
    (cur : List Value) (t : TypeId) (hg : w.heap[g]? = some (.cells cur.toArray t (0, 0))) (cs : List Value) (hn : cs.length = Nat.min sLen dLen)
    (hsrc : ∀ j v, cs[j]? = some v → w.cell? (ad.add j) = some v) (hfit : off + cs.length ≤ cur.length) (h1 : ∀ v ∈ cs, v.oneCell' = true)
    (h : K (a.put o.dst (goInt cs.length)) (w.setRow g (splice cur off cs).toArray)) :
    if Region.wanted o (yielded ops a.tmps) = true then Oper.wp P o a w K Q else E := by
  have hw : Region.wanted o (yielded ops a.tmps) = true := by simp [Region.wanted, hgd]
  rw [if_pos hw]
  have hrun := run_copy_row (P := P) w dT sT o.type elem g off dLen dCap ad sLen sCap cur.toArray t cs hu hsz hg hn hsrc (by simpa using hfit) h1
  unfold Oper.wp
  simp [execOp, ho, resolve, invoke, builtin, hd, hs, hrun, Result.andThen]
  have h' : K (a.put o.dst (goInt cs.length)) (w.setRow g (List.take off cur ++ (cs ++ List.drop (off + cs.length) cur)).toArray) := h
  exact h'
def EndPost (g : Nat) (k : Rc) (w : World) (e : Ending) (w' : World) : Prop := e = .returned (.bool k.on) ∧ RAft g (endD k) w w'
def endC (k : Rc) : List Value := splice (cR k) 135 ((pastL k.past).take (k.rounds - 1))
theorem end_cells {k : Rc} (h : OkR k) (ho : k.on = true) {n : Int} (hn : n = ((k.got :: k.past).take k.rounds).length) : (((endC k).set 134 (.bool k.got)).set 142 (.int .i64 n)).set 143 (.bool false) = cR (endD k) := by
  subst hn
  have h0 := h.r0; have h1 := h.r1
  have hl : ((pastL k.past).take (k.rounds - 1)).length = k.rounds - 1 := by rw [List.length_take, past_len]; omega
  have e1 : endC k = (hdL k ++ (vsL k.vote).flatten) ++ (splice (pastL k.past) 1 ((pastL k.past).take (k.rounds - 1)) ++ tlL k) := by
    unfold endC
    have := splice_mid (hdL k ++ (vsL k.vote).flatten) (pastL k.past) (tlL k) ((pastL k.past).take (k.rounds - 1)) (a := 134) (by rw [List.length_append, vs_len]; rfl) 1 (by rw [hl, past_len]; omega)
    rw [← this]
    unfold cR; simp only [List.append_assoc]
  have h2 : (splice (pastL k.past) 1 ((pastL k.past).take (k.rounds - 1))).length = 8 := by rw [length_splice _ _ _ (by rw [hl, past_len]; omega), past_len]
  rw [e1, show (134 : Nat) = 134 + 0 from rfl, set_mid3 _ _ _ (by rw [List.length_append, vs_len]; rfl) 0 _ (by rw [h2]; decide)]
  rw [past_end k.got h0 h1 h.len]
  have e3 : ∀ A B : List Value, (hdL k ++ (vsL k.vote).flatten) ++ (A ++ B) = (hdL k ++ (vsL k.vote).flatten ++ A) ++ B := fun A B => by simp only [List.append_assoc]
  rw [e3, show (142 : Nat) = 142 + 0 from rfl, set_mid _ _ (a := 142) (by rw [List.length_append, List.length_append, vs_len, past_len]; rfl) 0]
  rw [show (143 : Nat) = 142 + 1 from rfl, set_mid _ _ (a := 142) (by rw [List.length_append, List.length_append, vs_len, past_len]; rfl) 1]
  unfold endD
  rw [if_pos ho]
  unfold cR; simp only [List.append_assoc]; rfl
set_option maxHeartbeats 3200000 in
theorem end_any (g : Nat) (k : Rc) (w : World) (h : Rs g k w) : Calls Try.prog 16 #[.pointer (some ⟨g, 0, none⟩)] w (EndPost g k w) := by
  unfold EndPost
  have gl := h.lt
  have c1 := h.tl 1 _ rfl
  cases ho : k.on with
  | false =>
    have e2 : endD k = k := by unfold endD; rw [ho, if_neg (by decide)]
    rw [e2]
    rw [ho] at c1
    go_enter Try.func16, Try.ntmps16
    go_wp2
    refine bodyPost_ret (v := (.bool false)) (by simp [results, Try.results16, go_sem, *]) rfl ?_
    exact ⟨rfl, h.same (Below.refl _ _)⟩
  | true =>
    have HE : Hid (∀ n : Int, n = ((k.got :: k.past).take k.rounds).length → (((endC k).set 134 (.bool k.got)).set 142 (.int .i64 n)).set 143 (.bool false) = cR (endD k)) := fun n => end_cells h.ok ho
    have HO := Lib.hid (end_ok h.ok)
    rw [ho] at c1
    have r0 := h.ok.r0
    have r1 := h.ok.r1
    have rl := h.ok.len
    have c0 := h.hd 0 _ rfl
    have A1 : Hid (Hb g (cR k) w.drew) := ⟨h.heap⟩
    have hP : Hid (∀ j u, ((pastL k.past).take (k.rounds - 1))[j]? = some u → w.drew.cell? ((⟨g, 134, none⟩ : Addr).add j) = some u) := fun j u hu => by
      rw [add_at]
      have hj := (List.getElem?_eq_some_iff.1 hu).1
      rw [List.length_take, past_len] at hj
      rw [List.getElem?_take, if_pos (by omega)] at hu
      rw [past_at _ (by omega)] at hu
      rw [← hu]
      exact h.past j (by omega)
    have hL : ((pastL k.past).take (k.rounds - 1)).length = Nat.min 8 (k.rounds - 1) := by
      rw [List.length_take, past_len]
      show min _ _ = min _ _
      omega
    have hfit : 135 + ((pastL k.past).take (k.rounds - 1)).length ≤ (cR k).length := by rw [cR_len, List.length_take, past_len]; omega
    have h1c : ∀ v ∈ (pastL k.past).take (k.rounds - 1), v.oneCell' = true := fun v hv => by
      obtain ⟨i, _, rfl⟩ := List.mem_map.1 (List.mem_of_mem_take hv)
      rfl
    -- the worlds behind
    have T0 : Hid (Touch (fun b => b = g) w w.drew) := (Touch.refl _ w).drew
    have hE0 : endC k = splice (cR k) 135 ((pastL k.past).take (k.rounds - 1)) := rfl
    have A2 : Hid (Hb g (endC k) (w.drew.setRow g (endC k).toArray)) := A1.out.row _
    have T2 : Hid (Touch (fun b => b = g) w (w.drew.setRow g (endC k).toArray)) := T0.out.trans (w' := w.drew) (F' := fun b => b = g) ⟨rfl, rfl, rfl, by simp, fun b _ hb => setRow_other _ g b _ hb⟩ (fun _ _ h => h)
    have hEl : (endC k).length = 146 := by rw [hE0, length_splice _ _ _ hfit, cR_len]
    have eA : ∀ n u, 142 ≤ n → (cR k)[n]? = some u → (endC k)[n]? = some u := fun n u hn hu => by
      rw [hE0]; unfold splice
      rw [List.getElem?_append_right (by rw [List.length_take, cR_len]; omega), List.getElem?_append_right (by rw [List.length_take, List.length_take, cR_len, past_len]; omega), List.getElem?_drop, ← hu]
      congr 1
      rw [List.length_take, List.length_take, cR_len, past_len]; omega
    have eB : (endC k)[0]? = some (.int .i64 k.rounds) := by
      rw [hE0]; unfold splice
      rw [List.getElem?_append_left (by rw [List.length_take, cR_len]; omega), List.getElem?_take, if_pos (by omega)]
      exact cR_hd k (n := 0) rfl
    have eC : ∃ u, (endC k)[134]? = some u := ⟨_, List.getElem?_eq_getElem (by omega)⟩
    obtain ⟨u134, eC⟩ := eC
    have e0 := eB
    have e145 := eA 145 _ (by decide) (cR_tl k (n := 3) rfl)
    have e142 := eA 142 _ (by decide) (cR_tl k (n := 0) rfl)
    have e143 := eA 143 _ (by decide) (cR_tl k (n := 1) rfl)
    obtain ⟨n', hn'⟩ : ∃ n' : Int, n' = ((k.got :: k.past).take k.rounds).length := ⟨_, rfl⟩
    have hmin : n' = if (k.rounds : Int) < (k.past.length : Int) + 1 then (k.rounds : Int) else (k.past.length : Int) + 1 := by rw [hn', List.length_take, List.length_cons]; split <;> omega
    replace HE := Lib.hid (HE.out n' hn')
    clear hn' eA h
    generalize endC k = C at *
    generalize (pastL k.past).take (k.rounds - 1) = D at *
    have hpl : k.past.length ≤ 8 := by omega
    clear rl
    generalize k.past.length = pl at *
    generalize k.got = gt at *
    generalize hr : k.rounds = r at *
    have r2 : (1 : Int) ≤ r := by omega
    have r3 : (r : Int) ≤ 8 := by omega
    have r4 : (0 : Int) ≤ r := by omega
    go_enter Try.func16, Try.ntmps16
    go_upto_region 3 with fail
    clear c1
    go_region_law (refine step_copy_row (by rfl) (.tmp 15) (.tmp 19) 53 53 (by rfl) 4 (by rfl) (by rfl) g 135 (r - 1) 7 8 8 ⟨g, 134, none⟩ (by rfl) (by rfl) (cR k) 73 A1.out.heap D hL hP.out hfit h1c ?_)
    rw [← hE0]
    clear hE0 hP hL hfit h1c c0 A1 T0
    generalize (w.drew.setRow g C.toArray) = w2 at *
    have A3 := Lib.hid A2.out.drew
    have T3 := Lib.hid T2.out.drew
    have A4 : Hid (Hb g (C.set 134 (.bool gt)) (w2.setCell ⟨g, 134, none⟩ (.bool gt)).drew) := (A2.out.set 134 (.bool gt)).drew
    have T4 : Hid (Touch (fun b => b = g) w (w2.setCell ⟨g, 134, none⟩ (.bool gt)).drew) := (Touch.set (F := fun b => b = g) T2.out (a := ⟨g, 134, none⟩) (fun _ => rfl) (.bool gt)).drew
    clear A2 T2
    go_upto_region 4 with fail
    have x145 := A3.out.at_ e145
    have x134 := A3.out.at_ eC
    have fr := fun o => A3.out.free o
    have gl3 := A3.out.lt
    go_region
    clear x145 x134 fr gl3 A3 T3
    go_upto_region 5 with fail
    generalize (w2.setCell ⟨g, 134, none⟩ (.bool gt)).drew = w3 at *
    have A5 := Lib.hid A4.out.drew
    have A6 := Lib.hid (A4.out.set 142 (.int .i64 n')).drew
    have T6 := Lib.hid (Touch.set (F := fun b => b = g) T4.out (a := ⟨g, 142, none⟩) (fun _ => rfl) (.int .i64 n')).drew
    have x0 := A5.out.at_ (n := 0) (u := .int .i64 r) (by rw [List.getElem?_set_ne (by decide)]; exact e0)
    have x142 := A5.out.at_ (n := 142) (u := .int .i64 pl) (by rw [List.getElem?_set_ne (by decide)]; exact e142)
    have fr := fun o => A5.out.free o
    have gl3 := A5.out.lt
    have p1 := IntWalk.i64_in ((pl : Int) + 1) ⟨by omega, by omega⟩
    clear A5 A4 T4
    go_region
    clear x0 x142 fr gl3
    rw [← hmin]
    generalize (w3.setCell ⟨g, 142, none⟩ (.int .i64 n')).drew = w4 at *
    have x143 := A6.out.at_ (n := 143) (u := .bool k.on) (by rw [List.getElem?_set_ne (by decide), List.getElem?_set_ne (by decide)]; exact e143)
    have fr := fun o => A6.out.free o
    have gl3 := A6.out.lt
    have A7 := A6.out.set 143 (.bool false)
    rw [HE.out] at A7
    have AF : Hid (RAft g (endD k) w (w4.setCell ⟨g, 143, none⟩ (.bool false))) := ⟨⟨A7.heap, HO.out⟩, Touch.set (F := fun b => b = g) T6.out (a := ⟨g, 143, none⟩) (fun _ => rfl) (.bool false)⟩
    clear A7 A6 T6
    go_wp2
    refine bodyPost_ret (v := (.bool true)) (by simp [results, Try.results16, go_sem, *]) rfl ?_
    exact ⟨rfl, AF.out⟩
end Go.Proofs.Ytnkjepemliccpaa
