/- The program's: See, Reset. -/
import Derived.Test.YtnkjepemliccpaaRcSmall
namespace Go.Proofs.Ytnkjepemliccpaa
open Go.Sort Go.RowKit Go.BigFrame
set_option linter.unusedVariables false
set_option linter.unusedSimpArgs false
def SeePost (g : Nat) (k : Rc) (i : Int) (ip pt : Nat) (now : Int) (w : World) (e : Ending) (w' : World) : Prop := e = .returned (.int .i64 (seeE i ip pt now)) ∧ RAft g (seeD k i ip pt now) w w'
set_option maxHeartbeats 3200000 in
theorem see_any (i : Int) (ip pt : Nat) (now : Int) (hn : 0 ≤ now) (hi : ip < 4294967296) (hp : pt < 65536) (g : Nat) (k : Rc) (w : World) (h : Rs g k w) :
    Calls Try.prog 20 #[.pointer (some ⟨g, 0, none⟩), .int .i64 i, .agg #[.int .u32 ip, .int .u16 pt], .int .u64 now] w (SeePost g k i ip pt now w) := by
  unfold SeePost
  have HB := Lib.hid (see_ok h.ok i ip pt now hn hi hp)
  have B : Hid (Below w.heap.size w (w.alloc (.cells #[.int .u32 ip, .int .u16 pt] 35))) := (Below.refl _ w).alloc (Nat.le_refl _) _
  have X : Hid (Cs w.heap.size [.int .u32 ip, .int .u16 pt] (w.alloc (.cells #[.int .u32 ip, .int .u16 pt] 35))) := Cs.new w _ _
  have HW := Lib.hid (fun w' (b : Below w.heap.size w w') => h.same b)
  have K1 := node_any i
  have K2 := fun w => none_any ip pt hi hp w
  have HE : Hid (seeE i ip pt now = if nodeI i = false ∨ noneI ip pt = true ∨ 4611686018427387904 < now then 1 else 0) := rfl
  have HD : Hid (seeD k i ip pt now = if seeE i ip pt now = 0 then { k with vote := updV k.vote i.toNat ⟨i, ip, pt, now⟩ } else k) := rfl
  generalize hN : noneI ip pt = nn at *
  cases q : nodeI i with
  | false =>
    rw [q] at K1
    have e1 : seeE i ip pt now = 1 := by rw [HE.out, if_pos (.inl q)]
    have e2 : seeD k i ip pt now = k := by rw [HD.out, e1, if_neg (by decide)]
    rw [e1, e2]
    clear HE HD HB e1 e2 K2 q X
    go_enter Try.func20, Try.ntmps20
    go_wp2_with fail
    refine (K1 _).mono ?_; rintro e w1 ⟨rfl, rfl⟩
    go_wp2
    refine bodyPost_ret (v := (.int .i64 1)) (by simp [results, Try.results20, go_sem, *]) rfl ?_
    exact ⟨rfl, HW.out _ B.out⟩
  | true =>
    rw [q] at K1
    cases nn with
    | true =>
      have e1 : seeE i ip pt now = 1 := by rw [HE.out, if_pos (.inr (.inl rfl))]
      have e2 : seeD k i ip pt now = k := by rw [HD.out, e1, if_neg (by decide)]
      rw [e1, e2]
      clear HE HD HB e1 e2 q
      go_enter Try.func20, Try.ntmps20
      go_upto_region 1 with fail
      generalize (w.alloc (.cells #[.int .u32 ip, .int .u16 pt] 35)) = w1 at *
      generalize w.heap.size = b at X ⊢
      have x0 := X.out.cell 0 _ rfl
      have x1 := X.out.cell 1 _ rfl
      have xl := X.out.lt
      go_wp2_with fail
      refine (K1 _).mono ?_; rintro e w2 ⟨rfl, rfl⟩
      go_wp2_with fail
      refine (K2 _).mono ?_; rintro e w2 ⟨rfl, b2⟩
      have F := Lib.hid (HW.out _ (B.out.trans (b2.mono B.out.size)))
      go_wp2
      refine bodyPost_ret (v := (.int .i64 1)) (by simp [results, Try.results20, go_sem, *]) rfl ?_
      exact ⟨rfl, F.out⟩
    | false =>
      by_cases hw : 4611686018427387904 < now
      · have e1 : seeE i ip pt now = 1 := by rw [HE.out, if_pos (.inr (.inr hw))]
        have e2 : seeD k i ip pt now = k := by rw [HD.out, e1, if_neg (by decide)]
        have d1 : decide (4611686018427387904 < now) = true := decide_eq_true hw
        rw [e1, e2]
        clear HE HD HB e1 e2 q
        go_enter Try.func20, Try.ntmps20
        go_upto_region 1 with fail
        generalize (w.alloc (.cells #[.int .u32 ip, .int .u16 pt] 35)) = w1 at *
        generalize w.heap.size = b at X ⊢
        have x0 := X.out.cell 0 _ rfl
        have x1 := X.out.cell 1 _ rfl
        have xl := X.out.lt
        go_wp2_with fail
        refine (K1 _).mono ?_; rintro e w2 ⟨rfl, rfl⟩
        go_wp2_with fail
        refine (K2 _).mono ?_; rintro e w2 ⟨rfl, b2⟩
        have F := Lib.hid (HW.out _ (B.out.trans (b2.mono B.out.size)))
        go_wp2
        refine bodyPost_ret (v := (.int .i64 1)) (by simp [results, Try.results20, go_sem, *]) rfl ?_
        exact ⟨rfl, F.out⟩
      · have d1 : decide (4611686018427387904 < now) = false := decide_eq_false hw
        have e1 : seeE i ip pt now = 0 := by rw [HE.out, if_neg (by simp [q, hw])]
        have hq := nodeI_iff.1 q
        obtain ⟨n, rfl⟩ : ∃ n : Nat, i = n := ⟨i.toNat, by omega⟩
        have e2 : seeD k n ip pt now = { k with vote := updV k.vote n ⟨n, ip, pt, now⟩ } := by rw [HD.out, e1, if_pos rfl]; rfl
        rw [e2] at HB
        rw [e1, e2]
        have hn1 : n < 33 := by omega
        have hn2 : (n : Int) < 33 := by omega
        have hn0 : (0 : Int) ≤ n := by omega
        have HS := Lib.hid (fun w' (b : Below w.heap.size w w') => RAft.after b ((h.keep b).sets (2 + n * 4) (cv ⟨n, ip, pt, now⟩) (by rw [cv_len]; omega) (cR_put k hn1 _) HB.out))
        have HC := Lib.hid (fun w' (b : Below w.heap.size w w') j u hu => (h.keep b).vote n hn1 j u hu)
        have HF := Lib.hid (fun w' (b : Below w.heap.size w w') o => (h.keep b).free o)
        have HL := Lib.hid (fun w' (b : Below w.heap.size w w') => (h.keep b).lt)
        clear HE HD HB e1 e2 q HW hq h hw
        generalize k.vote n = x at HC
        go_enter Try.func20, Try.ntmps20
        go_upto_region 1 with fail
        generalize (w.alloc (.cells #[.int .u32 ip, .int .u16 pt] 35)) = w1 at *
        generalize w.heap.size = b at X ⊢
        have x0 := X.out.cell 0 _ rfl
        have x1 := X.out.cell 1 _ rfl
        have xl := X.out.lt
        go_wp2_with fail
        refine (K1 _).mono ?_; rintro e w2 ⟨rfl, rfl⟩
        go_wp2_with fail
        refine (K2 _).mono ?_; rintro e w2 ⟨rfl, b2⟩
        have B2 := Lib.hid (B.out.trans (b2.mono B.out.size))
        have X2 := Lib.hid (X.out.keep b2)
        clear x0 x1 xl X K1 K2 b2
        go_upto_region 3 with fail
        have B3 := Lib.hid B2.out.drew
        have x0 := X2.out.cell 0 _ rfl
        have x1 := X2.out.cell 1 _ rfl
        have xl := X2.out.lt
        have c0 := HC.out _ B2.out 0 _ rfl
        have c1 := HC.out _ B2.out 1 _ rfl
        have c2 := HC.out _ B2.out 2 _ rfl
        have c3 := HC.out _ B2.out 3 _ rfl
        have fr := HF.out _ B2.out
        have gl := HL.out _ B2.out
        simp only [Nat.add_zero] at c0
        have F := Lib.hid (HS.out _ B3.out)
        simp only [cv] at F
        clear HC HF HL HS X2 B2 B3
        go_region
        go_wp2
        refine bodyPost_ret (v := (.int .i64 0)) (by simp [results, Try.results20, go_sem, *]) rfl ?_
        exact ⟨rfl, F.out⟩
theorem wp_build_eq {P : Program} {o : Oper} {a : Act} {w : World} {K : Act → World → Prop} {Q : Exit → Act → World → Prop} (t : TypeId) (parts : Array (Nat × Operand)) (ho : o.op = .build t parts) (cells : Array Value)
    (vals : List (Nat × Value)) (hv : (parts.map fun (i, x) => (i, a.eval x)).toList = vals) (hf : P.built t vals = some cells) (h : K (a.put o.dst (.agg cells)) w) : o.wp P a w K Q :=
  wp_build t parts ho (by rw [hv, hf]; rfl) (by rw [hv, hf]; exact h)
/-- what a reset leaves -/
def resetD (k : Rc) : Rc := newR k.rounds k.hold
set_option maxHeartbeats 3200000 in
theorem reset_any (g : Nat) (k : Rc) (w : World) (h : Rs g k w) :
    Calls Try.prog 18 #[.pointer (some ⟨g, 0, none⟩)] w fun e w' => e = .returned (.tuple #[]) ∧ RAft g (resetD k) w w' := by
  have hB := new_built k.rounds k.hold
  have F := Lib.hid (RAft.after ((Below.refl _ w).drew) ((h.keep ((Below.refl _ w).drew)).row (reset_ok h.ok)))
  have HH := Lib.hid (h.keep ((Below.refl _ w).drew))
  have gl := HH.out.lt
  have S0 : Hid (w.drew.cell? ⟨g, 0, none⟩ = some (.int .i64 k.rounds) ∧ w.drew.cell? ⟨g, 1, none⟩ = some (.int .u64 k.hold)) := ⟨HH.out.hd 0 _ rfl, HH.out.hd 1 _ rfl⟩
  unfold resetD
  have hl : (cR (newR k.rounds k.hold)).toArray.size = 146 := by rw [List.size_toArray, cR_len]
  have hO : (cR (newR k.rounds k.hold)).toArray.all (·.oneCell') = true := by
    rw [Array.all_eq_true_iff_forall_mem]; intro x hx; exact cR_ones _ x (by simpa using hx)
  have T1 : Hid ((w.drew.setRow g (cR (newR k.rounds k.hold)).toArray).cell? ⟨g, 0, none⟩ = some (.int .i64 k.rounds) ∧ (w.drew.setRow g (cR (newR k.rounds k.hold)).toArray).cell? ⟨g, 1, none⟩ = some (.int .u64 k.hold)) := ⟨F.out.1.hd 0 _ rfl, F.out.1.hd 1 _ rfl⟩
  generalize (cR (newR k.rounds k.hold)).toArray = X at *
  have hI : (Try.prog.info? 73).map (·.size) = some X.size := by rw [hl]; kernel_rfl
  go_enter Try.func18, Try.ntmps18
  go_upto_region 0 with fail
  refine wp_region_held_drew (S := fun w' => w'.cell? ⟨g, 0, none⟩ = some (.int .i64 k.rounds) ∧ w'.cell? ⟨g, 1, none⟩ = some (.int .u64 k.hold)) (by kernel_rfl) S0.out (fun hHeld => ?_)
  refine wpAnyH_take (i := 0) (v := ?_) rfl (by kernel_rfl) (by kernel_rfl) (by kernel_rfl) (fun _ _ _ h => h) (Or.inl ⟨by rfl, ?_⟩) (by assumption) ?_; rotate_left 1; (focus (intro w hSw; (try dsimp only at hSw); go_simp; (try with_reducible rfl))); (try simp only [Act.put, List.setIfInBounds_toArray, List.set_cons_zero, List.set_cons_succ]); try simp only [Act.put, List.getElem_toArray, List.getElem_cons_zero, List.getElem_cons_succ, List.setIfInBounds_toArray, List.set_cons_zero, List.set_cons_succ]
  refine wpAnyH_take (i := 1) (v := ?_) rfl (by kernel_rfl) (by kernel_rfl) (by kernel_rfl) (fun _ _ _ h => h) (Or.inl ⟨by rfl, ?_⟩) (by assumption) ?_; rotate_left 1; (focus (intro w hSw; (try dsimp only at hSw); go_simp; (try with_reducible rfl))); (try simp only [Act.put, List.setIfInBounds_toArray, List.set_cons_zero, List.set_cons_succ]); try simp only [Act.put, List.getElem_toArray, List.getElem_cons_zero, List.getElem_cons_succ, List.setIfInBounds_toArray, List.set_cons_zero, List.set_cons_succ]
  refine wpAnyH_take (i := 2) (v := ?_) rfl (by kernel_rfl) (by kernel_rfl) (by kernel_rfl) (fun _ _ _ h => h) (Or.inl ⟨by rfl, ?_⟩) (by assumption) ?_; rotate_left 1; (focus (intro w hSw; (try dsimp only at hSw); go_simp; (try with_reducible rfl))); (try simp only [Act.put, List.setIfInBounds_toArray, List.set_cons_zero, List.set_cons_succ]); try simp only [Act.put, List.getElem_toArray, List.getElem_cons_zero, List.getElem_cons_succ, List.setIfInBounds_toArray, List.set_cons_zero, List.set_cons_succ]
  refine wpAnyH_take (i := 3) (v := ?_) rfl (by kernel_rfl) (by kernel_rfl) (by kernel_rfl) (fun _ _ _ h => h) (Or.inl ⟨by rfl, ?_⟩) (by assumption) ?_; rotate_left 1; (focus (intro w hSw; (try dsimp only at hSw); go_simp; (try with_reducible rfl))); (try simp only [Act.put, List.setIfInBounds_toArray, List.set_cons_zero, List.set_cons_succ]); try simp only [Act.put, List.getElem_toArray, List.getElem_cons_zero, List.getElem_cons_succ, List.setIfInBounds_toArray, List.set_cons_zero, List.set_cons_succ]
  refine wpAnyH_take (i := 4) (v := ?_) rfl (by kernel_rfl) (by kernel_rfl) (by kernel_rfl) (fun _ _ _ h => h) (Or.inl ⟨by rfl, ?_⟩) (by assumption) ?_; rotate_left 1; (focus (intro w hSw; (try dsimp only at hSw); go_simp; (try with_reducible rfl))); (try simp only [Act.put, List.setIfInBounds_toArray, List.set_cons_zero, List.set_cons_succ]); try simp only [Act.put, List.getElem_toArray, List.getElem_cons_zero, List.getElem_cons_succ, List.setIfInBounds_toArray, List.set_cons_zero, List.set_cons_succ]
  refine wpAnyH_take (i := 5) (v := ?_) rfl (by kernel_rfl) (by kernel_rfl) (by kernel_rfl) (fun _ _ _ h => h) (Or.inl ⟨by rfl, ?_⟩) (by assumption) ?_; rotate_left 1; (focus (intro w hSw; (try dsimp only at hSw); go_simp; (try with_reducible rfl))); (try simp only [Act.put, List.setIfInBounds_toArray, List.set_cons_zero, List.set_cons_succ]); try simp only [Act.put, List.getElem_toArray, List.getElem_cons_zero, List.getElem_cons_succ, List.setIfInBounds_toArray, List.set_cons_zero, List.set_cons_succ]
  refine wpAnyH_take (i := 6) (v := ?_) rfl (by kernel_rfl) (by kernel_rfl) (by kernel_rfl) (fun _ _ _ h => h) (Or.inl ⟨by rfl, ?_⟩) (by assumption) ?_; rotate_left 1; (focus (intro w hSw; (try dsimp only at hSw); go_simp; (try with_reducible rfl))); (try simp only [Act.put, List.setIfInBounds_toArray, List.set_cons_zero, List.set_cons_succ]); try simp only [Act.put, List.getElem_toArray, List.getElem_cons_zero, List.getElem_cons_succ, List.setIfInBounds_toArray, List.set_cons_zero, List.set_cons_succ]
  refine wpAnyH_take (i := 7) (v := ?_) rfl (by kernel_rfl) (by kernel_rfl) (by kernel_rfl) (fun _ _ _ h => h) (Or.inl ⟨by rfl, ?_⟩) (by assumption) ?_; rotate_left 1; (focus (intro w hSw; (try dsimp only at hSw); go_simp; (try with_reducible rfl))); (try simp only [Act.put, List.setIfInBounds_toArray, List.set_cons_zero, List.set_cons_succ]); try simp only [Act.put, List.getElem_toArray, List.getElem_cons_zero, List.getElem_cons_succ, List.setIfInBounds_toArray, List.set_cons_zero, List.set_cons_succ]
  refine wpAnyH_take (i := 8) (v := ?_) rfl (by kernel_rfl) (by kernel_rfl) (by kernel_rfl) (fun _ _ _ h => h) (Or.inl ⟨by rfl, ?_⟩) (by assumption) ?_; rotate_left 1; (focus (intro w hSw; (try dsimp only at hSw); go_simp; (try with_reducible rfl))); (try simp only [Act.put, List.setIfInBounds_toArray, List.set_cons_zero, List.set_cons_succ]); try simp only [Act.put, List.getElem_toArray, List.getElem_cons_zero, List.getElem_cons_succ, List.setIfInBounds_toArray, List.set_cons_zero, List.set_cons_succ]
  refine wpAnyH_ready (rs := [9]) (by kernel_rfl) (by simp) ?_
  refine AllReadyH.cons rfl (fun K hK => ?_) AllReadyH.nil
  rw [if_pos (by simp [Region.wanted])]
  refine wp_build_eq 73 #[(0, .tmp 6), (1, .tmp 10)] rfl X _ (by kernel_rfl) hB ?_
  refine hK.out _ _ hHeld (fun hHeld => ?_); clear hK K
  refine wpAnyH_take (i := 10) (v := ?_) rfl (by kernel_rfl) (by kernel_rfl) (by kernel_rfl) (fun _ _ _ h => h) (Or.inl ⟨by rfl, ?_⟩) (by assumption) ?_; rotate_left 1; (focus (intro w hSw; (try dsimp only at hSw); go_simp; (try with_reducible rfl))); (try simp only [Act.put, List.setIfInBounds_toArray, List.set_cons_zero, List.set_cons_succ]); try simp only [Act.put, List.getElem_toArray, List.getElem_cons_zero, List.getElem_cons_succ, List.setIfInBounds_toArray, List.set_cons_zero, List.set_cons_succ]
  refine wpAnyH_ready (rs := [11]) (by kernel_rfl) (by simp) ?_
  refine AllReadyH.cons rfl (fun K hK => ?_) AllReadyH.nil
  rw [if_pos (by simp [Region.wanted])]
  refine wp_store_row 73 (.tmp 12) (.tmp 11) rfl g X (by kernel_rfl) (by kernel_rfl) _ _ HH.out.heap hI (by rw [List.size_toArray, cR_len, hl]) hO ?_
  refine hK.out _ _ (T1.out) (fun hHeld => ?_); clear hK K
  refine wpAnyH_done (by kernel_rfl) ?_ _
  refine bodyPost_end (v := .tuple #[]) (by simp [results, Try.results18, go_sem]) rfl ?_
  exact ⟨rfl, F.out⟩
end Go.Proofs.Ytnkjepemliccpaa
