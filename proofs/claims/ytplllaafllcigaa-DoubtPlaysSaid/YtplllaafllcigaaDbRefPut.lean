/- The reference's Begin. -/
import Derived.Test.YtplllaafllcigaaDbRefCut
namespace Go.Proofs.Ytplllaafllcigaa
open Go.Sort Go.RowKit Go.BigFrame
set_option linter.unusedVariables false
set_option linter.unusedSimpArgs false

def RBeginPost (g : Nat) (u : Sl) (P : List (It × Sl)) (k : Nat → It) (i inc now hold : Int) (w : World) (e : Ending) (w' : World) : Prop := e = .returned (.int .i64 (beginE k i inc now hold)) ∧ RAft g u P (beginD k i inc now hold) w w'
set_option maxHeartbeats 1600000 in
theorem rbegin_arg (i inc now hold : Int) (g : Nat) (u : Sl) (P : List (It × Sl)) (k : Nat → It) (w : World) (h : Rs g u P k w) (ha : argB i now hold = true) :
    Calls Try.prog 19 #[.pointer (some ⟨g, 0, none⟩), .int .i64 i, .int .u32 inc, .int .u64 now, .int .u64 hold] w (RBeginPost g u P k i inc now hold w) := by
  unfold RBeginPost
  have e1 := beginE_arg (k := k) (inc := inc) ha
  rw [beginD_no (by rw [e1]; decide), e1]
  have SAME := Lib.hid (h.same (Below.refl _ _))
  clear h e1
  by_cases c1 : i < 1
  · have d1 : decide (i < 1) = true := decide_eq_true c1
    clear ha c1
    go_enter Try.func19, Try.ntmps19
    go_wp2
    refine bodyPost_ret (v := (.int .i64 1)) (by simp [results, Try.results19, go_sem, *]) rfl ?_
    exact ⟨rfl, SAME.out⟩
  · have d1 : decide (i < 1) = false := decide_eq_false c1
    by_cases c2 : 32 < i
    · have d2 : decide (32 < i) = true := decide_eq_true c2
      clear ha c1 c2
      go_enter Try.func19, Try.ntmps19
      go_wp2
      refine bodyPost_ret (v := (.int .i64 1)) (by simp [results, Try.results19, go_sem, *]) rfl ?_
      exact ⟨rfl, SAME.out⟩
    · have d2 : decide (32 < i) = false := decide_eq_false c2
      have q : nodeI i = true := nodeI_iff.2 ⟨by omega, by omega⟩
      unfold argB at ha
      rw [q] at ha
      by_cases c3 : 4611686018427387904 < now
      · have d3 : decide (4611686018427387904 < now) = true := decide_eq_true c3
        clear ha c1 c2 c3 q
        go_enter Try.func19, Try.ntmps19
        go_wp2
        refine bodyPost_ret (v := (.int .i64 1)) (by simp [results, Try.results19, go_sem, *]) rfl ?_
        exact ⟨rfl, SAME.out⟩
      · have d3 : decide (4611686018427387904 < now) = false := decide_eq_false c3
        by_cases c4 : hold = 0
        · have d4 : (hold == 0) = true := beq_iff_eq.2 c4
          clear ha c1 c2 c3 c4 q
          go_enter Try.func19, Try.ntmps19
          go_wp2
          refine bodyPost_ret (v := (.int .i64 1)) (by simp [results, Try.results19, go_sem, *]) rfl ?_
          exact ⟨rfl, SAME.out⟩
        · have d4 : (hold == 0) = false := beq_eq_false_iff_ne.2 c4
          have d5 : decide (1000000 < hold) = true := by
            rw [d3, d4] at ha
            simpa using ha
          clear ha c1 c2 c3 c4 q
          go_enter Try.func19, Try.ntmps19
          go_wp2
          refine bodyPost_ret (v := (.int .i64 1)) (by simp [results, Try.results19, go_sem, *]) rfl ?_
          exact ⟨rfl, SAME.out⟩
set_option maxHeartbeats 6400000 in
set_option maxRecDepth 100000 in
theorem rbegin_any (i inc now hold : Int) (hnn : 0 ≤ now) (hhn : 0 ≤ hold) (g : Nat) (u : Sl) (P : List (It × Sl)) (k : Nat → It) (w : World) (h : Rs g u P k w) :
    Calls Try.prog 19 #[.pointer (some ⟨g, 0, none⟩), .int .i64 i, .int .u32 inc, .int .u64 now, .int .u64 hold] w (RBeginPost g u P k i inc now hold w) := by
  cases ha : argB i now hold with
  | true => exact rbegin_arg i inc now hold g u P k w h ha
  | false =>
    have K := find_any i g u P k w h
    have hbok := begin_ok h.ok i inc now hold hnn hhn
    have hold0 := ha
    obtain ⟨a1, a2, a3, a4, a5⟩ := begin_arg ha
    obtain ⟨n, rfl⟩ : ∃ n : Nat, i = n := ⟨i.toNat, by omega⟩
    have hn : n < 33 := by omega
    have d1 : decide ((n : Int) < 1) = false := decide_eq_false (by omega)
    have d2 : decide ((32 : Int) < n) = false := decide_eq_false (by omega)
    have d3 : decide (4611686018427387904 < now) = false := decide_eq_false (by omega)
    have d4 : (hold == 0) = false := beq_eq_false_iff_ne.2 a4
    have d5 : decide (1000000 < hold) = false := decide_eq_false (by omega)
    have hsn : suspI k n = susp (k n) := by unfold suspI; rw [nodeI_iff.2 ⟨a1, a2⟩, Int.toNat_natCast, Bool.true_and]
    obtain ⟨x, hx⟩ : ∃ x : It, x = ⟨n, inc, now, hold, []⟩ := ⟨_, rfl⟩
    have hxs : susp x = true := by rw [hx]; exact susp_yes (by show 1 ≤ hold; omega)
    have XW : Hid (x.who = []) := by show _ = _; rw [hx]
    unfold RBeginPost
    obtain ⟨j, hj⟩ : ∃ j, atL n (allL k) = j := ⟨_, rfl⟩
    rw [hj] at K
    rw [hsn] at K
    cases hs : susp (k n) with
    | true =>
      rw [hs] at K
      have hun := h.n
      have hp33 := h.len33
      obtain ⟨s, hxx, _, _⟩ := h.at_ hn hs
      rw [hj] at hxx
      have hml : j < P.length := (List.getElem?_eq_some_iff.1 hxx).1
      have hm0 : (0 : Int) ≤ j := by omega
      have hm1 : (j : Int) < P.length := by omega
      by_cases hq : inc ≤ (k n).inc
      · have e1 := beginE_old (k := k) (inc := inc) ha ⟨by rw [hsn, hs], by rw [Int.toNat_natCast]; exact hq⟩
        rw [beginD_no (by rw [e1]; decide), e1]
        have d6 : decide (inc ≤ (k n).inc) = true := decide_eq_true hq
        have SAME := Lib.hid (fun w1 hb => h.same (w' := w1) hb)
        have KX : Hid (∀ w1, Below w.heap.size w w1 → Rs g u P k w1) := fun w1 b1 => h.keep b1
        obtain ⟨av, un, uc⟩ := u
        simp only at hun
        subst hun
        clear e1 ha hold0 a1 a2 a3 a4 a5 hbok hj hq h hx hxs hsn hs
        go_enter Try.func19, Try.ntmps19
        go_wp2_with fail
        refine K.mono ?_; rintro e w1 ⟨rfl, b1⟩
        obtain ⟨b, hb, hbl, cc⟩ := (KX.out w1 b1).cells hxx
        simp only at hb
        subst hb
        have g0 := (KX.out w1 b1).box.cell 0 _ rfl
        have gl := (KX.out w1 b1).box.lt
        have c1 := cc 1 _ rfl
        clear cc K hxx
        change w1.cell? ⟨b, j * 5 + 1, none⟩ = some (.int .u32 (k n).inc) at c1
        generalize (k n).inc = y at *
        go_wp2
        refine bodyPost_ret (v := (.int .i64 6)) (by simp [results, Try.results19, go_sem, *]) rfl ?_
        exact ⟨rfl, SAME.out _ b1⟩
      · have e1 := beginE_zero (k := k) (inc := inc) ha (by rw [Int.toNat_natCast]; exact fun e => hq e.2)
        rw [beginD_yes e1] at hbok ⊢
        rw [e1]
        rw [Int.toNat_natCast, ← hx] at hbok ⊢
        have d6 : decide (inc ≤ (k n).inc) = false := decide_eq_false hq
        have KC := Lib.hid (fun w1 (b1 : Below w.heap.size w w1) => cut_any n j hn g u P k w1 (h.keep b1) hs hj)
        have KX : Hid (∀ w1, Below w.heap.size w w1 → Rs g u P k w1) := fun w1 b1 => h.keep b1
        obtain ⟨k1, hk1⟩ : ∃ k1, updD k n zIt = k1 := ⟨_, rfl⟩
        have hok1 : OkD k1 := by rw [← hk1]; exact h.ok.cut n
        have hs1 : susp (k1 n) = false := by rw [← hk1, updD_same]; rfl
        have hj1 : atL n (allL k1) = j := by rw [at_all hok1 hn, ← hk1, lo_upd, ← at_all h.ok hn, hj]
        have PUT : Hid (allL (updD k1 n x) = (allL k1).take j ++ x :: (allL k1).drop j) := by show _ = _; rw [all_put hok1 hn hs1 hxs, hj1]
        have hkk : updD k n x = updD k1 n x := by rw [← hk1, updD_both]
        rw [hkk] at hbok ⊢
        have OKX := Lib.hid hbok
        rw [hk1] at KC
        have hjle : Hid (∀ P1 : List (It × Sl), P1.map Prod.fst = allL k1 → j ≤ P1.length) := fun P1 e => by
          have h1 := atL_le n (allL k1)
          rw [hj1, ← e, List.length_map] at h1
          exact h1
        obtain ⟨av0, un, uc⟩ := u
        simp only at hun
        subst hun
        clear e1 ha hold0 a1 a2 a3 a4 a5 hbok hj hq h hxs hsn hs hk1 hok1 hs1 hj1 hkk
        go_enter Try.func19, Try.ntmps19
        go_wp2_with fail
        refine K.mono ?_; rintro e w1 ⟨rfl, b1⟩
        obtain ⟨b, hb, hbl, cc⟩ := (KX.out w1 b1).cells hxx
        simp only at hb
        subst hb
        have g0 := (KX.out w1 b1).box.cell 0 _ rfl
        have gl := (KX.out w1 b1).box.lt
        have c1 := cc 1 _ rfl
        have KD := KC.out w1 b1
        have HB1 := Lib.hid b1
        clear cc K hxx KC b1
        change w1.cell? ⟨b, j * 5 + 1, none⟩ = some (.int .u32 (k n).inc) at c1
        generalize (k n).inc = y at *
        go_wp2_with fail
        refine KD.mono ?_; rintro e W ⟨rfl, f1⟩
        obtain ⟨u1, P1, hP1, t1, o1'⟩ := f1
        have HP := Lib.hid hP1
        have AFT : Hid (∀ w', RAft g u1 P1 (updD k1 n x) W w' → RAft g ⟨some ⟨b, 0, none⟩, P.length, uc⟩ P (updD k1 n x) w w') := fun w' hr => RAft.after HB1.out (RAft.trans t1 o1' hr)
        clear hP1 t1 o1' g0 gl c1 KD KX hm0 hm1 hml hp33
        have HXE := Lib.hid hx
        clear hx
        have hun := HP.out.n
        obtain ⟨av, un, vc⟩ := u1
        simp only at hun
        subst hun
        obtain ⟨i0, hi0, hz0, hz1, hz2⟩ := info_parts info_ritem
        have hjP : j ≤ P1.length := hjle.out P1 HP.out.is
        have hl33 := HP.out.len33
        have FIN : Hid (∀ w3 (v3 : Sl), Below W.heap.size W w3 → w3.ownsRow W.heap.size 68 5 v3.v (j + 1 + (P1.length - j)) ((((P1.take j).map cp).flatten ++ ci x nilS) ++ ((P1.drop j).map cp).flatten) → RAft g ⟨av, P1.length, vc⟩ P1 (updD k1 n x) W (w3.setCell ⟨g, 0, none⟩ (.slice v3.a v3.n v3.c)) ∧ Cs g [.slice av P1.length vc] w3) := fun w3 v3 hb ho => by
          have hlen : (P1.take j ++ (x, nilS) :: P1.drop j).length = j + 1 + (P1.length - j) := by rw [List.length_append, List.length_cons, List.length_take, List.length_drop]; omega
          refine HP.out.put_row hb (P' := P1.take j ++ (x, nilS) :: P1.drop j) ?_ ?_ OKX.out (fun p hp => ?_) ?_
          · rw [hlen]
            have e : ((P1.take j ++ (x, nilS) :: P1.drop j).map cp).flatten = (((P1.take j).map cp).flatten ++ ci x nilS) ++ ((P1.drop j).map cp).flatten := by simp [cp]
            rw [e]; exact ho
          · rw [List.map_append, List.map_cons, List.map_take, List.map_drop, HP.out.is]
            exact PUT.out.symm
          · rcases List.mem_append.1 hp with hp | hp
            · exact .inl (List.mem_of_mem_take hp)
            · rcases List.mem_cons.1 hp with rfl | hp
              · exact .inr ⟨rfl, XW.out⟩
              · exact .inl (List.mem_of_mem_drop hp)
          · have hap := HP.out.ap
            rw [← List.take_append_drop j P1] at hap
            obtain ⟨a1, a2, a3⟩ := List.pairwise_append.1 hap
            refine List.pairwise_append.2 ⟨a1, List.pairwise_cons.2 ⟨fun q hq b hb => absurd hb (nil_own b), a2⟩, fun a ha b hb => ?_⟩
            rcases List.mem_cons.1 hb with rfl | hb
            · exact fun c hc => nil_own c
            · exact a3 a ha b hb
        have hj0 : (0 : Int) ≤ j := by omega
        have hiL : (j : Int) ≤ P1.length := by omega
        have hl2 : (P1.length : Int) ≤ 33 := by omega
        have f1 : Hid (((P1.take j).map cp).flatten.length = j * 5) := by show _ = _; rw [cps_len, List.length_take]; congr 1; omega
        have f2 : Hid (((P1.drop j).map cp).flatten.length = (P1.length - j) * 5) := by show _ = _; rw [cps_len, List.length_drop]
        have o1 := Lib.hid (cp_enc.ones (P1.take j))
        have o2 := Lib.hid (cp_enc.ones (P1.drop j))
        have HO := Lib.hid (ci_ones x nilS)
        have hci : ci x nilS = [Value.int .i64 n, .int .u32 inc, .int .u64 now, .int .u64 hold, .slice none 0 0] := by rw [HXE.out]; rfl
        rw [hci] at FIN HO
        clear hci
        have x0 := HP.out.box.cell 0 _ rfl
        have gl := HP.out.box.lt
        have hrow := HP.out.row.row
        have GK : Hid (∀ w', Below W.heap.size W w' → Cs g [.slice av P1.length vc] w') := fun w' hb => HP.out.box.keep hb
        rcases erow_form hrow with ⟨h1, rfl⟩ | ⟨gv, cap, h1, _⟩
        · simp only [Sl.v, Value.slice.injEq] at h1
          obtain ⟨rfl, -, rfl⟩ := h1
          obtain rfl : j = 0 := by simpa using hjP
          clear hrow
          simp only [List.take_nil, List.drop_nil, List.map_nil, List.flatten_nil, List.nil_append, List.append_nil, List.length_nil, Nat.zero_add, Nat.sub_self, Nat.add_zero] at FIN
          simp only [List.length_nil] at x0 GK
          go_wp2_with (at_builtin; first | (refine wpList_append_own_none rfl (.tmp 52) (.tmp 58) 27 rfl W.heap.size 68 i0 5 Try.underlying27 hi0 (.slice none 0 0) 0 [] rfl (World.ownsRow_nil _ _ _ _) rfl ?_) | (refine wpList_append_own _ rfl (.tmp 60) (.tmp 66) 27 rfl W.heap.size 68 i0 _ 5 56 Try.underlying27 hi0 hz0 hz1 hz2 rfl (by omega) (.slice none 0 0) 0 [] rfl (World.ownsRow_nil _ _ _ _) ⟨_, 0, none⟩ 1 1 [.int .i64 n, .int .u32 inc, .int .u64 now, .int .u64 hold, .slice none 0 0] rfl rfl (World.news_of_block (cs := #[.int .i64 n, .int .u32 inc, .int .u64 now, .int .u64 hold, .slice none 0 0]) (t := 68) (fr := (0, 0)) (heap_alloc_new _ _)) HO.out (by unfold maxLen; omega) (by omega) (by simp) ?_))
          intro v2 w4 hown hgrow _
          have B4 : Hid (Below W.heap.size W w4) := ((Below.refl _ W).alloc (Nat.le_refl _) _).grown hgrow (by simp) (fun k hk => by simp [Value.ownBlock] at hk)
          have OWN4 := Lib.hid hown
          clear hown hgrow x0 gl
          obtain ⟨⟨sa, sn, sc⟩, hv⟩ := sl_of OWN4.out
          obtain rfl : v2 = .slice sa sn sc := hv
          obtain ⟨q1, q2⟩ := FIN.out w4 ⟨sa, sn, sc⟩ B4.out (by simpa [Sl.v] using OWN4.out)
          have Q1 := Lib.hid q1
          clear q1
          have x0 := q2.cell 0 _ rfl
          have xf := q2.free 0 _ rfl
          have gl := q2.lt
          clear q2
          go_wp2_with (at_builtin; refine wpList_append_own_none rfl (.tmp 69) (.tmp 75) 27 rfl W.heap.size 68 i0 5 Try.underlying27 hi0 (.slice sa sn sc) 1 [.int .i64 n, .int .u32 inc, .int .u64 now, .int .u64 hold, .slice none 0 0] rfl OWN4.out rfl ?_)
          go_wp2
          refine bodyPost_ret (v := (.int .i64 0)) (by simp [results, Try.results19, go_sem, *]) rfl ?_
          exact ⟨rfl, AFT.out _ Q1.out⟩
        · simp only [Sl.v, Value.slice.injEq] at h1
          obtain ⟨rfl, -, rfl⟩ := h1
          have hLc : P1.length ≤ vc := by
            obtain ⟨-, C, hC, hcap, ht, hlc, hm⟩ := erow_open cp_enc hrow
            exact hlc
          have hic : j ≤ vc := by omega
          have hic2 : (j : Int) ≤ vc := by omega
          have R1 : Hid (∀ w', Below W.heap.size W w' → ∀ t v, ((P1.take j).map cp).flatten[t]? = some v → w'.cell? ((⟨gv, 0, none⟩ : Addr).add t) = some v) := fun w' hb t v hu => by
            have := part_cells (p := 0) (M := P1.take j) (erow_keep hrow hb) (fun i x hx => take_get hx) t v hu
            rw [Nat.zero_mul] at this; exact this
          obtain ⟨ad, hadq, hadn⟩ : ∃ ad : Addr, some ad = (if vc = j then some ⟨gv, 0, none⟩ else some ⟨gv, j * 5, none⟩) ∧ (¬ vc = j → ad = ⟨gv, j * 5, none⟩) := by
            split
            · rename_i h0; exact ⟨_, rfl, fun h => absurd h0 h⟩
            · exact ⟨_, rfl, fun _ => rfl⟩
          have R2 : Hid (∀ w', Below W.heap.size W w' → ∀ t v, ((P1.drop j).map cp).flatten[t]? = some v → w'.cell? (ad.add t) = some v) := fun w' hb t v hu => by
            by_cases hce : vc = j
            · have : ((P1.drop j).map cp).flatten = [] := List.eq_nil_of_length_eq_zero (by rw [f2.out]; omega)
              rw [this] at hu; simp at hu
            · rw [hadn hce]
              exact part_cells (p := j) (M := P1.drop j) (erow_keep hrow hb) (fun i x hx => by rwa [List.getElem?_drop] at hx) t v hu
          have hif : (if vc = j then some (⟨gv, 0, none⟩ : Addr) else some ⟨gv, j * 5, none⟩) = some ad := hadq.symm
          clear hadq hadn hrow
          generalize ((P1.take j).map cp).flatten = N1 at *
          generalize ((P1.drop j).map cp).flatten = N2 at *
          have Z0 := Lib.hid (R1.out W (Below.refl _ _))
          go_wp2_with (at_builtin; refine wpList_append_own _ rfl (.tmp 52) (.tmp 58) 27 rfl W.heap.size 68 i0 _ 5 56 Try.underlying27 hi0 hz0 hz1 hz2 rfl (by omega) (.slice none 0 0) 0 [] rfl (World.ownsRow_nil _ _ _ _) ⟨gv, 0, none⟩ j vc N1 rfl f1.out Z0.out o1.out (by unfold maxLen; omega) (by omega) (Nat.le_refl _) ?_)
          intro v1 w3 hown hgrow _
          have B3 : Hid (Below W.heap.size W w3) := (Below.refl _ W).grown hgrow (Nat.le_refl _) (fun k hk => by simp [Value.ownBlock] at hk)
          have OWN := Lib.hid hown
          have G3 := GK.out w3 B3.out
          clear hown hgrow x0 gl Z0
          have x0 := G3.cell 0 _ rfl
          have gl := G3.lt
          have OW3 : Hid (∀ o, (w3.alloc o).ownsRow W.heap.size 68 5 v1 j N1) := fun o => own_touch (F := fun _ => False) (by simpa using OWN.out) ((Touch.refl _ _).alloc _) (fun _ _ h => h)
          clear G3
          go_wp2_with (at_builtin; refine wpList_append_own _ rfl (.tmp 60) (.tmp 66) 27 rfl W.heap.size 68 i0 _ 5 56 Try.underlying27 hi0 hz0 hz1 hz2 rfl (by omega) v1 j N1 rfl (OW3.out _) ⟨_, 0, none⟩ 1 1 [.int .i64 n, .int .u32 inc, .int .u64 now, .int .u64 hold, .slice none 0 0] rfl rfl (World.news_of_block (cs := #[.int .i64 n, .int .u32 inc, .int .u64 now, .int .u64 hold, .slice none 0 0]) (t := 68) (fr := (0, 0)) (heap_alloc_new _ _)) HO.out (by unfold maxLen; omega) (by omega) (by have := B3.out.size; simp; omega) ?_)
          intro v2 w4 hown hgrow _
          have B4 : Hid (Below W.heap.size W w4) := (B3.out.alloc B3.out.size _).grown hgrow (by have := B3.out.size; simp; omega) (fun k hk => (World.ownsRow.lt OWN.out k hk).1)
          have OWN4 := Lib.hid hown
          have G4 := GK.out w4 B4.out
          have Z2 := Lib.hid (R2.out w4 B4.out)
          clear hown hgrow x0 gl OW3
          have x0 := G4.cell 0 _ rfl
          have gl := G4.lt
          clear G4
          go_wp2_with (at_builtin; refine wpList_append_own _ rfl (.tmp 69) (.tmp 75) 27 rfl W.heap.size 68 i0 _ 5 56 Try.underlying27 hi0 hz0 hz1 hz2 rfl (by omega) v2 (j + 1) (N1 ++ [.int .i64 n, .int .u32 inc, .int .u64 now, .int .u64 hold, .slice none 0 0]) rfl OWN4.out ad (P1.length - j) (vc - j) N2 (by simp [Act.eval]) f2.out Z2.out o2.out (by unfold maxLen; omega) (by omega) B4.out.size ?_)
          intro v3 w5 hown hgrow _
          have B5 : Hid (Below W.heap.size W w5) := B4.out.grown hgrow B4.out.size (fun k hk => (World.ownsRow.lt OWN4.out k hk).1)
          obtain ⟨⟨sa, sn, sc⟩, hv⟩ := sl_of hown
          obtain rfl : v3 = .slice sa sn sc := hv
          obtain ⟨q1, q2⟩ := FIN.out w5 ⟨sa, sn, sc⟩ B5.out (by rw [List.append_assoc]; exact hown)
          have Q1 := Lib.hid q1
          clear hown hgrow x0 gl q1
          have x0 := q2.cell 0 _ rfl
          have xf := q2.free 0 _ rfl
          have gl := q2.lt
          clear q2
          go_wp2
          refine bodyPost_ret (v := (.int .i64 0)) (by simp [results, Try.results19, go_sem, *]) rfl ?_
          exact ⟨rfl, AFT.out _ Q1.out⟩
    | false =>
      rw [hs] at K
      have e1 := beginE_zero (k := k) (inc := inc) ha (by rw [hsn, hs]; simp)
      rw [beginD_yes e1] at hbok ⊢
      rw [e1]
      rw [Int.toNat_natCast, ← hx] at hbok ⊢
      have PUT : Hid (allL (updD k n x) = (allL k).take j ++ x :: (allL k).drop j) := by show _ = _; rw [all_put h.ok hn hs hxs, hj]
      have OKX := Lib.hid hbok
      have hjle : Hid (∀ P1 : List (It × Sl), P1.map Prod.fst = allL k → j ≤ P1.length) := fun P1 e => by
        have h1 := atL_le n (allL k)
        rw [hj, ← e, List.length_map] at h1
        exact h1
      have KX : Hid (∀ w1, Below w.heap.size w w1 → Rs g u P k w1) := fun w1 b1 => h.keep b1
      clear e1 ha hold0 a1 a2 a3 a4 a5 hbok hj h hxs hsn hs
      go_enter Try.func19, Try.ntmps19
      go_wp2_with fail
      refine K.mono ?_; rintro e W ⟨rfl, b1⟩
      obtain ⟨k1, hk1⟩ : ∃ k1, k1 = k := ⟨_, rfl⟩
      obtain ⟨u1, hu1⟩ : ∃ u1, u1 = u := ⟨_, rfl⟩
      obtain ⟨P1, hP1⟩ : ∃ P1, P1 = P := ⟨_, rfl⟩
      have HP := Lib.hid (KX.out W b1)
      have AFT : Hid (∀ w', RAft g u P (updD k n x) W w' → RAft g u P (updD k n x) w w') := fun w' hr => RAft.after b1 hr
      clear KX K b1
      subst hk1 hu1 hP1
      have HXE := Lib.hid hx
      clear hx
      have hun := HP.out.n
      obtain ⟨av, un, vc⟩ := u1
      simp only at hun
      subst hun
      obtain ⟨i0, hi0, hz0, hz1, hz2⟩ := info_parts info_ritem
      have hjP : j ≤ P1.length := hjle.out P1 HP.out.is
      have hl33 := HP.out.len33
      have FIN : Hid (∀ w3 (v3 : Sl), Below W.heap.size W w3 → w3.ownsRow W.heap.size 68 5 v3.v (j + 1 + (P1.length - j)) ((((P1.take j).map cp).flatten ++ ci x nilS) ++ ((P1.drop j).map cp).flatten) → RAft g ⟨av, P1.length, vc⟩ P1 (updD k1 n x) W (w3.setCell ⟨g, 0, none⟩ (.slice v3.a v3.n v3.c)) ∧ Cs g [.slice av P1.length vc] w3) := fun w3 v3 hb ho => by
        have hlen : (P1.take j ++ (x, nilS) :: P1.drop j).length = j + 1 + (P1.length - j) := by rw [List.length_append, List.length_cons, List.length_take, List.length_drop]; omega
        refine HP.out.put_row hb (P' := P1.take j ++ (x, nilS) :: P1.drop j) ?_ ?_ OKX.out (fun p hp => ?_) ?_
        · rw [hlen]
          have e : ((P1.take j ++ (x, nilS) :: P1.drop j).map cp).flatten = (((P1.take j).map cp).flatten ++ ci x nilS) ++ ((P1.drop j).map cp).flatten := by simp [cp]
          rw [e]; exact ho
        · rw [List.map_append, List.map_cons, List.map_take, List.map_drop, HP.out.is]
          exact PUT.out.symm
        · rcases List.mem_append.1 hp with hp | hp
          · exact .inl (List.mem_of_mem_take hp)
          · rcases List.mem_cons.1 hp with rfl | hp
            · exact .inr ⟨rfl, XW.out⟩
            · exact .inl (List.mem_of_mem_drop hp)
        · have hap := HP.out.ap
          rw [← List.take_append_drop j P1] at hap
          obtain ⟨a1, a2, a3⟩ := List.pairwise_append.1 hap
          refine List.pairwise_append.2 ⟨a1, List.pairwise_cons.2 ⟨fun q hq b hb => absurd hb (nil_own b), a2⟩, fun a ha b hb => ?_⟩
          rcases List.mem_cons.1 hb with rfl | hb
          · exact fun c hc => nil_own c
          · exact a3 a ha b hb
      have hj0 : (0 : Int) ≤ j := by omega
      have hiL : (j : Int) ≤ P1.length := by omega
      have hl2 : (P1.length : Int) ≤ 33 := by omega
      have f1 : Hid (((P1.take j).map cp).flatten.length = j * 5) := by show _ = _; rw [cps_len, List.length_take]; congr 1; omega
      have f2 : Hid (((P1.drop j).map cp).flatten.length = (P1.length - j) * 5) := by show _ = _; rw [cps_len, List.length_drop]
      have o1 := Lib.hid (cp_enc.ones (P1.take j))
      have o2 := Lib.hid (cp_enc.ones (P1.drop j))
      have HO := Lib.hid (ci_ones x nilS)
      have hci : ci x nilS = [Value.int .i64 n, .int .u32 inc, .int .u64 now, .int .u64 hold, .slice none 0 0] := by rw [HXE.out]; rfl
      rw [hci] at FIN HO
      clear hci
      have x0 := HP.out.box.cell 0 _ rfl
      have gl := HP.out.box.lt
      have hrow := HP.out.row.row
      have GK : Hid (∀ w', Below W.heap.size W w' → Cs g [.slice av P1.length vc] w') := fun w' hb => HP.out.box.keep hb
      rcases erow_form hrow with ⟨h1, rfl⟩ | ⟨gv, cap, h1, _⟩
      · simp only [Sl.v, Value.slice.injEq] at h1
        obtain ⟨rfl, -, rfl⟩ := h1
        obtain rfl : j = 0 := by simpa using hjP
        clear hrow
        simp only [List.take_nil, List.drop_nil, List.map_nil, List.flatten_nil, List.nil_append, List.append_nil, List.length_nil, Nat.zero_add, Nat.sub_self, Nat.add_zero] at FIN
        simp only [List.length_nil] at x0 GK
        go_wp2_with (at_builtin; first | (refine wpList_append_own_none rfl (.tmp 52) (.tmp 58) 27 rfl W.heap.size 68 i0 5 Try.underlying27 hi0 (.slice none 0 0) 0 [] rfl (World.ownsRow_nil _ _ _ _) rfl ?_) | (refine wpList_append_own _ rfl (.tmp 60) (.tmp 66) 27 rfl W.heap.size 68 i0 _ 5 56 Try.underlying27 hi0 hz0 hz1 hz2 rfl (by omega) (.slice none 0 0) 0 [] rfl (World.ownsRow_nil _ _ _ _) ⟨_, 0, none⟩ 1 1 [.int .i64 n, .int .u32 inc, .int .u64 now, .int .u64 hold, .slice none 0 0] rfl rfl (World.news_of_block (cs := #[.int .i64 n, .int .u32 inc, .int .u64 now, .int .u64 hold, .slice none 0 0]) (t := 68) (fr := (0, 0)) (heap_alloc_new _ _)) HO.out (by unfold maxLen; omega) (by omega) (by simp) ?_))
        intro v2 w4 hown hgrow _
        have B4 : Hid (Below W.heap.size W w4) := ((Below.refl _ W).alloc (Nat.le_refl _) _).grown hgrow (by simp) (fun k hk => by simp [Value.ownBlock] at hk)
        have OWN4 := Lib.hid hown
        clear hown hgrow x0 gl
        obtain ⟨⟨sa, sn, sc⟩, hv⟩ := sl_of OWN4.out
        obtain rfl : v2 = .slice sa sn sc := hv
        obtain ⟨q1, q2⟩ := FIN.out w4 ⟨sa, sn, sc⟩ B4.out (by simpa [Sl.v] using OWN4.out)
        have Q1 := Lib.hid q1
        clear q1
        have x0 := q2.cell 0 _ rfl
        have xf := q2.free 0 _ rfl
        have gl := q2.lt
        clear q2
        go_wp2_with (at_builtin; refine wpList_append_own_none rfl (.tmp 69) (.tmp 75) 27 rfl W.heap.size 68 i0 5 Try.underlying27 hi0 (.slice sa sn sc) 1 [.int .i64 n, .int .u32 inc, .int .u64 now, .int .u64 hold, .slice none 0 0] rfl OWN4.out rfl ?_)
        go_wp2
        refine bodyPost_ret (v := (.int .i64 0)) (by simp [results, Try.results19, go_sem, *]) rfl ?_
        exact ⟨rfl, AFT.out _ Q1.out⟩
      · simp only [Sl.v, Value.slice.injEq] at h1
        obtain ⟨rfl, -, rfl⟩ := h1
        have hLc : P1.length ≤ vc := by
          obtain ⟨-, C, hC, hcap, ht, hlc, hm⟩ := erow_open cp_enc hrow
          exact hlc
        have hic : j ≤ vc := by omega
        have hic2 : (j : Int) ≤ vc := by omega
        have R1 : Hid (∀ w', Below W.heap.size W w' → ∀ t v, ((P1.take j).map cp).flatten[t]? = some v → w'.cell? ((⟨gv, 0, none⟩ : Addr).add t) = some v) := fun w' hb t v hu => by
          have := part_cells (p := 0) (M := P1.take j) (erow_keep hrow hb) (fun i x hx => take_get hx) t v hu
          rw [Nat.zero_mul] at this; exact this
        obtain ⟨ad, hadq, hadn⟩ : ∃ ad : Addr, some ad = (if vc = j then some ⟨gv, 0, none⟩ else some ⟨gv, j * 5, none⟩) ∧ (¬ vc = j → ad = ⟨gv, j * 5, none⟩) := by
          split
          · rename_i h0; exact ⟨_, rfl, fun h => absurd h0 h⟩
          · exact ⟨_, rfl, fun _ => rfl⟩
        have R2 : Hid (∀ w', Below W.heap.size W w' → ∀ t v, ((P1.drop j).map cp).flatten[t]? = some v → w'.cell? (ad.add t) = some v) := fun w' hb t v hu => by
          by_cases hce : vc = j
          · have : ((P1.drop j).map cp).flatten = [] := List.eq_nil_of_length_eq_zero (by rw [f2.out]; omega)
            rw [this] at hu; simp at hu
          · rw [hadn hce]
            exact part_cells (p := j) (M := P1.drop j) (erow_keep hrow hb) (fun i x hx => by rwa [List.getElem?_drop] at hx) t v hu
        have hif : (if vc = j then some (⟨gv, 0, none⟩ : Addr) else some ⟨gv, j * 5, none⟩) = some ad := hadq.symm
        clear hadq hadn hrow
        generalize ((P1.take j).map cp).flatten = N1 at *
        generalize ((P1.drop j).map cp).flatten = N2 at *
        have Z0 := Lib.hid (R1.out W (Below.refl _ _))
        go_wp2_with (at_builtin; refine wpList_append_own _ rfl (.tmp 52) (.tmp 58) 27 rfl W.heap.size 68 i0 _ 5 56 Try.underlying27 hi0 hz0 hz1 hz2 rfl (by omega) (.slice none 0 0) 0 [] rfl (World.ownsRow_nil _ _ _ _) ⟨gv, 0, none⟩ j vc N1 rfl f1.out Z0.out o1.out (by unfold maxLen; omega) (by omega) (Nat.le_refl _) ?_)
        intro v1 w3 hown hgrow _
        have B3 : Hid (Below W.heap.size W w3) := (Below.refl _ W).grown hgrow (Nat.le_refl _) (fun k hk => by simp [Value.ownBlock] at hk)
        have OWN := Lib.hid hown
        have G3 := GK.out w3 B3.out
        clear hown hgrow x0 gl Z0
        have x0 := G3.cell 0 _ rfl
        have gl := G3.lt
        have OW3 : Hid (∀ o, (w3.alloc o).ownsRow W.heap.size 68 5 v1 j N1) := fun o => own_touch (F := fun _ => False) (by simpa using OWN.out) ((Touch.refl _ _).alloc _) (fun _ _ h => h)
        clear G3
        go_wp2_with (at_builtin; refine wpList_append_own _ rfl (.tmp 60) (.tmp 66) 27 rfl W.heap.size 68 i0 _ 5 56 Try.underlying27 hi0 hz0 hz1 hz2 rfl (by omega) v1 j N1 rfl (OW3.out _) ⟨_, 0, none⟩ 1 1 [.int .i64 n, .int .u32 inc, .int .u64 now, .int .u64 hold, .slice none 0 0] rfl rfl (World.news_of_block (cs := #[.int .i64 n, .int .u32 inc, .int .u64 now, .int .u64 hold, .slice none 0 0]) (t := 68) (fr := (0, 0)) (heap_alloc_new _ _)) HO.out (by unfold maxLen; omega) (by omega) (by have := B3.out.size; simp; omega) ?_)
        intro v2 w4 hown hgrow _
        have B4 : Hid (Below W.heap.size W w4) := (B3.out.alloc B3.out.size _).grown hgrow (by have := B3.out.size; simp; omega) (fun k hk => (World.ownsRow.lt OWN.out k hk).1)
        have OWN4 := Lib.hid hown
        have G4 := GK.out w4 B4.out
        have Z2 := Lib.hid (R2.out w4 B4.out)
        clear hown hgrow x0 gl OW3
        have x0 := G4.cell 0 _ rfl
        have gl := G4.lt
        clear G4
        go_wp2_with (at_builtin; refine wpList_append_own _ rfl (.tmp 69) (.tmp 75) 27 rfl W.heap.size 68 i0 _ 5 56 Try.underlying27 hi0 hz0 hz1 hz2 rfl (by omega) v2 (j + 1) (N1 ++ [.int .i64 n, .int .u32 inc, .int .u64 now, .int .u64 hold, .slice none 0 0]) rfl OWN4.out ad (P1.length - j) (vc - j) N2 (by simp [Act.eval]) f2.out Z2.out o2.out (by unfold maxLen; omega) (by omega) B4.out.size ?_)
        intro v3 w5 hown hgrow _
        have B5 : Hid (Below W.heap.size W w5) := B4.out.grown hgrow B4.out.size (fun k hk => (World.ownsRow.lt OWN4.out k hk).1)
        obtain ⟨⟨sa, sn, sc⟩, hv⟩ := sl_of hown
        obtain rfl : v3 = .slice sa sn sc := hv
        obtain ⟨q1, q2⟩ := FIN.out w5 ⟨sa, sn, sc⟩ B5.out (by rw [List.append_assoc]; exact hown)
        have Q1 := Lib.hid q1
        clear hown hgrow x0 gl q1
        have x0 := q2.cell 0 _ rfl
        have xf := q2.free 0 _ rfl
        have gl := q2.lt
        clear q2
        go_wp2
        refine bodyPost_ret (v := (.int .i64 0)) (by simp [results, Try.results19, go_sem, *]) rfl ?_
        exact ⟨rfl, AFT.out _ Q1.out⟩
end Go.Proofs.Ytplllaafllcigaa
