/- The reference's wheel: All. -/
import Derived.Test.YtmnakbpjbgjnmaaWhRef
namespace Go.Proofs.Ytmnakbpjbgjnmaa
open Go.Sort Go.RowKit Go.BigFrame
set_option linter.unusedVariables false
set_option linter.unusedSimpArgs false

theorem take_while_app {α : Type} {p : α → Bool} : ∀ {A B : List α}, (∀ x ∈ A, p x = true) → (∀ x ∈ B, p x = false) → (A ++ B).takeWhile p = A ∧ (A ++ B).dropWhile p = B
  | [], [], _, _ => ⟨rfl, rfl⟩
  | [], b :: r, _, h => by
    have := h b (by simp)
    simp [List.takeWhile_cons, List.dropWhile_cons, this]
  | a :: r, B, h, h2 => by
    have := h a (by simp)
    obtain ⟨q1, q2⟩ := take_while_app (A := r) (B := B) (fun x hx => h x (by simp [hx])) h2
    simp only [List.cons_append, List.takeWhile_cons, List.dropWhile_cons, this, if_true, q1, q2]
    exact ⟨trivial, trivial⟩
/-- the place at which x goes into D -/
theorem ins_at {D : List Tm} {x : Tm} {at_ : Nat} (hs : Srt kt D) (h1 : ∀ y ∈ D.drop at_, x.t < y.t) (h2 : at_ = 0 ∨ ∃ y, D[at_ - 1]? = some y ∧ y.t ≤ x.t) (hl : at_ ≤ D.length) : insT D x = D.take at_ ++ x :: D.drop at_ := by
  have e := List.take_append_drop at_ D
  have hA : ∀ y ∈ D.take at_, y.t ≤ x.t := fun y hy => by
    rcases h2 with rfl | ⟨z, hz, hzt⟩
    · simp at hy
    · obtain ⟨j, hj, rfl⟩ := List.getElem_of_mem hy
      rw [List.getElem_take]
      rw [List.length_take] at hj
      have := srt_get hs (s := j) (t := at_ - 1) (by omega) (List.getElem?_eq_getElem (by omega)) hz
      unfold kt at this; omega
  have := take_while_app (p := fun y => decide (y.t ≤ x.t)) (A := D.take at_) (B := D.drop at_) (fun y hy => decide_eq_true (hA y hy)) (fun y hy => decide_eq_false (by have := h1 y hy; omega))
  rw [e] at this
  unfold insT
  rw [this.1, this.2]
def RAllJ (L : List Tm) (w : World) (ov iv : Value) (wr : World) : Prop :=
  ∃ i : Nat, i ≤ L.length ∧ iv = .int .i64 (i : Nat) ∧ TRow 40 wr ov (sortT (L.take i)) ∧ Below w.heap.size w wr ∧ ∀ k, ov.ownBlock = some k → w.heap.size ≤ k
def RAtJ (D : List Tm) (x : Tm) (w : World) (av : Value) (wr : World) : Prop := ∃ a : Nat, av = .int .i64 (a : Nat) ∧ a ≤ D.length ∧ (∀ y ∈ D.drop a, x.t < y.t) ∧ Below w.heap.size w wr
set_option maxHeartbeats 12800000 in
set_option maxRecDepth 100000 in
theorem rall_any (g : Nat) (v : Sl) (L : List Tm) (w : World) (h : Ws false g v L w) :
    Calls Try.prog 19 #[.pointer (some ⟨g, 0, none⟩)] w (UpPost 40 (sortT L) w) := by
  obtain ⟨i0, hi0, hz0, hz1, hz2⟩ := info_parts info_rtimer
  have hn := h.n
  obtain ⟨av, n, c⟩ := v
  simp only at hn
  subst hn
  have hl := h.ok.len
  have hl2 : (L.length : Int) ≤ 256 := by omega
  have HX := Lib.hid h.box
  have HR := Lib.hid h.rd
  clear h
  simp only at HR
  go_enter Try.func19, Try.ntmps19
  go_wp2_with fail
  go_loopw [3, 4] (fun v iv wr => RAllJ L w v iv wr) (fun _ i _ => L.length - (intOf i).toNat)
  case atStart => exact ⟨0, Nat.zero_le _, rfl, World.ownsRow_nil _ _ _ _, Below.refl _ _, fun k hk => by simp [Value.ownBlock] at hk⟩
  case round =>
    obtain ⟨i, hi, rfl, hrow, hb, hov⟩ := hrel
    generalize u3 = v at *
    generalize wr = wA at *
    have X := HX.out.keep hb
    have x0 := X.cell 0 _ rfl
    have gl := X.lt
    have hi0' : (0 : Int) ≤ i := by omega
    have hsl : (sortT (L.take i)).length = i := by rw [sortT_len, List.length_take]; omega
    by_cases hlt : i < L.length
    · have hlt' : (i : Int) < L.length := by omega
      have hx : L[i]? = some L[i] := List.getElem?_eq_getElem hlt
      have EQ := Lib.hid (sortT_take L i hlt)
      have SRT := Lib.hid (sortT_srt (L.take i))
      have HI1 : Hid (i + 1 ≤ L.length) := hlt
      have HX2 := Lib.hid hx
      generalize sortT (L.take i) = D at *
      generalize L[i] = x at *
      have HB := Lib.hid hb
      have HOV := Lib.hid hov
      have HROW := Lib.hid hrow
      have HSL := Lib.hid hsl
      obtain ⟨bL, offL, hbo, hblL, hcc⟩ := (HR.out.keep hb) (by omega)
      subst hbo
      have e2 := hcc i _ hx 2 _ rfl
      clear hcc hx
      rcases trow_form hrow with ⟨rfl, rfl⟩ | ⟨g1, cap1, rfl, hg1⟩
      · obtain rfl : i = 0 := by simpa using hsl.symm
        clear hrow hov X
        go_wp2_with fail
        go_loopw [5] (fun av wr2 => av = .int .i64 0 ∧ Below wA.heap.size wA wr2) (fun _ _ => 0)
        case atStart => exact ⟨rfl, Below.refl _ _⟩
        case round =>
          obtain ⟨rfl, hb2⟩ := hrel
          have hge : decide ((0 : Int) < 0) = false := rfl
          go_wp2_with fail
          go_quiet (fail)
          have hb3 := below_drewN hb2 nq
          clear hb2
          generalize wr.drewN nq = w5 at *
          have hb5 := HB.out.trans (hb3.mono HB.out.size)
          have HB5 := Lib.hid hb5
          have X5 := HX.out.keep hb5
          clear x0 gl e2 hblL
          have x0 := X5.cell 0 _ rfl
          have gl := X5.lt
          obtain ⟨b2, off2, hbo2, hbl2, hcc2⟩ := (HR.out.keep hb5) (by omega)
          simp only [Option.some.injEq, Addr.mk.injEq, and_true] at hbo2
          obtain ⟨rfl, rfl⟩ := hbo2
          have c0 := hcc2 0 _ HX2.out 0 _ rfl
          have c1 := hcc2 0 _ HX2.out 1 _ rfl
          have c2 := hcc2 0 _ HX2.out 2 _ rfl
          obtain ⟨x1, x2, x3⟩ := x
          simp only [Nat.zero_mul, Nat.add_zero] at c0 c1 c2
          clear hcc2 hb3 hb5 X5
          go_wp2_with (at_builtin; refine wpList_append_part _ rfl (.tmp 39) (.tmp 42) 27 rfl w5.heap.size 40 i0 _ 3 24 Try.underlying27 hi0 hz0 hz1 hz2 rfl (by omega) (.slice none 0 0) 0 [] rfl (World.ownsRow_nil _ _ _ _) none 0 0 [] rfl rfl (fun _ h => by cases h) (by simp) (fun _ => ⟨rfl, rfl⟩) (by unfold maxLen; omega) (by omega) (Nat.le_refl _) ?_)
          intro v1 w6 hown hgrow
          have t1 : Touch (fun _ => False) w5 w6 := Touch.of_grown hgrow (fun k hk => by simp [Value.ownBlock] at hk)
          have B1 := t1.below (B := w.heap.size) HB5.out.size (fun _ _ h => h.elim)
          have HB6 := Lib.hid (HB5.out.trans B1)
          have X6 := HX.out.keep HB6.out
          clear x0 gl c0 c1 c2 hbl2
          have x0 := X6.cell 0 _ rfl
          have gl := X6.lt
          obtain ⟨b2, off2, hbo2, hbl2, hcc2⟩ := (HR.out.keep HB6.out) (by omega)
          simp only [Option.some.injEq, Addr.mk.injEq, and_true] at hbo2
          obtain ⟨rfl, rfl⟩ := hbo2
          have c0 := hcc2 0 _ HX2.out 0 _ rfl
          have c1 := hcc2 0 _ HX2.out 1 _ rfl
          have c2 := hcc2 0 _ HX2.out 2 _ rfl
          simp only [Nat.zero_mul, Nat.add_zero] at c0 c1 c2
          have OWN := Lib.hid hown
          have hs5 : Hid (w5.heap.size ≤ w6.heap.size) := t1.size
          clear hcc2 X6 hown hgrow t1 B1
          go_wp2_with (at_builtin; refine wpList_append_lies _ rfl (.tmp 44) (.tmp 52) 27 rfl w5.heap.size 40 i0 _ 3 24 Try.underlying27 hi0 hz0 hz1 hz2 rfl (by omega) v1 0 [] rfl (own_touch (F := fun _ => False) OWN.out ((Touch.refl _ _).alloc _) (fun _ _ h => h)) ⟨_, 0, none⟩ 1 1 (ct ⟨x1, x2, x3⟩) rfl rfl (World.news_of_block (cs := (ct ⟨x1, x2, x3⟩).toArray) (t := 40) (fr := (0, 0)) (heap_alloc_new _ _)) (ct_one _) (by omega) (by unfold maxLen; omega) (by omega) (by have := hs5.out; simp; omega) _ rfl ?_)
          intro g2 cap2 w7 hown hgrow hat hlt7
          have t2 : Touch (fun b => w5.heap.size ≤ b) w6 w7 := ((Touch.refl _ w6).alloc _).trans (Touch.of_grown hgrow (fun k hk => (World.ownsRow.lt OWN.out k hk).1)) (fun _ _ h => h)
          have HB7 := Lib.hid (HB6.out.trans (t2.below (B := w.heap.size) HB6.out.size (fun _ _ h => by have := HB5.out.size; omega)))
          have OWN7 := Lib.hid hown
          have hs7 : Hid (w5.heap.size ≤ w7.heap.size) := by show _ ≤ _; have := t2.size; have := hs5.out; omega
          clear x0 gl c0 c1 c2 hbl2 hown hgrow hat t2
          go_wp2_with (at_builtin; refine wpList_append_part _ rfl (.tmp 54) (.tmp 57) 27 rfl w5.heap.size 40 i0 _ 3 24 Try.underlying27 hi0 hz0 hz1 hz2 rfl (by omega) (.slice (some ⟨g2, 0, none⟩) 1 cap2) 1 (ct ⟨x1, x2, x3⟩) rfl OWN7.out none 0 0 [] rfl rfl (fun _ h => by cases h) (by simp) (fun _ => ⟨rfl, rfl⟩) (by unfold maxLen; omega) (by omega) hs7.out ?_)
          intro v3 w8 hown hgrow
          have HB8 := Lib.hid (HB7.out.grown hgrow HB7.out.size (fun k hk => by have := (World.ownsRow.lt OWN7.out k hk).1; have := HB5.out.size; omega))
          have hlow : Hid (∀ k, v3.ownBlock = some k → w.heap.size ≤ k) := fun k hk => by have := (World.ownsRow.lt hown k hk).1; have := HB5.out.size; omega
          have F : Hid (TRow 40 w8 v3 (sortT (L.take (0 + 1)))) := by
            show World.ownsRow _ _ _ _ _ _ _
            rw [EQ.out]
            have := own_zero hown
            simpa [insT] using this
          clear hown hgrow
          go_wp2_with fail
          go_roundw
          case rel => exact ⟨0 + 1, HI1.out, by go_num, F.out, HB8.out, hlow.out⟩
          case measure => simp [intOf]; omega
      · have hdi : D.length = i := HSL.out
        rw [hdi] at hrow ⊢
        have S0 : Hid (RAtJ D x wA (.int .i64 (i : Nat)) wA) := ⟨i, rfl, by omega, by rw [List.drop_eq_nil_of_le (by omega)]; simp, Below.refl _ _⟩
        have hx3e : ∃ x3, x3 = x.t := ⟨_, rfl⟩
        obtain ⟨x3, hx3⟩ := hx3e
        have HX3 := Lib.hid hx3
        rw [← hx3] at e2
        clear hrow hov X hx3
        go_wp2_with fail
        go_loopw [5] (fun av wr2 => RAtJ D x wA av wr2) (fun av _ => (intOf av).toNat)
        case atStart => exact S0.out
        case round =>
          obtain ⟨a, rfl, hai, hgt, hb2⟩ := hrel
          clear S0
          have ha0 : (0 : Int) ≤ a := by omega
          have hai' : (a : Int) ≤ i := by omega
          have HGT := Lib.hid hgt
          have HB2 := Lib.hid hb2
          have hb5 := HB.out.trans (hb2.mono HB.out.size)
          have HB5 := Lib.hid hb5
          have X5 := HX.out.keep hb5
          clear x0 gl e2 hblL
          have x0 := X5.cell 0 _ rfl
          have gl := X5.lt
          obtain ⟨b2, off2, hbo2, hbl2, hcc2⟩ := (HR.out.keep hb5) (by omega)
          simp only [Option.some.injEq, Addr.mk.injEq, and_true] at hbo2
          obtain ⟨rfl, rfl⟩ := hbo2
          have e2 := hcc2 i _ HX2.out 2 _ rfl
          simp only [← HX3.out] at e2
          clear hcc2 hgt hb5 X5
          by_cases hap : 0 < a
          · have hy : D[a - 1]? = some D[a - 1] := List.getElem?_eq_getElem (by omega)
            have hry := (trow_touch (F := fun _ => False) HROW.out (Touch.of_below _ hb2) (fun _ _ h => h))
            rw [hdi] at hry
            obtain ⟨by1, offy, hboy, hbly, hccy⟩ := (trow_rd hry) (by omega)
            simp only [Option.some.injEq, Addr.mk.injEq, and_true] at hboy
            obtain ⟨rfl, rfl⟩ := hboy
            have d2 := hccy _ _ hy 2 _ rfl
            have hdrop : D.drop (a - 1) = D[a - 1] :: D.drop a := by
              have := List.drop_eq_getElem_cons (l := D) (i := a - 1) (by omega)
              rw [this]; congr 2; omega
            have HDR := Lib.hid hdrop
            have HY := Lib.hid hy
            generalize D[a - 1] = y at *
            obtain ⟨y1, y2, y3⟩ := y
            simp only [Nat.zero_add] at d2
            obtain ⟨a1, ha1⟩ : ∃ a1, a1 = a - 1 := ⟨_, rfl⟩
            have HA1 := Lib.hid ha1
            rw [← ha1] at d2 HDR HY
            have haa : (a : Int) - 1 = (a1 : Nat) := by omega
            have ha10 : (0 : Int) ≤ a1 := by omega
            have ha1i : (a1 : Int) < i := by omega
            have hap' : (0 : Int) < a := by omega
            have hap2 : decide ((0 : Int) < a) = true := decide_eq_true hap'
            have HAI := Lib.hid hai
            clear hry hccy hy hdrop ha1
            by_cases hc : x3 < y3
            · have hc2 : decide (x3 < y3) = true := decide_eq_true hc
              have HNX : Hid (∀ z ∈ D.drop a1, x.t < z.t) := fun z hz => by
                rw [HDR.out] at hz
                rcases List.mem_cons.1 hz with h | hz
                · subst h; have := HX3.out; show x.t < y3; omega
                · exact HGT.out z hz
              go_wp2_with fail
              go_quiet (fail)
              have hb3 := Lib.hid (below_drewN HB2.out nq)
              generalize wr.drewN nq = w5 at *
              go_wp2_with fail
              go_roundw
              case rel => exact ⟨a1, by go_num, by have := HA1.out; have := HAI.out; omega, HNX.out, hb3.out⟩
              case measure => have := HA1.out; simp [intOf]; omega
            · have hc2 : decide (x3 < y3) = false := decide_eq_false hc
              have HST : Hid (a = 0 ∨ ∃ y, D[a - 1]? = some y ∧ y.t ≤ x.t) := .inr ⟨⟨y1, y2, y3⟩, by rw [← HA1.out]; exact HY.out, by have := HX3.out; show y3 ≤ x.t; omega⟩
              clear hc
              go_wp2_with fail
              go_quiet (fail)
              have hb3 := Lib.hid (below_drewN HB2.out nq)
              generalize wr.drewN nq = w5 at *
              clear d2 hbly
              have HINS := Lib.hid (ins_at (x := x) SRT.out HGT.out HST.out HAI.out)
              have HB5b := Lib.hid (HB.out.trans (hb3.out.mono HB.out.size))
              have R5 : Hid (TRow 40 w5 (.slice (some ⟨g1, 0, none⟩) i cap1) D) := by
                have := trow_touch (F := fun _ => False) HROW.out (Touch.of_below _ hb3.out) (fun _ _ h => h)
                rw [hdi] at this; exact this
              have hg5 : Hid (g1 < w5.heap.size) := Nat.lt_of_lt_of_le hg1 hb3.out.size
              have hcap1 : Hid (i ≤ cap1 ∧ cap1 ≤ maxLen) := by
                obtain ⟨q, C, _, q2, _, q4, q5⟩ := trow_open R5.out
                exact ⟨by rw [q]; exact q4, q5⟩
              have hc1 : a ≤ cap1 := by have := hcap1.out.1; omega
              have hc2' : (a : Int) ≤ cap1 := by omega
              have hc3 : i ≤ cap1 := hcap1.out.1
              have f1 : Hid (((D.take a).map ct).flatten.length = a * 3) := by show _ = _; rw [cts_len, List.length_take]; congr 1; omega
              have o1 := Lib.hid (cts_one (D.take a))
              have f2 : Hid (((D.drop a).map ct).flatten.length = (i - a) * 3) := by show _ = _; rw [cts_len, List.length_drop, hdi]
              have o2 := Lib.hid (cts_one (D.drop a))
              have n1 : Hid (∀ k u, ((D.take a).map ct).flatten[k]? = some u → w5.cell? ((⟨g1, 0, none⟩ : Addr).add k) = some u) := fun k u hu => by
                have hr := R5.out
                rw [← hdi] at hr
                have := part_cells (p := 0) (M := D.take a) hr (fun i x hx => take_get hx) k u hu
                rw [Nat.zero_mul] at this; exact this
              obtain ⟨ad, hadq, hadn⟩ : ∃ ad : Addr, some ad = (if cap1 = a then some ⟨g1, 0, none⟩ else some ⟨g1, a * 3, none⟩) ∧ (¬ cap1 = a → ad = ⟨g1, a * 3, none⟩) := by
                split
                · rename_i h0; exact ⟨_, rfl, fun h => absurd h0 h⟩
                · exact ⟨_, rfl, fun _ => rfl⟩
              have n2 : Hid (∀ w7, TRow 40 w7 (.slice (some ⟨g1, 0, none⟩) i cap1) D → ∀ k u, ((D.drop a).map ct).flatten[k]? = some u → w7.cell? (ad.add k) = some u) := fun w7 hr k u hu => by
                by_cases hce : cap1 = a
                · have : ((D.drop a).map ct).flatten = [] := List.eq_nil_of_length_eq_zero (by rw [f2.out]; omega)
                  rw [this] at hu; simp at hu
                · rw [hadn hce]
                  rw [← hdi] at hr
                  exact part_cells (p := a) (M := D.drop a) hr (fun i x hx => by rwa [List.getElem?_drop] at hx) k u hu
              have HADQ := Lib.hid hadq
              have HFL : Hid (((insT D x).map ct).flatten = ((D.take a).map ct).flatten ++ (ct x ++ ((D.drop a).map ct).flatten)) := by
                show _ = _
                rw [HINS.out]; simp
              have HIL : Hid ((insT D x).length = i + 1) := by
                show _ = _
                rw [HINS.out]; simp; omega
              have hb5 := HB5b.out
              have X5 := HX.out.keep hb5
              clear x0 gl e2 hbl2 hadq hadn
              have x0 := X5.cell 0 _ rfl
              have gl := X5.lt
              clear hb5 X5
              generalize ((D.take a).map ct).flatten = N1 at *
              generalize ((D.drop a).map ct).flatten = N2 at *
              go_wp2_with (at_builtin; refine wpList_append_own _ rfl (.tmp 39) (.tmp 42) 27 rfl w5.heap.size 40 i0 _ 3 24 Try.underlying27 hi0 hz0 hz1 hz2 rfl (by omega) (.slice none 0 0) 0 [] rfl (World.ownsRow_nil _ _ _ _) ⟨g1, 0, none⟩ a cap1 N1 rfl f1.out n1.out o1.out (by unfold maxLen; omega) (by omega) (Nat.le_refl _) ?_)
              intro v1 w6 hown hgrow _
              have t1 : Touch (fun _ => False) w5 w6 := Touch.of_grown hgrow (fun k hk => by simp [Value.ownBlock] at hk)
              have HB6 := Lib.hid (HB5b.out.trans (t1.below (B := w.heap.size) HB5b.out.size (fun _ _ h => h.elim)))
              have R6 := Lib.hid (trow_touch R5.out t1 (fun _ _ h => h))
              have X6 := HX.out.keep HB6.out
              clear x0 gl
              have x0 := X6.cell 0 _ rfl
              have gl := X6.lt
              obtain ⟨b3, off3, hbo3, hbl3, hcc3⟩ := (HR.out.keep HB6.out) (by omega)
              simp only [Option.some.injEq, Addr.mk.injEq, and_true] at hbo3
              obtain ⟨rfl, rfl⟩ := hbo3
              have c0 := hcc3 i _ HX2.out 0 _ rfl
              have c1 := hcc3 i _ HX2.out 1 _ rfl
              have c2 := hcc3 i _ HX2.out 2 _ rfl
              obtain ⟨x1, x2, x4⟩ := x
              simp only [Nat.add_zero] at c0 c1 c2
              have OWN := Lib.hid hown
              have hs5 : Hid (w5.heap.size ≤ w6.heap.size) := t1.size
              clear hcc3 X6 hown hgrow t1
              go_wp2_with (at_builtin; refine wpList_append_lies _ rfl (.tmp 44) (.tmp 52) 27 rfl w5.heap.size 40 i0 _ 3 24 Try.underlying27 hi0 hz0 hz1 hz2 rfl (by omega) v1 a N1 rfl (own_touch (F := fun _ => False) OWN.out ((Touch.refl _ _).alloc _) (fun _ _ h => h)) ⟨_, 0, none⟩ 1 1 (ct ⟨x1, x2, x4⟩) rfl rfl (World.news_of_block (cs := (ct ⟨x1, x2, x4⟩).toArray) (t := 40) (fr := (0, 0)) (heap_alloc_new _ _)) (ct_one _) (by omega) (by unfold maxLen; omega) (by omega) (by have := hs5.out; simp; omega) _ rfl ?_)
              intro g2 cap2 w7 hown hgrow hat hlt7
              have t2 : Touch (fun b => w5.heap.size ≤ b) w6 w7 := ((Touch.refl _ w6).alloc _).trans (Touch.of_grown hgrow (fun k hk => (World.ownsRow.lt OWN.out k hk).1)) (fun _ _ h => h)
              have HB7 := Lib.hid (HB6.out.trans (t2.below (B := w.heap.size) HB6.out.size (fun _ _ h => by have := HB5b.out.size; omega)))
              have R7 := Lib.hid (n2.out w7 (trow_touch R6.out t2 (fun k hk h => by have e : g1 = k := Option.some.inj hk; have := hg5.out; omega)))
              have OWN7 := Lib.hid hown
              have hs7 : Hid (w5.heap.size ≤ w7.heap.size) := by show _ ≤ _; have := t2.size; have := hs5.out; omega
              clear x0 gl c0 c1 c2 hbl3 hown hgrow hat t2
              go_wp2_with (at_builtin; refine wpList_append_own _ rfl (.tmp 54) (.tmp 57) 27 rfl w5.heap.size 40 i0 _ 3 24 Try.underlying27 hi0 hz0 hz1 hz2 rfl (by omega) (.slice (some ⟨g2, 0, none⟩) (a + 1) cap2) (a + 1) (N1 ++ ct ⟨x1, x2, x4⟩) rfl OWN7.out ad (i - a) (cap1 - a) N2 (by simp [Act.eval]; exact HADQ.out.symm) f2.out R7.out o2.out (by unfold maxLen; omega) (by omega) hs7.out ?_)
              all_goals (
                intro v3 w8 hown hgrow _
                have HB8 := Lib.hid (HB7.out.grown hgrow HB7.out.size (fun k hk => by have := (World.ownsRow.lt OWN7.out k hk).1; have := HB5b.out.size; omega))
                have hlow : Hid (∀ k, v3.ownBlock = some k → w.heap.size ≤ k) := fun k hk => by have := (World.ownsRow.lt hown k hk).1; have := HB5b.out.size; omega
                have F : Hid (TRow 40 w8 v3 (sortT (L.take (i + 1)))) := by
                  show World.ownsRow _ _ _ _ _ _ _
                  rw [EQ.out, HFL.out, HIL.out]
                  have := own_zero hown
                  rw [show a + 1 + (i - a) = i + 1 by have := HAI.out; omega] at this
                  exact this
                clear hown hgrow
                go_wp2_with fail
                go_roundw
                case rel => exact ⟨i + 1, HI1.out, by go_num, F.out, HB8.out, hlow.out⟩
                case measure => simp [intOf]; omega)
          · have hap2 : decide ((0 : Int) < a) = false := decide_eq_false (by omega)
            have hap3 : decide (0 < a) = false := decide_eq_false hap
            have HST : Hid (a = 0 ∨ ∃ y, D[a - 1]? = some y ∧ y.t ≤ x.t) := .inl (by omega)
            have HAI := Lib.hid hai
            clear hap
            go_wp2_with fail
            go_quiet (fail)
            have hb3 := Lib.hid (below_drewN HB2.out nq)
            generalize wr.drewN nq = w5 at *
            have HINS := Lib.hid (ins_at (x := x) SRT.out HGT.out HST.out HAI.out)
            have HB5b := Lib.hid (HB.out.trans (hb3.out.mono HB.out.size))
            have R5 : Hid (TRow 40 w5 (.slice (some ⟨g1, 0, none⟩) i cap1) D) := by
              have := trow_touch (F := fun _ => False) HROW.out (Touch.of_below _ hb3.out) (fun _ _ h => h)
              rw [hdi] at this; exact this
            have hg5 : Hid (g1 < w5.heap.size) := Nat.lt_of_lt_of_le hg1 hb3.out.size
            have hcap1 : Hid (i ≤ cap1 ∧ cap1 ≤ maxLen) := by
              obtain ⟨q, C, _, q2, _, q4, q5⟩ := trow_open R5.out
              exact ⟨by rw [q]; exact q4, q5⟩
            have hc1 : a ≤ cap1 := by have := hcap1.out.1; omega
            have hc2' : (a : Int) ≤ cap1 := by omega
            have hc3 : i ≤ cap1 := hcap1.out.1
            have f1 : Hid (((D.take a).map ct).flatten.length = a * 3) := by show _ = _; rw [cts_len, List.length_take]; congr 1; omega
            have o1 := Lib.hid (cts_one (D.take a))
            have f2 : Hid (((D.drop a).map ct).flatten.length = (i - a) * 3) := by show _ = _; rw [cts_len, List.length_drop, hdi]
            have o2 := Lib.hid (cts_one (D.drop a))
            have n1 : Hid (∀ k u, ((D.take a).map ct).flatten[k]? = some u → w5.cell? ((⟨g1, 0, none⟩ : Addr).add k) = some u) := fun k u hu => by
              have hr := R5.out
              rw [← hdi] at hr
              have := part_cells (p := 0) (M := D.take a) hr (fun i x hx => take_get hx) k u hu
              rw [Nat.zero_mul] at this; exact this
            obtain ⟨ad, hadq, hadn⟩ : ∃ ad : Addr, some ad = (if cap1 = a then some ⟨g1, 0, none⟩ else some ⟨g1, a * 3, none⟩) ∧ (¬ cap1 = a → ad = ⟨g1, a * 3, none⟩) := by
              split
              · rename_i h0; exact ⟨_, rfl, fun h => absurd h0 h⟩
              · exact ⟨_, rfl, fun _ => rfl⟩
            have n2 : Hid (∀ w7, TRow 40 w7 (.slice (some ⟨g1, 0, none⟩) i cap1) D → ∀ k u, ((D.drop a).map ct).flatten[k]? = some u → w7.cell? (ad.add k) = some u) := fun w7 hr k u hu => by
              by_cases hce : cap1 = a
              · have : ((D.drop a).map ct).flatten = [] := List.eq_nil_of_length_eq_zero (by rw [f2.out]; omega)
                rw [this] at hu; simp at hu
              · rw [hadn hce]
                rw [← hdi] at hr
                exact part_cells (p := a) (M := D.drop a) hr (fun i x hx => by rwa [List.getElem?_drop] at hx) k u hu
            have HADQ := Lib.hid hadq
            have HFL : Hid (((insT D x).map ct).flatten = ((D.take a).map ct).flatten ++ (ct x ++ ((D.drop a).map ct).flatten)) := by
              show _ = _
              rw [HINS.out]; simp
            have HIL : Hid ((insT D x).length = i + 1) := by
              show _ = _
              rw [HINS.out]; simp; omega
            have hb5 := HB5b.out
            have X5 := HX.out.keep hb5
            clear x0 gl e2 hbl2 hadq hadn
            have x0 := X5.cell 0 _ rfl
            have gl := X5.lt
            clear hb5 X5
            generalize ((D.take a).map ct).flatten = N1 at *
            generalize ((D.drop a).map ct).flatten = N2 at *
            go_wp2_with (at_builtin; refine wpList_append_own _ rfl (.tmp 39) (.tmp 42) 27 rfl w5.heap.size 40 i0 _ 3 24 Try.underlying27 hi0 hz0 hz1 hz2 rfl (by omega) (.slice none 0 0) 0 [] rfl (World.ownsRow_nil _ _ _ _) ⟨g1, 0, none⟩ a cap1 N1 rfl f1.out n1.out o1.out (by unfold maxLen; omega) (by omega) (Nat.le_refl _) ?_)
            intro v1 w6 hown hgrow _
            have t1 : Touch (fun _ => False) w5 w6 := Touch.of_grown hgrow (fun k hk => by simp [Value.ownBlock] at hk)
            have HB6 := Lib.hid (HB5b.out.trans (t1.below (B := w.heap.size) HB5b.out.size (fun _ _ h => h.elim)))
            have R6 := Lib.hid (trow_touch R5.out t1 (fun _ _ h => h))
            have X6 := HX.out.keep HB6.out
            clear x0 gl
            have x0 := X6.cell 0 _ rfl
            have gl := X6.lt
            obtain ⟨b3, off3, hbo3, hbl3, hcc3⟩ := (HR.out.keep HB6.out) (by omega)
            simp only [Option.some.injEq, Addr.mk.injEq, and_true] at hbo3
            obtain ⟨rfl, rfl⟩ := hbo3
            have c0 := hcc3 i _ HX2.out 0 _ rfl
            have c1 := hcc3 i _ HX2.out 1 _ rfl
            have c2 := hcc3 i _ HX2.out 2 _ rfl
            obtain ⟨x1, x2, x4⟩ := x
            simp only [Nat.add_zero] at c0 c1 c2
            have OWN := Lib.hid hown
            have hs5 : Hid (w5.heap.size ≤ w6.heap.size) := t1.size
            clear hcc3 X6 hown hgrow t1
            go_wp2_with (at_builtin; refine wpList_append_lies _ rfl (.tmp 44) (.tmp 52) 27 rfl w5.heap.size 40 i0 _ 3 24 Try.underlying27 hi0 hz0 hz1 hz2 rfl (by omega) v1 a N1 rfl (own_touch (F := fun _ => False) OWN.out ((Touch.refl _ _).alloc _) (fun _ _ h => h)) ⟨_, 0, none⟩ 1 1 (ct ⟨x1, x2, x4⟩) rfl rfl (World.news_of_block (cs := (ct ⟨x1, x2, x4⟩).toArray) (t := 40) (fr := (0, 0)) (heap_alloc_new _ _)) (ct_one _) (by omega) (by unfold maxLen; omega) (by omega) (by have := hs5.out; simp; omega) _ rfl ?_)
            intro g2 cap2 w7 hown hgrow hat hlt7
            have t2 : Touch (fun b => w5.heap.size ≤ b) w6 w7 := ((Touch.refl _ w6).alloc _).trans (Touch.of_grown hgrow (fun k hk => (World.ownsRow.lt OWN.out k hk).1)) (fun _ _ h => h)
            have HB7 := Lib.hid (HB6.out.trans (t2.below (B := w.heap.size) HB6.out.size (fun _ _ h => by have := HB5b.out.size; omega)))
            have R7 := Lib.hid (n2.out w7 (trow_touch R6.out t2 (fun k hk h => by have e : g1 = k := Option.some.inj hk; have := hg5.out; omega)))
            have OWN7 := Lib.hid hown
            have hs7 : Hid (w5.heap.size ≤ w7.heap.size) := by show _ ≤ _; have := t2.size; have := hs5.out; omega
            clear x0 gl c0 c1 c2 hbl3 hown hgrow hat t2
            go_wp2_with (at_builtin; refine wpList_append_own _ rfl (.tmp 54) (.tmp 57) 27 rfl w5.heap.size 40 i0 _ 3 24 Try.underlying27 hi0 hz0 hz1 hz2 rfl (by omega) (.slice (some ⟨g2, 0, none⟩) (a + 1) cap2) (a + 1) (N1 ++ ct ⟨x1, x2, x4⟩) rfl OWN7.out ad (i - a) (cap1 - a) N2 (by simp [Act.eval]; exact HADQ.out.symm) f2.out R7.out o2.out (by unfold maxLen; omega) (by omega) hs7.out ?_)
            all_goals (
              intro v3 w8 hown hgrow _
              have HB8 := Lib.hid (HB7.out.grown hgrow HB7.out.size (fun k hk => by have := (World.ownsRow.lt OWN7.out k hk).1; have := HB5b.out.size; omega))
              have hlow : Hid (∀ k, v3.ownBlock = some k → w.heap.size ≤ k) := fun k hk => by have := (World.ownsRow.lt hown k hk).1; have := HB5b.out.size; omega
              have F : Hid (TRow 40 w8 v3 (sortT (L.take (i + 1)))) := by
                show World.ownsRow _ _ _ _ _ _ _
                rw [EQ.out, HFL.out, HIL.out]
                have := own_zero hown
                rw [show a + 1 + (i - a) = i + 1 by have := HAI.out; omega] at this
                exact this
              clear hown hgrow
              go_wp2_with fail
              go_roundw
              case rel => exact ⟨i + 1, HI1.out, by go_num, F.out, HB8.out, hlow.out⟩
              case measure => simp [intOf]; omega)
    · obtain rfl : i = L.length := by omega
      rw [List.take_length] at hrow hsl
      obtain ⟨a, cap, rfl⟩ : ∃ a cap, v = .slice a L.length cap := by
        rcases trow_form hrow with ⟨h1, h2⟩ | ⟨g2, cap2, h1, _⟩
        · refine ⟨none, 0, ?_⟩
          rw [h2] at hsl
          rw [← hsl]; exact h1
        · exact ⟨_, _, by rw [← hsl]; exact h1⟩
      have F : Hid (NewT 40 (sortT L) w ⟨a, L.length, cap⟩ wA) := ⟨hrow, hsl.symm, hov⟩
      have HB := Lib.hid hb
      clear hrow hov hb HR X
      go_wp2
      go_ret
      exact ⟨⟨a, L.length, cap⟩, rfl, F.out, HB.out⟩
end Go.Proofs.Ytmnakbpjbgjnmaa
