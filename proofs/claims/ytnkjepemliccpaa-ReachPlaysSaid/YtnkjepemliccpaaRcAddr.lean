/- The program's: Addr. -/
import Derived.Test.YtnkjepemliccpaaRcOf
namespace Go.Proofs.Ytnkjepemliccpaa
open Go.Sort Go.RowKit Go.BigFrame
set_option linter.unusedVariables false
set_option linter.unusedSimpArgs false

/-- a scope whose label is fallen into and jumped back to: one body for all passes -/
theorem wp_scope_body {P : Program} {c rest : Code} {a : Act} {w : World} {Q : Exit → Act → World → Prop} (l : Nat) (J : Act → World → Prop) (μ : Act → World → Nat) (hf : findLabel c l = some (.seq .skip rest))
    (first : (∀ a w, J a w → rest.wp P (Exit.jump l J Q) a w) → c.wp P (Exit.jump l J Q) a w)
    (pass : ∀ a w, J a w → rest.wp P (Exit.jump l (fun a' w' => J a' w' ∧ μ a' w' < μ a w) Q) a w) : (Code.scope c).wp P Q a w := by
  refine wp_scope_jumps l J μ hf (first fun a w h => ?_) (fun a w h => wp_seq (wp_skip (pass a w h)))
  refine Code.wp_mono (fun e a1 w1 h => ?_) (pass a w h)
  cases e <;> first | exact ⟨h.1, h.2.1⟩ | exact h
def bTo (k : Rc) (now : Int) (i : Nat) : Bs := (loV k.vote i).foldl (stepA k.hold now (allV k.vote)) zB
theorem bTo_no {k : Rc} {now : Int} {i : Nat} (h : (isV (k.vote i) && liveB k.hold now (k.vote i)) = false) : bTo k now (i + 1) = bTo k now i := by
  unfold bTo
  cases hv : isV (k.vote i) with
  | false => rw [lo_no hv]
  | true =>
    rw [hv, Bool.true_and] at h
    rw [lo_yes hv, List.foldl_append, List.foldl_cons, List.foldl_nil]
    unfold stepA
    rw [if_neg (by simp [h])]
theorem bTo_yes {k : Rc} {now : Int} {i : Nat} (h : (isV (k.vote i) && liveB k.hold now (k.vote i)) = true) (hb : betB (bTo k now i) (k.vote i).ip (k.vote i).pt (cntL k.hold now (allV k.vote) (k.vote i).ip (k.vote i).pt) = true) :
    bTo k now (i + 1) = ⟨(k.vote i).ip, (k.vote i).pt, cntL k.hold now (allV k.vote) (k.vote i).ip (k.vote i).pt⟩ := by
  rw [Bool.and_eq_true] at h
  unfold bTo at *
  rw [lo_yes h.1, List.foldl_append, List.foldl_cons, List.foldl_nil]
  generalize List.foldl _ zB (loV k.vote i) = b at *
  unfold stepA
  rw [if_pos h.2, if_pos hb]
theorem bTo_keep {k : Rc} {now : Int} {i : Nat} (h : (isV (k.vote i) && liveB k.hold now (k.vote i)) = true) (hb : betB (bTo k now i) (k.vote i).ip (k.vote i).pt (cntL k.hold now (allV k.vote) (k.vote i).ip (k.vote i).pt) = false) :
    bTo k now (i + 1) = bTo k now i := by
  rw [Bool.and_eq_true] at h
  unfold bTo at *
  rw [lo_yes h.1, List.foldl_append, List.foldl_cons, List.foldl_nil]
  generalize List.foldl _ zB (loV k.vote i) = b at *
  unfold stepA
  rw [if_pos h.2, if_neg (by simp [hb])]
theorem bTo_start {k : Rc} (h : OkR k) (now : Int) : bTo k now 1 = zB := by
  have h0 : isV (k.vote 0) = false := by
    rcases h.vote 0 with h1 | h1
    · rw [h1]; exact isV_z
    · have := h1.lo; omega
  rw [bTo_no (by rw [h0]; rfl)]; rfl
theorem bTo_num {k : Rc} (h : OkR k) (now : Int) (i : Nat) : (bTo k now i).ip < 4294967296 ∧ (bTo k now i).pt < 65536 ∧ (bTo k now i).n ≤ 33 := by
  induction i with
  | zero => exact ⟨by show (0 : Nat) < 4294967296; decide, by show (0 : Nat) < 65536; decide, Nat.zero_le _⟩
  | succ i ih =>
    have hn := h.num i
    have hc := cnt_le k.hold now (allV k.vote) (k.vote i).ip (k.vote i).pt
    have ha := all_len k.vote
    cases hv : (isV (k.vote i) && liveB k.hold now (k.vote i)) with
    | false => rw [bTo_no hv]; exact ih
    | true =>
      cases hb : betB (bTo k now i) (k.vote i).ip (k.vote i).pt (cntL k.hold now (allV k.vote) (k.vote i).ip (k.vote i).pt) with
      | false => rw [bTo_keep hv hb]; exact ih
      | true => rw [bTo_yes hv hb]; exact ⟨hn.2.2.1, hn.2.2.2, by show cntL _ _ _ _ _ ≤ 33; omega⟩
def bc (b : Bs) : List Value := [.int .u32 b.ip, .int .u16 b.pt]
def z2 : List Value := [.int .u32 0, .int .u16 0]
/-- what the blocks hold behind a pass -/
structure AdI (k : Rc) (now : Int) (w : World) (b4 b6 i : Nat) (wr : World) : Prop where
  x6 : Cs b6 (bc (bTo k now (i + 1))) wr
  x4 : Cs b4 z2 wr
  ne : b4 ≠ b6
  l4 : w.heap.size ≤ b4
  l6 : w.heap.size ≤ b6
  below : Below w.heap.size w wr
def AdJ (g : Nat) (k : Rc) (now : Int) (w : World) (b4 b6 : Nat) (a' : Act) (w' : World) : Prop :=
  ∃ (i : Nat) (q m : Int), q = (i : Int) ∧ m = ((bTo k now (i + 1)).n : Nat) ∧ i ≤ 32 ∧ AdI k now w b4 b6 i w' ∧ a'.defers = [] ∧ (∃ u2 u3 u9 u10 u11 u12 u13 u14 u15 u16 u17 u18 u19 u20 u21 u22 u23 u24 u25 u26 u27 u28 u29 u30 u31 u32 u33 u34 u35 u36 u37 u38 u39 u40 u41 u42 u43 u44 u45 u46 u47 u48 u49 u50 u51, a'.tmps = #[.pointer (some ⟨g, 0, none⟩), .int .u64 now, u2, u3, .pointer (some ⟨b4, 0, none⟩), .bool false, .pointer (some ⟨b6, 0, none⟩), .int .i64 m, .int .i64 q, u9, u10, u11, u12, u13, u14, u15, u16, u17, u18, u19, u20, u21, u22, u23, u24, u25, u26, u27, u28, u29, u30, u31, u32, u33, u34, u35, u36, u37, u38, u39, u40, u41, u42, u43, u44, u45, u46, u47, u48, u49, u50, u51])
theorem AdI.same {k : Rc} {now : Int} {w wr w' : World} {b4 b6 i : Nat} (h : AdI k now w b4 b6 i wr) (hb : Below wr.heap.size wr w') (e : bTo k now (i + 1 + 1) = bTo k now (i + 1)) : AdI k now w b4 b6 (i + 1) w' :=
  ⟨by rw [e]; exact h.x6.keep hb, h.x4.keep hb, h.ne, h.l4, h.l6, h.below.trans (hb.mono h.below.size)⟩
theorem AdI.put {k : Rc} {now : Int} {w wr w' : World} {b4 b6 i : Nat} (h : AdI k now w b4 b6 i wr) (hb : Below wr.heap.size wr w') {ip pt n : Nat} (e : bTo k now (i + 1 + 1) = ⟨ip, pt, n⟩) :
    AdI k now w b4 b6 (i + 1) ((w'.setCell ⟨b6, 0, none⟩ (.int .u32 ip)).setCell ⟨b6, 1, none⟩ (.int .u16 pt)) := by
  have x6 := ((h.x6.keep hb).set 0 (.int .u32 ip) (by simp [bc])).set 1 (.int .u16 pt) (by simp [bc])
  refine ⟨by rw [e]; exact x6, ((h.x4.keep hb).far _ _ (fun e => h.ne e.symm)).far _ _ (fun e => h.ne e.symm), h.ne, h.l4, h.l6, ?_⟩
  exact ((h.below.trans (hb.mono h.below.size)).setCell (by exact h.l6) _).setCell (by exact h.l6) _
def AddrPost (k : Rc) (now : Int) (w : World) (e : Ending) (w' : World) : Prop := e = .returned (.tuple #[.agg #[.int .u32 (addrR k now).ip, .int .u16 (addrR k now).pt], .bool (decide (0 < (addrR k now).n))]) ∧ Below w.heap.size w w'
set_option maxHeartbeats 6400000 in
set_option maxRecDepth 100000 in
theorem addr_any (now : Int) (g : Nat) (k : Rc) (w : World) (h : Rs g k w) :
    Calls Try.prog 23 #[.pointer (some ⟨g, 0, none⟩), .int .u64 now] w (AddrPost k now w) := by
  have H := Lib.hid h
  have hbs : Hid (bTo k now (0 + 1) = zB) := bTo_start h.ok now
  have A0 : Hid (AdI k now w w.heap.size (w.heap.size + 1) 0 ((w.alloc (.cells #[.int .u32 0, .int .u16 0] 35)).alloc (.cells #[.int .u32 0, .int .u16 0] 35))) := by
    have B1 := (Below.refl w.heap.size w).alloc (Nat.le_refl _) (.cells #[.int .u32 0, .int .u16 0] 35)
    have X1 := Cs.new w z2 35
    have X2 := Cs.new (w.alloc (.cells #[.int .u32 0, .int .u16 0] 35)) z2 35
    rw [World.size_alloc] at X2
    exact ⟨by rw [hbs.out]; exact X2, X1.alloc _, by omega, Nat.le_refl _, by omega, B1.alloc B1.size _⟩
  clear h
  unfold AddrPost
  have HR : Hid (addrR k now = bTo k now 33) := rfl
  have HNUM := Lib.hid (bTo_num H.out.ok now)
  generalize addrR k now = br at *
  go_enter Try.func23, Try.ntmps23
  go_wp2
  obtain ⟨b4, hb4⟩ : ∃ b, b = w.heap.size := ⟨_, rfl⟩
  obtain ⟨b6, hb6⟩ : ∃ b, b = w.heap.size + 1 := ⟨_, rfl⟩
  rw [← hb6, ← hb4] at A0
  refine wp_scope_body 0 (AdJ g k now w b4 b6) (fun a' _ => 33 - (intOf (a'.tmps.getD 8 undef)).toNat) rfl ?_ ?_
  · intro hgo
    go_wp2_with fail
    go_step3
    simp only [Exit.then]
    go_step
    refine hgo _ _ ?_
    subst hb4 hb6
    exact ⟨0, 0, 0, rfl, by rw [hbs.out]; rfl, by omega, A0.out, rfl, ⟨_, _, _, _, _, _, _, _, _, _, _, _, _, _, _, _, _, _, _, _, _, _, _, _, _, _, _, _, _, _, _, _, _, _, _, _, _, _, _, _, _, _, _, _, _, rfl⟩⟩
  clear hb4 hb6
  rintro ⟨t1, dd1⟩ wr ⟨i, q, m, rfl, rfl, hi, hA, hd, ⟨u2, u3, u9, u10, u11, u12, u13, u14, u15, u16, u17, u18, u19, u20, u21, u22, u23, u24, u25, u26, u27, u28, u29, u30, u31, u32, u33, u34, u35, u36, u37, u38, u39, u40, u41, u42, u43, u44, u45, u46, u47, u48, u49, u50, u51, ht⟩⟩
  obtain rfl : dd1 = [] := hd
  obtain rfl : t1 = _ := ht
  have A := Lib.hid hA
  clear hA A0 hbs
  have gl := (H.out.keep A.out.below).lt
  have hi0 : (0 : Int) ≤ i := by omega
  have p1 := IntWalk.i64_in ((i : Int) + 1) ⟨by omega, by omega⟩
  by_cases hlt : i < 32
  · have hle : ¬ (32 : Int) < (i : Int) + 1 := by omega
    have hn1 : i + 1 < 33 := by omega
    have hn2 : (i : Int) + 1 < 33 := by omega
    have hn3 : (0 : Int) ≤ (i : Int) + 1 := by omega
    have hx := H.out.ok.num (i + 1)
    have c0 := (H.out.keep A.out.below).vote (i + 1) hn1 0 _ rfl
    have c1 := (H.out.keep A.out.below).vote (i + 1) hn1 1 _ rfl
    have c2 := (H.out.keep A.out.below).vote (i + 1) hn1 2 _ rfl
    have c3 := (H.out.keep A.out.below).vote (i + 1) hn1 3 _ rfl
    simp only [Nat.add_zero] at c0
    have HK1 := Lib.hid (fun w' (b : Below w.heap.size w w') => counts_any (k.vote (i + 1)) hx.1 hx.2.1 now g k w' (H.out.keep b))
    have HK2 := Lib.hid (fun w' (b : Below w.heap.size w w') => of_any (k.vote (i + 1)).ip (k.vote (i + 1)).pt now g k w' (H.out.keep b))
    have HBN := HNUM.out (i + 1)
    have HK3 := Lib.hid (fun w' => order_any (k.vote (i + 1)).ip (k.vote (i + 1)).pt (bTo k now (i + 1)).ip (bTo k now (i + 1)).pt hx.2.2.1 hx.2.2.2 HBN.1 HBN.2.1 w')
    have NO := Lib.hid (bTo_no (k := k) (now := now) (i := i + 1))
    have YES := Lib.hid (bTo_yes (k := k) (now := now) (i := i + 1))
    have KEEP := Lib.hid (bTo_keep (k := k) (now := now) (i := i + 1))
    have HCN : Hid (cntL k.hold now (allV k.vote) (k.vote (i + 1)).ip (k.vote (i + 1)).pt ≤ 33) := Nat.le_trans (cnt_le _ _ _ _ _) (all_len _)
    have HBE : Hid (betB (bTo k now (i + 1)) (k.vote (i + 1)).ip (k.vote (i + 1)).pt (cntL k.hold now (allV k.vote) (k.vote (i + 1)).ip (k.vote (i + 1)).pt) = (decide ((bTo k now (i + 1)).n < cntL k.hold now (allV k.vote) (k.vote (i + 1)).ip (k.vote (i + 1)).pt) || (decide (cntL k.hold now (allV k.vote) (k.vote (i + 1)).ip (k.vote (i + 1)).pt = (bTo k now (i + 1)).n) && decide (ordI (k.vote (i + 1)).ip (k.vote (i + 1)).pt (bTo k now (i + 1)).ip (bTo k now (i + 1)).pt < 0)))) := rfl
    have x60 := A.out.x6.cell 0 _ rfl
    have x61 := A.out.x6.cell 1 _ rfl
    generalize betB (bTo k now (i + 1)) (k.vote (i + 1)).ip (k.vote (i + 1)).pt (cntL k.hold now (allV k.vote) (k.vote (i + 1)).ip (k.vote (i + 1)).pt) = bb at *
    generalize cntL k.hold now (allV k.vote) (k.vote (i + 1)).ip (k.vote (i + 1)).pt = cn at *
    generalize (isV (k.vote (i + 1)) && liveB k.hold now (k.vote (i + 1))) = lv at *
    generalize hO : ordI (k.vote (i + 1)).ip (k.vote (i + 1)).pt (bTo k now (i + 1)).ip (bTo k now (i + 1)).pt = od at *
    clear hO HBN hx
    generalize k.vote (i + 1) = x at *
    obtain ⟨x1, x2, x3, x4⟩ := x
    simp only at HK1 HK2 HK3 YES
    simp only [cv, List.getElem?_cons_zero] at c0 c1 c2 c3
    generalize hbt : bTo k now (i + 1) = b at *
    have B2 : Hid (Below wr.heap.size wr (wr.alloc (.cells #[.int .i64 x1, .int .u32 x2, .int .u16 x3, .int .u64 x4] 57))) := (Below.refl _ wr).alloc (Nat.le_refl _) _
    have X2 : Hid (Cs wr.heap.size [.int .i64 x1, .int .u32 x2, .int .u16 x3, .int .u64 x4] (wr.alloc (.cells #[.int .i64 x1, .int .u32 x2, .int .u16 x3, .int .u64 x4] 57))) := Cs.new wr _ _
    have K := HK1.out _ (A.out.below.trans (B2.out.mono A.out.below.size))
    clear HK1
    go_upto_region 7 with fail
    have X2L := Lib.hid X2.out.lt
    generalize (wr.alloc (.cells #[.int .i64 x1, .int .u32 x2, .int .u16 x3, .int .u64 x4] 57)) = w2 at *
    generalize wr.heap.size = b9 at X2 X2L ⊢
    have z0 := X2.out.cell 0 _ rfl
    have z1 := X2.out.cell 1 _ rfl
    have z2 := X2.out.cell 2 _ rfl
    have z3 := X2.out.cell 3 _ rfl
    have zl := X2.out.lt
    clear c0 c1 c2 c3 x60 x61 p1
    go_wp2_with fail
    refine K.mono ?_; rintro e w3 ⟨rfl, b3⟩
    have B3 := Lib.hid (B2.out.trans (b3.mono B2.out.size))
    have X3 := Lib.hid (X2.out.keep b3)
    clear b3 K X2 z0 z1 z2 z3 zl X2L B2
    obtain ⟨q1, q2, q3⟩ := b
    simp only at HBE HK3
    cases lv with
    | false =>
      have EQ : Hid (bTo k now (i + 1 + 1) = ⟨q1, q2, q3⟩) := NO.out rfl
      have AF := Lib.hid (A.out.same B3.out (by rw [hbt]; exact EQ.out))
      clear NO YES KEEP HBE HK2 HK3 gl
      go_wp2
      go_step3
      go_wp2
      refine ⟨rfl, ⟨i + 1, _, _, ?_, ?_, by omega, AF.out, rfl, ⟨_, _, _, _, _, _, _, _, _, _, _, _, _, _, _, _, _, _, _, _, _, _, _, _, _, _, _, _, _, _, _, _, _, _, _, _, _, _, _, _, _, _, _, _, _, rfl⟩⟩, ?_⟩
      · first | (simp; done) | (simp; omega) | omega | rfl
      · rw [EQ.out]
      · simp [intOf]; omega
    | true =>
      have K := HK2.out _ (A.out.below.trans (B3.out.mono A.out.below.size))
      have z1 := X3.out.cell 1 _ rfl
      have z2 := X3.out.cell 2 _ rfl
      have zl := X3.out.lt
      clear HK2 NO
      go_wp2_with fail
      refine K.mono ?_; rintro e w4 ⟨rfl, b4'⟩
      have B4 := Lib.hid (B3.out.trans (b4'.mono B3.out.size))
      have X4 := Lib.hid (X3.out.keep b4')
      have X6 := Lib.hid (A.out.x6.keep B4.out)
      rw [hbt] at X6
      simp only [bc] at X6
      clear z1 z2 zl X3 B3 K b4'
      have z1 := X4.out.cell 1 _ rfl
      have z2 := X4.out.cell 2 _ rfl
      have zl := X4.out.lt
      have y60 := X6.out.cell 0 _ rfl
      have y61 := X6.out.cell 1 _ rfl
      have yl := X6.out.lt
      have yf0 := X6.out.free 0 _ rfl
      have yf1 := X6.out.free 1 _ rfl
      rcases Nat.lt_trichotomy q3 cn with hc | hc | hc
      · have hb : bb = true := by rw [HBE.out]; simp [hc]
        have EQ : Hid (bTo k now (i + 1 + 1) = ⟨x2, x3, cn⟩) := YES.out (by trivial) hb
        have AF := Lib.hid (A.out.put B4.out EQ.out)
        have d1 : (q3 : Int) < cn := by omega
        clear HBE YES KEEP HK3 hc hb X4 X6 B4 hbt A
        go_wp2_with fail
        go_wp2
        go_step3
        go_wp2
        refine ⟨rfl, ⟨i + 1, _, _, ?_, ?_, by omega, AF.out, rfl, ⟨_, _, _, _, _, _, _, _, _, _, _, _, _, _, _, _, _, _, _, _, _, _, _, _, _, _, _, _, _, _, _, _, _, _, _, _, _, _, _, _, _, _, _, _, _, rfl⟩⟩, ?_⟩
        · first | (simp; done) | (simp; omega) | omega | rfl
        · rw [EQ.out]
        · simp [intOf]; omega
      · subst hc
        have d1 : ¬ (q3 : Int) < q3 := by omega
        have K := HK3.out w4
        clear HK3
        go_wp2_with fail
        refine K.mono ?_; rintro e w5 ⟨rfl, b5⟩
        have B5 := Lib.hid (B4.out.trans (b5.mono B4.out.size))
        have X5 := Lib.hid (X4.out.keep b5)
        have X7 := Lib.hid (X6.out.keep b5)
        clear z1 z2 zl y60 y61 yl yf0 yf1 X4 X6 B4 K b5
        have z1 := X5.out.cell 1 _ rfl
        have z2 := X5.out.cell 2 _ rfl
        have zl := X5.out.lt
        have y60 := X7.out.cell 0 _ rfl
        have y61 := X7.out.cell 1 _ rfl
        have yl := X7.out.lt
        have yf0 := X7.out.free 0 _ rfl
        have yf1 := X7.out.free 1 _ rfl
        by_cases ho : od < 0
        · have hb : bb = true := by rw [HBE.out]; simp [ho]
          have EQ : Hid (bTo k now (i + 1 + 1) = ⟨x2, x3, q3⟩) := YES.out (by trivial) hb
          have AF := Lib.hid (A.out.put B5.out EQ.out)
          clear HBE YES KEEP hb X5 X7 B5 hbt A
          go_wp2
          go_step3
          go_wp2
          refine ⟨rfl, ⟨i + 1, _, _, ?_, ?_, by omega, AF.out, rfl, ⟨_, _, _, _, _, _, _, _, _, _, _, _, _, _, _, _, _, _, _, _, _, _, _, _, _, _, _, _, _, _, _, _, _, _, _, _, _, _, _, _, _, _, _, _, _, rfl⟩⟩, ?_⟩
          · first | (simp; done) | (simp; omega) | omega | rfl
          · rw [EQ.out]
          · simp [intOf]; omega
        · have hb : bb = false := by rw [HBE.out]; simp; omega
          have EQ : Hid (bTo k now (i + 1 + 1) = ⟨q1, q2, q3⟩) := KEEP.out (by trivial) hb
          have AF := Lib.hid (A.out.same B5.out (by rw [hbt]; exact EQ.out))
          clear HBE YES KEEP hb X5 X7 B5 hbt A y60 y61 yl yf0 yf1
          go_wp2
          go_step3
          go_wp2
          refine ⟨rfl, ⟨i + 1, _, _, ?_, ?_, by omega, AF.out, rfl, ⟨_, _, _, _, _, _, _, _, _, _, _, _, _, _, _, _, _, _, _, _, _, _, _, _, _, _, _, _, _, _, _, _, _, _, _, _, _, _, _, _, _, _, _, _, _, rfl⟩⟩, ?_⟩
          · first | (simp; done) | (simp; omega) | omega | rfl
          · rw [EQ.out]
          · simp [intOf]; omega
      · have hb : bb = false := by rw [HBE.out]; simp; omega
        have EQ : Hid (bTo k now (i + 1 + 1) = ⟨q1, q2, q3⟩) := KEEP.out (by trivial) hb
        have AF := Lib.hid (A.out.same B4.out (by rw [hbt]; exact EQ.out))
        have d1 : ¬ (q3 : Int) < cn := by omega
        have d2 : ¬ (cn : Int) = q3 := by omega
        have d3 : ((cn : Int) == (q3 : Int)) = false := by rw [beq_eq_false_iff_ne]; omega
        clear HBE YES KEEP HK3 hc hb X4 X6 B4 hbt A y60 y61 yl yf0 yf1
        go_wp2
        go_step3
        go_wp2
        refine ⟨rfl, ⟨i + 1, _, _, ?_, ?_, by omega, AF.out, rfl, ⟨_, _, _, _, _, _, _, _, _, _, _, _, _, _, _, _, _, _, _, _, _, _, _, _, _, _, _, _, _, _, _, _, _, _, _, _, _, _, _, _, _, _, _, _, _, rfl⟩⟩, ?_⟩
        · first | (simp; done) | (simp; omega) | omega | rfl
        · rw [EQ.out]
        · simp [intOf]; omega
  · obtain rfl : i = 32 := by omega
    have hle : (32 : Int) < ((32 : Nat) : Int) + 1 := by omega
    have EB : Hid (bTo k now (32 + 1) = br) := HR.out.symm
    have X6 := Lib.hid A.out.x6
    rw [EB.out] at X6
    simp only [bc] at X6
    have y60 := X6.out.cell 0 _ rfl
    have y61 := X6.out.cell 1 _ rfl
    have yl := X6.out.lt
    have t0 := A.out.x4.cell 0 _ rfl
    have t1' := A.out.x4.cell 1 _ rfl
    have tf0 := A.out.x4.free 0 _ rfl
    have tf1 := A.out.x4.free 1 _ rfl
    have tl := A.out.x4.lt
    have X4 := Lib.hid ((A.out.x4.set 0 (.int .u32 br.ip) (by simp [z2])).set 1 (.int .u16 br.pt) (by simp [z2]))
    have BF : Hid (Below w.heap.size w ((wr.setCell ⟨b4, 0, none⟩ (.int .u32 br.ip)).setCell ⟨b4, 1, none⟩ (.int .u16 br.pt))) := (A.out.below.setCell (by exact A.out.l4) _).setCell (by exact A.out.l4) _
    simp only [z2, List.set_cons_zero, List.set_cons_succ] at X4
    rw [EB.out]
    clear X6 A EB HNUM HR
    obtain ⟨q1, q2, q3⟩ := br
    simp only at *
    go_wp2
    simp only [Exit.jump]
    generalize ((wr.setCell ⟨b4, 0, none⟩ (.int .u32 q1)).setCell ⟨b4, 1, none⟩ (.int .u16 q2)) = w9 at *
    have s0 := X4.out.cell 0 _ rfl
    have s1 := X4.out.cell 1 _ rfl
    have sl := X4.out.lt
    clear t0 t1' tf0 tf1 tl y60 y61 yl
    refine bodyPost_ret (v := (.tuple #[.agg #[.int .u32 q1, .int .u16 q2], .bool (decide (0 < q3))])) (by simp [results, Try.results23, go_sem, *]) rfl ?_
    exact ⟨rfl, BF.out⟩
end Go.Proofs.Ytnkjepemliccpaa
