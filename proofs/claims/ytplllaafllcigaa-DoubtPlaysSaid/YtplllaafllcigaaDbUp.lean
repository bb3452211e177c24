/- The program's upTo. -/
import Derived.Test.YtplllaafllcigaaDbConf
namespace Go.Proofs.Ytplllaafllcigaa
open Go.Sort Go.RowKit Go.BigFrame
set_option linter.unusedVariables false
set_option linter.unusedSimpArgs false

theorem info_item : (Try.prog.info? 53).map (fun i => (i.zero, i.size, i.bytes)) = some (some (.agg #[.int .i64 0, .int .u32 0, .int .u64 0, .int .u64 0, .slice none 0 0]), 5, 56) := by kernel_rfl
/-- a slice of items, each with its own list -/
structure IRow (T : TypeId) (w : World) (u : Value) (P : List (It × Sl)) : Prop where
  row : ERow cp 5 T w u P
  who : ∀ p ∈ P, ERow c64 1 3 w p.2.v p.1.who
def IOwn (u : Value) (P : List (It × Sl)) (b : Nat) : Prop := u.ownBlock = some b ∨ ∃ p ∈ P, p.2.v.ownBlock = some b
section
variable {T : TypeId} {w w' : World} {u u' : Value} {P : List (It × Sl)} {F : Nat → Prop}
theorem irow_nil : IRow T w (.slice none 0 0) [] := ⟨erow_nil, by simp⟩
theorem IRow.touch (h : IRow T w u P) (ht : Touch F w w') (hF : ∀ b, IOwn u P b → ¬ F b) : IRow T w' u P :=
  ⟨erow_touch h.row ht (fun b hb => hF b (.inl hb)), fun p hp => erow_touch (h.who p hp) ht (fun b hb => hF b (.inr ⟨p, hp, hb⟩))⟩
theorem IRow.keep (h : IRow T w u P) (hb : Below w.heap.size w w') : IRow T w' u P := h.touch (Touch.of_below (fun _ => False) hb) (fun _ _ h => h)
theorem IRow.lt (h : IRow T w u P) : ∀ b, IOwn u P b → b < w.heap.size := by
  rintro b (hb | ⟨p, hp, hb⟩)
  · exact erow_lt h.row hb
  · exact erow_lt (h.who p hp) hb
/-- one more at the end -/
theorem IRow.push (h : IRow T w u P) (hT : T ≠ 3) {x : It} {s : Sl} (hx : ERow c64 1 3 w s.v x.who) (hown : w'.ownsRow 0 T 5 u' (P.length + 1) ((P.map cp).flatten ++ ci x s)) (hg : w.grownBy w' u.ownBlock) : IRow T w' u' (P ++ [(x, s)]) := by
  have hr : ERow cp 5 T w' u' (P ++ [(x, s)]) := erow_snoc (c := cp) (x := (x, s)) rfl hown
  have far : ∀ (p : It × Sl), ERow c64 1 3 w p.2.v p.1.who → ERow c64 1 3 w' p.2.v p.1.who := fun p hp =>
    erow_touch (F := fun b => u.ownBlock = some b) hp (Touch.of_grown hg (fun k hk => hk)) (fun b hb hu => rows_apart h.row hp hT hu hb)
  refine ⟨hr, fun p hp => ?_⟩
  rcases List.mem_append.1 hp with hp | hp
  · exact far p (h.who p hp)
  · simp only [List.mem_singleton] at hp
    subst hp
    exact far (x, s) hx
end
def UJ (k : Nat → It) (now : Int) (w : World) (i : Nat) (sv : Value) (wr : World) : Prop :=
  ∃ P : List (It × Sl), P.map Prod.fst = loL (dueB now) k (i + 1) ∧ IRow 53 wr sv P ∧ (∀ b, IOwn sv P b → w.heap.size ≤ b) ∧ Below w.heap.size w wr ∧ (P = [] → sv = .slice none 0 0)
theorem uj_same {k : Nat → It} {now : Int} {w w1 w2 : World} {i : Nat} {sv : Value} (h : UJ k now w i sv w1) (hb : Below w1.heap.size w1 w2) (hn : dueB now (k (i + 1)) = false) : UJ k now w (i + 1) sv w2 := by
  obtain ⟨P, h1, h2, h3, h4, h5⟩ := h
  exact ⟨P, by rw [h1, lo_no hn], h2.keep hb, h3, h4.trans (hb.mono h4.size), h5⟩
def UpPost (k : Nat → It) (now : Int) (w : World) (e : Ending) (w' : World) : Prop :=
  ∃ (u : Sl) (P : List (It × Sl)), e = .returned (.slice u.a u.n u.c) ∧ P.map Prod.fst = dueL k now ∧ IRow 53 w' u.v P ∧ (∀ b, IOwn u.v P b → w.heap.size ≤ b) ∧ Below w.heap.size w w' ∧ (P = [] → u = nilS)
theorem up_end {k : Nat → It} {now : Int} {w w1 : World} {sv : Value} (h : UJ k now w 32 sv w1) : ∃ u : Sl, sv = .slice u.a u.n u.c ∧ UpPost k now w (.returned (.slice u.a u.n u.c)) w1 := by
  obtain ⟨P, h1, h2, h3, h4, h5⟩ := h
  obtain ⟨u, rfl⟩ := sl_of h2.row
  exact ⟨u, rfl, u, P, rfl, h1, h2, h3, h4, fun e => by
    have := h5 e
    obtain ⟨a, n, c⟩ := u
    simp only [Sl.v, Value.slice.injEq] at this
    obtain ⟨rfl, rfl, rfl⟩ := this
    rfl⟩
def UpJ (g : Nat) (k : Nat → It) (now : Int) (w : World) (a' : Act) (w' : World) : Prop :=
  ∃ (i : Nat) (q : Int) (sv : Value), q = (i : Int) ∧ i ≤ 32 ∧ UJ k now w i sv w' ∧ a'.defers = [] ∧ (∃ u2 u3 u4 u7 u8 u9 u10 u11 u12 u13 u14 u15 u16 u17 u18 u19 u20 u21 u22 u23 u24 u25 u26 u27 u28 u29 u30 u31 u32 u33 u34 u35 u36 u37 u38 u39 u40, a'.tmps = #[.pointer (some ⟨g, 0, none⟩), .int .u64 now, u2, u3, u4, sv, .int .i64 q, u7, u8, u9, u10, u11, u12, u13, u14, u15, u16, u17, u18, u19, u20, u21, u22, u23, u24, u25, u26, u27, u28, u29, u30, u31, u32, u33, u34, u35, u36, u37, u38, u39, u40])
theorem uj_start {k : Nat → It} {now : Int} {w : World} (h : OkD k) : UJ k now w 0 (.slice none 0 0) w := by
  have h0 : susp (k 0) = false := by
    cases e : susp (k 0) with
    | false => rfl
    | true => have := (h.ok 0 e).lo; omega
  refine ⟨[], ?_, irow_nil, ?_, Below.refl _ _, fun _ => rfl⟩
  · rw [lo_no (by unfold dueB; rw [h0]; rfl)]; rfl
  · rintro b (hb | ⟨p, hp, _⟩)
    · simp [Value.ownBlock] at hb
    · simp at hp
/-- an item is told: its box, with a list of its own, is put behind the others -/
theorem uj_push {k : Nat → It} {now : Int} {w w1 w2 w5 : World} {i : Nat} {sv sv' : Value} {s' : Sl} {P : List (It × Sl)} (hi : P.map Prod.fst = loL (dueB now) k (i + 1)) (hy : dueB now (k (i + 1)) = true)
    (h2 : IRow 53 w1 sv P) (h3 : ∀ b, IOwn sv P b → w.heap.size ≤ b) (h4 : Below w.heap.size w w1) (hb : Below w1.heap.size w1 w2) (hs : ERow c64 1 3 w2 s'.v (k (i + 1)).who) (hsn : ∀ b, s'.v.ownBlock = some b → w1.heap.size ≤ b)
    (hown : w5.ownsRow 0 53 5 sv' (P.length + 1) ((P.map cp).flatten ++ ci (k (i + 1)) s')) (hg : w2.grownBy w5 sv.ownBlock) (hat : ∀ b, sv'.ownBlock = some b → sv.ownBlock = some b ∨ b = w2.heap.size) : UJ k now w (i + 1) sv' w5 := by
  have hsz := hb.size
  have hsz2 := h4.size
  refine ⟨P ++ [(k (i + 1), s')], ?_, (h2.keep hb).push (by decide) hs hown hg, ?_, ?_, fun e => by simp at e⟩
  · rw [List.map_append, hi, lo_yes hy]; rfl
  · rintro b (hb1 | ⟨p, hp, hb1⟩)
    · rcases hat b hb1 with h5 | h5
      · exact h3 b (.inl h5)
      · omega
    · rcases List.mem_append.1 hp with hp | hp
      · exact h3 b (.inr ⟨p, hp, hb1⟩)
      · simp only [List.mem_singleton] at hp
        subst hp
        have := hsn b hb1
        omega
  · exact (h4.trans (hb.mono h4.size)).grown hg (Nat.le_trans hsz2 hsz) (fun b hb1 => h3 b (.inl hb1))
set_option maxHeartbeats 6400000 in
set_option maxRecDepth 100000 in
theorem up_any (g : Nat) (now : Int) (V : Nat → Sl) (k : Nat → It) (w : World) (h : Ds g V k w) :
    Calls Try.prog 29 #[.pointer (some ⟨g, 0, none⟩), .int .u64 now] w (UpPost k now w) := by
  obtain ⟨i0, hi0, hz0, hz1, hz2⟩ := info_parts info_item
  have U0 := Lib.hid (uj_start (now := now) (w := w) h.ok)
  have H := Lib.hid h
  clear h
  go_enter Try.func29, Try.ntmps29
  go_wp2
  refine wp_scope_jumps 0 (UpJ g k now w) (fun a' _ => 33 - (intOf (a'.tmps.getD 6 undef)).toNat) rfl ?_ ?_
  · go_wp2_with fail
    go_step3
    have UR := Lib.hid U0.out
    have hle : 0 + 1 < 33 := by omega
    have hle2 : (1 : Int) < 33 := by omega
    have hle3 : ¬ (32 : Int) < (1 : Int) := by omega
    have hle0 : (0 : Int) ≤ (1 : Int) := by omega
    have HB : Hid (Below w.heap.size w w) := by obtain ⟨_, _, _, _, hb, _⟩ := UR.out; exact hb
    have HH := Lib.hid (H.out.keep HB.out)
    have K := duntil_any (0 + 1 : Nat) g V k w HH.out
    unfold UntilPost at K
    have gl := HH.out.glt
    have HS : Hid (suspI k ((0 + 1 : Nat) : Int) = susp (k (0 + 1))) := by
      show suspI k ((0 + 1 : Nat) : Int) = susp (k (0 + 1))
      unfold suspI
      rw [nodeI_iff.2 ⟨by omega, by omega⟩, Int.toNat_natCast, Bool.true_and]
    have HV : Hid (untilV k ((0 + 1 : Nat) : Int) = if suspI k ((0 + 1 : Nat) : Int) = true then untilI (k (0 + 1)) else 0) := rfl
    have HQ : Hid (dueB now (k (0 + 1)) = (susp (k (0 + 1)) && decide (untilI (k (0 + 1)) ≤ now))) := rfl
    rw [show (((0 + 1 : Nat)) : Int) = (1 : Int) from rfl] at K HS HV
    cases hs : suspI k ((1 : Int)) with
    | false =>
      rw [hs] at K
      have HN : dueB now (k (0 + 1)) = false := by rw [HQ.out, ← HS.out, hs]; rfl
      clear HQ HS HV
      generalize untilV k ((1 : Int)) = U at *
      go_wp2_with fail
      refine K.mono ?_; rintro e w1 ⟨rfl, b1⟩
      have FU := Lib.hid (uj_same UR.out b1 HN)
      clear HN K gl
      go_wp2
      go_step3
      go_wp2
      refine ⟨rfl, ⟨0 + 1, _, _, ?_, by omega, FU.out, rfl, ⟨_, _, _, _, _, _, _, _, _, _, _, _, _, _, _, _, _, _, _, _, _, _, _, _, _, _, _, _, _, _, _, _, _, _, _, _, _, rfl⟩⟩⟩
      · first | (simp; done) | (simp; omega) | omega | rfl
    | true =>
      have hU : untilV k ((1 : Int)) = untilI (k (0 + 1)) := by rw [HV.out, hs]; rfl
      rw [hs, hU] at K
      rw [hs] at HS
      clear HV hU hs
      by_cases hu : untilI (k (0 + 1)) ≤ now
      · have hu1 : decide (untilI (k (0 + 1)) ≤ now) = true := decide_eq_true hu
        have HY : Hid (dueB now (k (0 + 1)) = true) := by show _ = _; rw [HQ.out, ← HS.out, hu1]; rfl
        clear HQ HS hu
        generalize untilI (k (0 + 1)) = U at *
        obtain ⟨P, q1, q2, q3, q4, -⟩ := UR.out
        replace q1 := Lib.hid q1
        replace q2 := Lib.hid q2
        replace q3 := Lib.hid q3
        replace q4 := Lib.hid q4
        have hPl : Hid (P.length ≤ 33) := by
          have e := congrArg List.length q1.out
          rw [List.length_map] at e
          have := lo_len (dueB now) k (0 + 1)
          show P.length ≤ 33
          omega
        have HK : Hid (∀ w1, Below (w).heap.size w w1 → Ds g V k w1) := fun w1 b1 => HH.out.keep b1
        have hwl := HH.out.ok.len (0 + 1)
        have UPH : Hid (∀ {w1 w2 w5 : World} {sv' : Value} {s' : Sl}, IRow 53 w1 (.slice none 0 0) P → Below w.heap.size w w1 → Below w1.heap.size w1 w2 → ERow c64 1 3 w2 s'.v (k (0 + 1)).who → (∀ b, s'.v.ownBlock = some b → w1.heap.size ≤ b) →
            w5.ownsRow 0 53 5 sv' (P.length + 1) ((P.map cp).flatten ++ ci (k (0 + 1)) s') → w2.grownBy w5 ((.slice none 0 0) : Value).ownBlock → (∀ b, sv'.ownBlock = some b → ((.slice none 0 0) : Value).ownBlock = some b ∨ b = w2.heap.size) → UJ k now w (0 + 1) sv' w5) := fun h2 h4 h5 h6 h7 h8 h9 h10 => uj_push q1.out HY.out h2 q3.out h4 h5 h6 h7 h8 h9 h10
        have KC : Hid (∀ w1, Below (w).heap.size w w1 → Calls Try.prog 36 #[.slice (V (0 + 1)).a (V (0 + 1)).n (V (0 + 1)).c] w1 (NewPost c64 1 3 (k (0 + 1)).who w1)) := fun w1 b1 => clone_row (V (0 + 1)) (k (0 + 1)).who w1 ((HK.out w1 b1).who (0 + 1)) (by omega)
        have CC : Hid (∀ w1, Below (w).heap.size w w1 → ∀ (j : Nat) u, (ci (k (0 + 1)) (V (0 + 1)))[j]? = some u → w1.cell? ⟨g, (0 + 1) * 5 + j, none⟩ = some u) := fun w1 b1 => (HK.out w1 b1).cell (0 + 1) (by omega)
        have GL : Hid (∀ w1, Below (w).heap.size w w1 → g < w1.heap.size) := fun w1 b1 => (HK.out w1 b1).glt
        clear HH HK hwl q1 HY
        generalize k (0 + 1) = x at *
        generalize V (0 + 1) = s at *
        obtain ⟨x1, x2, x3, x4, x5⟩ := x
        go_wp2_with fail
        refine K.mono ?_; rintro e w1 ⟨rfl, b1⟩
        have c0 := CC.out w1 b1 0 _ rfl
        have c1 := CC.out w1 b1 1 _ rfl
        have c2 := CC.out w1 b1 2 _ rfl
        have c3 := CC.out w1 b1 3 _ rfl
        have c4 := CC.out w1 b1 4 _ rfl
        have gl1 := GL.out w1 b1
        have R1 := Lib.hid (q2.out.keep b1)
        have B1 := Lib.hid (q4.out.trans (b1.mono q4.out.size))
        have X : Hid (Cs w1.heap.size [.int .i64 x1, .int .u32 x2, .int .u64 x3, .int .u64 x4, .slice s.a s.n s.c] (w1.alloc (.cells #[.int .i64 x1, .int .u32 x2, .int .u64 x3, .int .u64 x4, .slice s.a s.n s.c] 53))) := Cs.new w1 _ _
        have B2 : Hid (Below w1.heap.size w1 (w1.alloc (.cells #[.int .i64 x1, .int .u32 x2, .int .u64 x3, .int .u64 x4, .slice s.a s.n s.c] 53))) := (Below.refl _ w1).alloc (Nat.le_refl _) _
        have KD := KC.out _ (b1.trans (B2.out.mono b1.size))
        simp only [Nat.zero_add, Nat.one_mul, Nat.add_zero] at c0 c1 c2 c3 c4
        clear CC GL KC K gl
        go_upto_region 9 with fail
        generalize (w1.alloc (.cells #[.int .i64 x1, .int .u32 x2, .int .u64 x3, .int .u64 x4, .slice s.a s.n s.c] 53)) = w2 at *
        have WB : Hid (∀ b, b = w1.heap.size → w1.heap.size ≤ b) := fun b e => by omega
        generalize hxb : w1.heap.size = xb at X WB ⊢
        replace hxb := Lib.hid hxb
        have XL2 := Lib.hid X.out.lt
        have y4 := X.out.cell 4 _ rfl
        have xl := X.out.lt
        clear c0 c1 c2 c3 c4 gl1
        go_wp2_with fail
        refine KD.mono ?_; rintro e w3 ⟨s', rfl, hs', b3⟩
        have X3 := Lib.hid (X.out.keep b3)
        have B3 := Lib.hid (B2.out.trans (b3.mono B2.out.size))
        replace hs' := Lib.hid hs'
        clear y4 xl X KD
        have y4 := X3.out.cell 4 _ rfl
        have f4 := X3.out.free 4 _ rfl
        have xl := X3.out.lt
        have X4 := Lib.hid (X3.out.set 4 (.slice s'.a s'.n s'.c) (by simp))
        have B4 : Hid (Below w1.heap.size w1 (w3.setCell ⟨xb, 4, none⟩ (.slice s'.a s'.n s'.c))) := B3.out.setCell (by show w1.heap.size ≤ xb; rw [hxb.out]; exact Nat.le_refl _) _
        have E4 : Hid (ERow c64 1 3 (w3.setCell ⟨xb, 4, none⟩ (.slice s'.a s'.n s'.c)) s'.v x5) := erow_touch (F := fun b => b = xb) hs'.out.1 (Touch.set (F := fun b => b = xb) (Touch.refl _ w3) (fun _ => rfl) _) (fun b hb e => by have h1 := hs'.out.2.2 b hb; have h2 := X3.out.lt; have h3 := B2.out.size; have h4 := hxb.out; have h5 := XL2.out; omega)
        have N4 : Hid (∀ b, s'.v.ownBlock = some b → w1.heap.size ≤ b) := fun b hb => Nat.le_trans B2.out.size (hs'.out.2.2 b hb)
        go_upto_region 10 with fail
        generalize (w3.setCell ⟨xb, 4, none⟩ (.slice s'.a s'.n s'.c)) = w4 at *
        clear y4 f4 xl X3 B3 hs' b3 B2
        have z0 := X4.out.cell 0 _ rfl
        have z1 := X4.out.cell 1 _ rfl
        have z2 := X4.out.cell 2 _ rfl
        have z3 := X4.out.cell 3 _ rfl
        have z4 := X4.out.cell 4 _ rfl
        have xl := X4.out.lt
        try simp only [List.set_cons_succ, List.set_cons_zero] at z0 z1 z2 z3 z4
        have R4 := Lib.hid (R1.out.keep B4.out)
        have hPl2 := hPl.out
        go_wp2_with (at_builtin; refine wpList_append_lies _ rfl (.tmp 37) (.tmp 39) 40 rfl 0 53 i0 _ 5 56 Try.underlying40 hi0 hz0 hz1 hz2 rfl (by omega) (.slice none 0 0) P.length (P.map cp).flatten rfl (erow_keep R4.out.row ((Below.refl _ _).alloc (Nat.le_refl _) _)) ⟨_, 0, none⟩ 1 1 (ci ⟨x1, x2, x3, x4, x5⟩ s') rfl rfl (World.news_of_block (cs := (ci ⟨x1, x2, x3, x4, x5⟩ s').toArray) (t := 53) (fr := (0, 0)) (heap_alloc_new _ _)) (ci_ones _ _) (by omega) ?c2 ?c3 ?c4 _ rfl ?_)
        case c2 => unfold maxLen; omega
        case c3 => omega
        case c4 => exact Nat.zero_le _
        intro g1 cap1 w9 hown hgrow hat hlt9
        have FU := Lib.hid (UPH.out R1.out B1.out (B4.out.alloc B4.out.size _) (erow_keep E4.out ((Below.refl _ _).alloc (Nat.le_refl _) _)) N4.out hown hgrow (fun b hb => by
          obtain rfl : g1 = b := by injection hb
          exact hat.imp id (fun e => by rw [World.size_alloc]; exact e)))
        clear hown hgrow hat hlt9 z0 z1 z2 z3 z4 xl R4 hPl2
        go_wp2
        go_step3
        go_wp2
        refine ⟨rfl, ⟨0 + 1, _, _, ?_, by omega, FU.out, rfl, ⟨_, _, _, _, _, _, _, _, _, _, _, _, _, _, _, _, _, _, _, _, _, _, _, _, _, _, _, _, _, _, _, _, _, _, _, _, _, rfl⟩⟩⟩
        · first | (simp; done) | (simp; omega) | omega | rfl
      · have hu1 : decide (untilI (k (0 + 1)) ≤ now) = false := decide_eq_false hu
        have HN : dueB now (k (0 + 1)) = false := by rw [HQ.out, hu1, Bool.and_false]
        clear HQ HS
        generalize untilI (k (0 + 1)) = U at *
        go_wp2_with fail
        refine K.mono ?_; rintro e w1 ⟨rfl, b1⟩
        have FU := Lib.hid (uj_same UR.out b1 HN)
        clear HN K gl
        go_wp2
        go_step3
        go_wp2
        refine ⟨rfl, ⟨0 + 1, _, _, ?_, by omega, FU.out, rfl, ⟨_, _, _, _, _, _, _, _, _, _, _, _, _, _, _, _, _, _, _, _, _, _, _, _, _, _, _, _, _, _, _, _, _, _, _, _, _, rfl⟩⟩⟩
        · first | (simp; done) | (simp; omega) | omega | rfl
  · rintro ⟨t1, dd1⟩ wr ⟨i, q, sv, rfl, hi, hUR, hd, ⟨u2, u3, u4, u7, u8, u9, u10, u11, u12, u13, u14, u15, u16, u17, u18, u19, u20, u21, u22, u23, u24, u25, u26, u27, u28, u29, u30, u31, u32, u33, u34, u35, u36, u37, u38, u39, u40, ht⟩⟩
    obtain rfl : dd1 = [] := hd
    obtain rfl : t1 = _ := ht
    have UR := Lib.hid hUR
    clear hUR
    by_cases hlt : i + 1 ≤ 32
    · skip
      have hle : i + 1 < 33 := by omega
      have hle2 : (i : Int) + 1 < 33 := by omega
      have hle3 : ¬ (32 : Int) < (i : Int) + 1 := by omega
      have hle0 : (0 : Int) ≤ (i : Int) + 1 := by omega
      have HB : Hid (Below w.heap.size w wr) := by obtain ⟨_, _, _, _, hb, _⟩ := UR.out; exact hb
      have HH := Lib.hid (H.out.keep HB.out)
      have K := duntil_any (i + 1 : Nat) g V k wr HH.out
      unfold UntilPost at K
      have gl := HH.out.glt
      have HS : Hid (suspI k ((i + 1 : Nat) : Int) = susp (k (i + 1))) := by
        show suspI k ((i + 1 : Nat) : Int) = susp (k (i + 1))
        unfold suspI
        rw [nodeI_iff.2 ⟨by omega, by omega⟩, Int.toNat_natCast, Bool.true_and]
      have HV : Hid (untilV k ((i + 1 : Nat) : Int) = if suspI k ((i + 1 : Nat) : Int) = true then untilI (k (i + 1)) else 0) := rfl
      have HQ : Hid (dueB now (k (i + 1)) = (susp (k (i + 1)) && decide (untilI (k (i + 1)) ≤ now))) := rfl
      rw [show (((i + 1 : Nat)) : Int) = (i : Int) + 1 from rfl] at K HS HV
      cases hs : suspI k ((i : Int) + 1) with
      | false =>
        rw [hs] at K
        have HN : dueB now (k (i + 1)) = false := by rw [HQ.out, ← HS.out, hs]; rfl
        clear HQ HS HV
        generalize untilV k ((i : Int) + 1) = U at *
        go_wp2_with fail
        refine K.mono ?_; rintro e w1 ⟨rfl, b1⟩
        have FU := Lib.hid (uj_same UR.out b1 HN)
        clear HN K gl
        go_wp2
        go_step3
        go_wp2
        refine ⟨rfl, ⟨i + 1, _, _, ?_, by omega, FU.out, rfl, ⟨_, _, _, _, _, _, _, _, _, _, _, _, _, _, _, _, _, _, _, _, _, _, _, _, _, _, _, _, _, _, _, _, _, _, _, _, _, rfl⟩⟩, ?_⟩
        · first | (simp; done) | (simp; omega) | omega | rfl
        · simp [intOf]; omega
      | true =>
        have hU : untilV k ((i : Int) + 1) = untilI (k (i + 1)) := by rw [HV.out, hs]; rfl
        rw [hs, hU] at K
        rw [hs] at HS
        clear HV hU hs
        by_cases hu : untilI (k (i + 1)) ≤ now
        · have hu1 : decide (untilI (k (i + 1)) ≤ now) = true := decide_eq_true hu
          have HY : Hid (dueB now (k (i + 1)) = true) := by show _ = _; rw [HQ.out, ← HS.out, hu1]; rfl
          clear HQ HS hu
          generalize untilI (k (i + 1)) = U at *
          obtain ⟨P, q1, q2, q3, q4, -⟩ := UR.out
          replace q1 := Lib.hid q1
          replace q2 := Lib.hid q2
          replace q3 := Lib.hid q3
          replace q4 := Lib.hid q4
          have hPl : Hid (P.length ≤ 33) := by
            have e := congrArg List.length q1.out
            rw [List.length_map] at e
            have := lo_len (dueB now) k (i + 1)
            show P.length ≤ 33
            omega
          have HK : Hid (∀ w1, Below (wr).heap.size wr w1 → Ds g V k w1) := fun w1 b1 => HH.out.keep b1
          have hwl := HH.out.ok.len (i + 1)
          have UPH : Hid (∀ {w1 w2 w5 : World} {sv' : Value} {s' : Sl}, IRow 53 w1 sv P → Below w.heap.size w w1 → Below w1.heap.size w1 w2 → ERow c64 1 3 w2 s'.v (k (i + 1)).who → (∀ b, s'.v.ownBlock = some b → w1.heap.size ≤ b) →
              w5.ownsRow 0 53 5 sv' (P.length + 1) ((P.map cp).flatten ++ ci (k (i + 1)) s') → w2.grownBy w5 (sv : Value).ownBlock → (∀ b, sv'.ownBlock = some b → (sv : Value).ownBlock = some b ∨ b = w2.heap.size) → UJ k now w (i + 1) sv' w5) := fun h2 h4 h5 h6 h7 h8 h9 h10 => uj_push q1.out HY.out h2 q3.out h4 h5 h6 h7 h8 h9 h10
          have KC : Hid (∀ w1, Below (wr).heap.size wr w1 → Calls Try.prog 36 #[.slice (V (i + 1)).a (V (i + 1)).n (V (i + 1)).c] w1 (NewPost c64 1 3 (k (i + 1)).who w1)) := fun w1 b1 => clone_row (V (i + 1)) (k (i + 1)).who w1 ((HK.out w1 b1).who (i + 1)) (by omega)
          have CC : Hid (∀ w1, Below (wr).heap.size wr w1 → ∀ (j : Nat) u, (ci (k (i + 1)) (V (i + 1)))[j]? = some u → w1.cell? ⟨g, (i + 1) * 5 + j, none⟩ = some u) := fun w1 b1 => (HK.out w1 b1).cell (i + 1) (by omega)
          have GL : Hid (∀ w1, Below (wr).heap.size wr w1 → g < w1.heap.size) := fun w1 b1 => (HK.out w1 b1).glt
          clear HH HK hwl q1 HY
          generalize k (i + 1) = x at *
          generalize V (i + 1) = s at *
          obtain ⟨x1, x2, x3, x4, x5⟩ := x
          go_wp2_with fail
          refine K.mono ?_; rintro e w1 ⟨rfl, b1⟩
          have c0 := CC.out w1 b1 0 _ rfl
          have c1 := CC.out w1 b1 1 _ rfl
          have c2 := CC.out w1 b1 2 _ rfl
          have c3 := CC.out w1 b1 3 _ rfl
          have c4 := CC.out w1 b1 4 _ rfl
          have gl1 := GL.out w1 b1
          have R1 := Lib.hid (q2.out.keep b1)
          have B1 := Lib.hid (q4.out.trans (b1.mono q4.out.size))
          have X : Hid (Cs w1.heap.size [.int .i64 x1, .int .u32 x2, .int .u64 x3, .int .u64 x4, .slice s.a s.n s.c] (w1.alloc (.cells #[.int .i64 x1, .int .u32 x2, .int .u64 x3, .int .u64 x4, .slice s.a s.n s.c] 53))) := Cs.new w1 _ _
          have B2 : Hid (Below w1.heap.size w1 (w1.alloc (.cells #[.int .i64 x1, .int .u32 x2, .int .u64 x3, .int .u64 x4, .slice s.a s.n s.c] 53))) := (Below.refl _ w1).alloc (Nat.le_refl _) _
          have KD := KC.out _ (b1.trans (B2.out.mono b1.size))
          simp only [Nat.zero_add, Nat.one_mul, Nat.add_zero] at c0 c1 c2 c3 c4
          clear CC GL KC K gl
          go_upto_region 9 with fail
          generalize (w1.alloc (.cells #[.int .i64 x1, .int .u32 x2, .int .u64 x3, .int .u64 x4, .slice s.a s.n s.c] 53)) = w2 at *
          have WB : Hid (∀ b, b = w1.heap.size → w1.heap.size ≤ b) := fun b e => by omega
          generalize hxb : w1.heap.size = xb at X WB ⊢
          replace hxb := Lib.hid hxb
          have XL2 := Lib.hid X.out.lt
          have y4 := X.out.cell 4 _ rfl
          have xl := X.out.lt
          clear c0 c1 c2 c3 c4 gl1
          go_wp2_with fail
          refine KD.mono ?_; rintro e w3 ⟨s', rfl, hs', b3⟩
          have X3 := Lib.hid (X.out.keep b3)
          have B3 := Lib.hid (B2.out.trans (b3.mono B2.out.size))
          replace hs' := Lib.hid hs'
          clear y4 xl X KD
          have y4 := X3.out.cell 4 _ rfl
          have f4 := X3.out.free 4 _ rfl
          have xl := X3.out.lt
          have X4 := Lib.hid (X3.out.set 4 (.slice s'.a s'.n s'.c) (by simp))
          have B4 : Hid (Below w1.heap.size w1 (w3.setCell ⟨xb, 4, none⟩ (.slice s'.a s'.n s'.c))) := B3.out.setCell (by show w1.heap.size ≤ xb; rw [hxb.out]; exact Nat.le_refl _) _
          have E4 : Hid (ERow c64 1 3 (w3.setCell ⟨xb, 4, none⟩ (.slice s'.a s'.n s'.c)) s'.v x5) := erow_touch (F := fun b => b = xb) hs'.out.1 (Touch.set (F := fun b => b = xb) (Touch.refl _ w3) (fun _ => rfl) _) (fun b hb e => by have h1 := hs'.out.2.2 b hb; have h2 := X3.out.lt; have h3 := B2.out.size; have h4 := hxb.out; have h5 := XL2.out; omega)
          have N4 : Hid (∀ b, s'.v.ownBlock = some b → w1.heap.size ≤ b) := fun b hb => Nat.le_trans B2.out.size (hs'.out.2.2 b hb)
          go_upto_region 10 with fail
          generalize (w3.setCell ⟨xb, 4, none⟩ (.slice s'.a s'.n s'.c)) = w4 at *
          clear y4 f4 xl X3 B3 hs' b3 B2
          have z0 := X4.out.cell 0 _ rfl
          have z1 := X4.out.cell 1 _ rfl
          have z2 := X4.out.cell 2 _ rfl
          have z3 := X4.out.cell 3 _ rfl
          have z4 := X4.out.cell 4 _ rfl
          have xl := X4.out.lt
          try simp only [List.set_cons_succ, List.set_cons_zero] at z0 z1 z2 z3 z4
          have R4 := Lib.hid (R1.out.keep B4.out)
          have hPl2 := hPl.out
          go_wp2_with (at_builtin; refine wpList_append_lies _ rfl (.tmp 37) (.tmp 39) 40 rfl 0 53 i0 _ 5 56 Try.underlying40 hi0 hz0 hz1 hz2 rfl (by omega) sv P.length (P.map cp).flatten rfl (erow_keep R4.out.row ((Below.refl _ _).alloc (Nat.le_refl _) _)) ⟨_, 0, none⟩ 1 1 (ci ⟨x1, x2, x3, x4, x5⟩ s') rfl rfl (World.news_of_block (cs := (ci ⟨x1, x2, x3, x4, x5⟩ s').toArray) (t := 53) (fr := (0, 0)) (heap_alloc_new _ _)) (ci_ones _ _) (by omega) ?c2 ?c3 ?c4 _ rfl ?_)
          case c2 => unfold maxLen; omega
          case c3 => omega
          case c4 => exact Nat.zero_le _
          intro g1 cap1 w9 hown hgrow hat hlt9
          have FU := Lib.hid (UPH.out R1.out B1.out (B4.out.alloc B4.out.size _) (erow_keep E4.out ((Below.refl _ _).alloc (Nat.le_refl _) _)) N4.out hown hgrow (fun b hb => by
            obtain rfl : g1 = b := by injection hb
            exact hat.imp id (fun e => by rw [World.size_alloc]; exact e)))
          clear hown hgrow hat hlt9 z0 z1 z2 z3 z4 xl R4 hPl2
          go_wp2
          go_step3
          go_wp2
          refine ⟨rfl, ⟨i + 1, _, _, ?_, by omega, FU.out, rfl, ⟨_, _, _, _, _, _, _, _, _, _, _, _, _, _, _, _, _, _, _, _, _, _, _, _, _, _, _, _, _, _, _, _, _, _, _, _, _, rfl⟩⟩, ?_⟩
          · first | (simp; done) | (simp; omega) | omega | rfl
          · simp [intOf]; omega
        · have hu1 : decide (untilI (k (i + 1)) ≤ now) = false := decide_eq_false hu
          have HN : dueB now (k (i + 1)) = false := by rw [HQ.out, hu1, Bool.and_false]
          clear HQ HS
          generalize untilI (k (i + 1)) = U at *
          go_wp2_with fail
          refine K.mono ?_; rintro e w1 ⟨rfl, b1⟩
          have FU := Lib.hid (uj_same UR.out b1 HN)
          clear HN K gl
          go_wp2
          go_step3
          go_wp2
          refine ⟨rfl, ⟨i + 1, _, _, ?_, by omega, FU.out, rfl, ⟨_, _, _, _, _, _, _, _, _, _, _, _, _, _, _, _, _, _, _, _, _, _, _, _, _, _, _, _, _, _, _, _, _, _, _, _, _, rfl⟩⟩, ?_⟩
          · first | (simp; done) | (simp; omega) | omega | rfl
          · simp [intOf]; omega
    · obtain rfl : i = 32 := by omega
      obtain ⟨u, rfl, F⟩ := up_end UR.out
      replace F := Lib.hid F
      clear UR U0
      go_wp2
      simp only [Exit.jump]
      refine bodyPost_ret (v := (.slice u.a u.n u.c)) (by simp [results, Try.results29, go_sem, *]) rfl ?_
      exact F.out
end Go.Proofs.Ytplllaafllcigaa
