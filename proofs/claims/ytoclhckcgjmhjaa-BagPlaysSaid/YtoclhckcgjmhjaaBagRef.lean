/- The reference's bag: Ready, pick, cut. -/
import Derived.Test.YtoclhckcgjmhjaaBagItems
namespace Go.Proofs.Ytoclhckcgjmhjaa
open Go.Sort Go.RowKit Go.BigFrame
set_option linter.unusedVariables false
set_option linter.unusedSimpArgs false

def RReadyJ (now : Int) (L : List Pi) (w : World) (nv iv : Value) (wr : World) : Prop :=
  ∃ j : Nat, j ≤ L.length ∧ iv = .int .i64 (j : Nat) ∧ nv = .int .i64 (readyP now (L.take j) : Nat) ∧ wr = w
set_option maxHeartbeats 1600000 in
theorem rready_any (now : Int) (g room : Nat) (v : Sl) (L : List Pi) (w : World) (h : Bs false g room v L w) :
    Calls Try.prog 37 #[.pointer (some ⟨g, 0, none⟩), .int .u64 now] w fun e w' => e = .returned (.int .i64 (readyP now L : Nat)) ∧ w' = w := by
  have hn := h.n
  obtain ⟨a, n, c⟩ := v
  simp only at hn
  subst hn
  have x0 := h.box.cell 0 _ rfl
  have gl := h.box.lt
  have HR := Lib.hid h.rd
  have hl : (L.length : Int) ≤ 256 := by have := h.len; have := h.r2; omega
  clear h
  simp only at HR
  go_enter Try.func37, Try.ntmps37
  go_wp2_with fail
  go_loopw [5, 6] (fun nv iv wr => RReadyJ now L w nv iv wr) (fun _ i _ => L.length - (intOf i).toNat)
  case atStart => exact ⟨0, Nat.zero_le _, rfl, rfl, rfl⟩
  case round =>
    obtain ⟨j, hj, rfl, rfl, rfl⟩ := hrel
    have hj0 : (0 : Int) ≤ j := by omega
    have hrt := ready_take (now := now) (L := L) j
    by_cases hlt : j < L.length
    · have hlt' : (j : Int) < L.length := by omega
      obtain ⟨b, off, rfl, hbl, hcc⟩ := HR.out (by omega)
      have hx : L[j]? = some L[j] := List.getElem?_eq_getElem hlt
      have HI1 : Hid (j + 1 ≤ L.length) := hlt
      have c5 := hcc j _ hx 5 _ rfl
      have KY := fun h => ready_yes (now := now) hx h
      have KN := fun h => ready_no (now := now) hx h
      clear hcc HR
      generalize L[j] = y at *
      by_cases hk : y.t ≤ now
      · have hk' : decide (y.t ≤ now) = true := decide_eq_true hk
        have EQ := Lib.hid (KY hk)
        obtain ⟨y1, y2, y3, y4, y5, y6⟩ := y
        simp only [Nat.add_zero] at c5 hk hk'
        clear KY KN hx
        go_wp2
        go_roundw
        case rel => exact ⟨j + 1, HI1.out, by go_num, by rw [EQ.out]; go_num, rfl⟩
        case measure => simp [intOf]; omega
      · have hk' : decide (y.t ≤ now) = false := decide_eq_false hk
        have EQ := Lib.hid (KN hk)
        obtain ⟨y1, y2, y3, y4, y5, y6⟩ := y
        simp only [Nat.add_zero] at c5 hk hk'
        clear KY KN hx
        go_wp2
        go_roundw
        case rel => exact ⟨j + 1, HI1.out, by go_num, by rw [EQ.out], rfl⟩
        case measure => simp [intOf]; omega
    · obtain rfl : j = L.length := by omega
      rw [List.take_length]
      clear HR
      go_wp2
      go_ret
      exact ⟨rfl, rfl⟩
/-- pick: of all -/
theorem rpick_any (pick : Int) (hp : pick ≤ 9223372036854775807) (g room : Nat) (v : Sl) (L : List Pi) (w : World) (h : Bs false g room v L w) :
    Calls Try.prog 63 #[.pointer (some ⟨g, 0, none⟩), .int .i64 pick] w fun e w' => e = .returned (.tuple #[.int .i64 ((pickE 18446744073709551615 pick L).1 : Nat), .int .i64 (pickE 18446744073709551615 pick L).2]) ∧ w' = w := by
  have e := pick_ever (pick := pick) h.ok
  have hn := h.n
  obtain ⟨a, n, c⟩ := v
  simp only at hn
  subst hn
  have x0 := h.box.cell 0 _ rfl
  have gl := h.box.lt
  have hl : (L.length : Int) ≤ 256 := by have := h.len; have := h.r2; omega
  clear h
  rw [e]
  clear e
  by_cases h1 : pick < 0
  · have h1' : decide (pick < 0) = true := decide_eq_true h1
    rw [if_pos h1]
    go_enter Try.func63, Try.ntmps63
    go_wp2
    refine bodyPost_ret (v := (.tuple #[.int .i64 0, .int .i64 1])) (by simp [results, Try.results63, go_sem, *]) rfl ?_
    exact ⟨rfl, rfl⟩
  · have h1' : decide (pick < 0) = false := decide_eq_false h1
    rw [if_neg h1]
    by_cases h2 : L.length = 0
    · rw [if_pos h2]
      have hz : ((L.length : Int) == 0) = true := by rw [beq_iff_eq]; omega
      have hz2 : (L.length == 0) = true := by rw [beq_iff_eq]; exact h2
      clear h2
      go_enter Try.func63, Try.ntmps63
      go_wp2
      refine bodyPost_ret (v := (.tuple #[.int .i64 0, .int .i64 5])) (by simp [results, Try.results63, go_sem, *]) rfl ?_
      exact ⟨rfl, rfl⟩
    · rw [if_neg h2]
      have hz : ((L.length : Int) == 0) = false := by rw [beq_eq_false_iff_ne]; omega
      have hz2 : (L.length == 0) = false := by rw [beq_eq_false_iff_ne]; exact h2
      obtain ⟨m, hm⟩ : ∃ m : Nat, pick.toNat % L.length = m := ⟨_, rfl⟩
      have hmt : pick.tmod (L.length : Int) = (m : Int) := by rw [tmod_pos _ _ (by omega), ← hm, Int.natCast_emod, Int.toNat_of_nonneg (by omega)]
      rw [hm]
      have hLn : ¬ L = [] := fun e => h2 (by rw [e]; rfl)
      clear hm h2
      go_enter Try.func63, Try.ntmps63
      go_wp2
      refine bodyPost_ret (v := (.tuple #[.int .i64 (m : Nat), .int .i64 0])) (by simp [results, Try.results63, go_sem, *]) rfl ?_
      exact ⟨rfl, rfl⟩
theorem info_ritem : (Try.prog.info? 68).map (fun i => (i.zero, i.size, i.bytes)) = some (some (.agg #[.int .u32 0, .int .u16 0, .int .u32 0, .int .u16 0, .string ⟨#[]⟩, .int .u64 0]), 6, 40) := by kernel_rfl
def CutPost (g room j : Nat) (v : Sl) (x : Pi) (L : List Pi) (w : World) (e : Ending) (w' : World) : Prop :=
  e = .returned (.agg #[.int .u32 x.fi, .int .u16 x.fp, .int .u32 x.ti, .int .u16 x.tp, .string x.b, .int .u64 x.t]) ∧ Aft false g room v (L.eraseIdx j) w w'
set_option maxHeartbeats 6400000 in
set_option maxRecDepth 100000 in
theorem cut_any (g room j : Nat) (v : Sl) (L : List Pi) (hj : j < L.length) (w : World) (h : Bs false g room v L w) :
    Calls Try.prog 62 #[.pointer (some ⟨g, 0, none⟩), .int .i64 (j : Nat)] w (CutPost g room j v L[j] L w) := by
  have hn := h.n
  have hl := h.len
  have hr2 := h.r2
  obtain ⟨av, n, c⟩ := v
  simp only at hn
  subst hn
  obtain ⟨gv, rfl⟩ : ∃ gv, av = some ⟨gv, 0, none⟩ := by
    rcases irow_form h.row with ⟨_, rfl⟩ | ⟨gv, _, h1, _⟩
    · simp at hj
    · simp [Sl.v] at h1; exact ⟨gv, h1.1⟩
  have HH := Lib.hid h
  have HLT := Lib.hid h.lt
  have hx : L[j]? = some L[j] := List.getElem?_eq_getElem hj
  have hok := Lib.hid h.ok
  have hjl : (j : Int) < L.length := by omega
  have hj0 : (0 : Int) ≤ j := by omega
  have hl2 : (L.length : Int) ≤ 256 := by omega
  obtain ⟨i0, hi0, hz0, hz1, hz2⟩ := info_parts info_ritem
  have g0 := h.box.cell 0 _ rfl
  have gl := h.box.lt
  obtain ⟨b, off, hbo, hbl, hcc⟩ := h.rd (by omega)
  simp only [Option.some.injEq, Addr.mk.injEq, and_true] at hbo
  obtain ⟨rfl, rfl⟩ := hbo
  have c0 := hcc j _ hx 0 _ rfl
  have c1 := hcc j _ hx 1 _ rfl
  have c2 := hcc j _ hx 2 _ rfl
  have c3 := hcc j _ hx 3 _ rfl
  have c4 := hcc j _ hx 4 _ rfl
  have c5 := hcc j _ hx 5 _ rfl
  obtain ⟨-, C, hC, hcap, ht, hlc, hm⟩ := irow_open h.row
  simp only at hcap hlc hm g0
  have hcj : j ≤ c := by omega
  have hcj2 : (j : Int) ≤ c := by omega
  have hcj3 : (0 : Int) ≤ (j : Int) + 1 := by omega
  have hcj4 : (j : Int) + 1 ≤ L.length := by omega
  have hcj5 : j + 1 ≤ L.length := hj
  clear h hcc
  generalize L[j] = y at *
  obtain ⟨y1, y2, y3, y4, y5, y6⟩ := y
  simp only [Nat.add_zero, Nat.zero_add] at c0 c1 c2 c3 c4 c5
  unfold CutPost
  have T0 : Touch (fun _ => False) w ((w.alloc (.cells #[.int .u32 0, .int .u16 0, .int .u32 0, .int .u16 0, .string ⟨#[]⟩, .int .u64 0] 68)).alloc (.cells #[.int .u32 y1, .int .u16 y2, .int .u32 y3, .int .u16 y4, .string y5, .int .u64 y6] 68)) := ((Touch.refl _ w).alloc _).alloc _
  have B0 : Hid (Below w.heap.size w ((w.alloc (.cells #[.int .u32 0, .int .u16 0, .int .u32 0, .int .u16 0, .string ⟨#[]⟩, .int .u64 0] 68)).alloc (.cells #[.int .u32 y1, .int .u16 y2, .int .u32 y3, .int .u16 y4, .string y5, .int .u64 y6] 68))) := by
    have q1 := (Below.refl w.heap.size w).alloc (Nat.le_refl _) (.cells #[.int .u32 0, .int .u16 0, .int .u32 0, .int .u16 0, .string ⟨#[]⟩, .int .u64 0] 68)
    exact q1.alloc q1.size _
  have X0 := Lib.hid ((Cs.new w [.int .u32 0, .int .u16 0, .int .u32 0, .int .u16 0, .string ⟨#[]⟩, .int .u64 0] 68).alloc (.cells #[.int .u32 y1, .int .u16 y2, .int .u32 y3, .int .u16 y4, .string y5, .int .u64 y6] 68))
  have Y0 : Hid (Cs (w.heap.size + 1) [.int .u32 y1, .int .u16 y2, .int .u32 y3, .int .u16 y4, .string y5, .int .u64 y6] ((w.alloc (.cells #[.int .u32 0, .int .u16 0, .int .u32 0, .int .u16 0, .string ⟨#[]⟩, .int .u64 0] 68)).alloc (.cells #[.int .u32 y1, .int .u16 y2, .int .u32 y3, .int .u16 y4, .string y5, .int .u64 y6] 68))) := by
    have h1 := Cs.new (w.alloc (.cells #[.int .u32 0, .int .u16 0, .int .u32 0, .int .u16 0, .string ⟨#[]⟩, .int .u64 0] 68)) [.int .u32 y1, .int .u16 y2, .int .u32 y3, .int .u16 y4, .string y5, .int .u64 y6] 68
    simp only [World.size_alloc] at h1
    exact h1
  have H0 := Lib.hid (HH.out.touch T0 (fun _ _ h => h))
  have C0 := hC.touch T0 (fun h => h)
  have n1 : Hid (∀ k u, ((L.take j).map ci).flatten[k]? = some u → ((w.alloc (.cells #[.int .u32 0, .int .u16 0, .int .u32 0, .int .u16 0, .string ⟨#[]⟩, .int .u64 0] 68)).alloc (.cells #[.int .u32 y1, .int .u16 y2, .int .u32 y3, .int .u16 y4, .string y5, .int .u64 y6] 68)).cell? ((⟨gv, 0, none⟩ : Addr).add k) = some u) := by
    have := C0.sub (p := 0) (by decide) (ci_all (L.take j)) (fun i c hc => by
      rw [List.getElem?_map, Option.map_eq_some_iff] at hc
      obtain ⟨x, hx, rfl⟩ := hc
      rw [List.getElem?_take] at hx
      split at hx
      · rw [Nat.zero_add]; exact taken_at ht hx
      · cases hx)
    rw [Nat.zero_mul] at this
    exact this
  have f1 : Hid (((L.take j).map ci).flatten.length = j * 6) := by show _ = _; rw [flatten_len _ (ci_all _), List.length_map, List.length_take]; congr 1; omega
  have o1 := Lib.hid (cis_one (L.take j))
  have f2 : Hid (((L.drop (j + 1)).map ci).flatten.length = (L.length - (j + 1)) * 6) := by show _ = _; rw [flatten_len _ (ci_all _), List.length_map, List.length_drop]
  have o2 := Lib.hid (cis_one (L.drop (j + 1)))
  obtain ⟨ad, hadq⟩ : ∃ ad : Addr, some ad = (if c = j + 1 then some ⟨gv, 0, none⟩ else some ⟨gv, (j + 1) * 6, none⟩) := by split <;> exact ⟨_, rfl⟩
  have n2 : Hid (∀ w1, Touch (fun _ => False) ((w.alloc (.cells #[.int .u32 0, .int .u16 0, .int .u32 0, .int .u16 0, .string ⟨#[]⟩, .int .u64 0] 68)).alloc (.cells #[.int .u32 y1, .int .u16 y2, .int .u32 y3, .int .u16 y4, .string y5, .int .u64 y6] 68)) w1 → ∀ k u, ((L.drop (j + 1)).map ci).flatten[k]? = some u → w1.cell? (ad.add k) = some u) := fun w1 t1 k u hu => by
    by_cases hce : c = j + 1
    · have : ((L.drop (j + 1)).map ci).flatten = [] := List.eq_nil_of_length_eq_zero (by rw [f2.out]; omega)
      rw [this] at hu; simp at hu
    · rw [if_neg hce] at hadq
      injection hadq with hadq
      rw [hadq]
      exact (C0.touch t1 (fun h => h)).sub (p := j + 1) (by decide) (ci_all (L.drop (j + 1))) (fun i c hc => by
        rw [List.getElem?_map, Option.map_eq_some_iff] at hc
        obtain ⟨x, hx, rfl⟩ := hc
        rw [List.getElem?_drop] at hx
        exact taken_at ht hx) k u hu
  have HADQ := Lib.hid hadq
  have herL : Hid (((L.eraseIdx j).map ci).flatten = ((L.take j).map ci).flatten ++ ((L.drop (j + 1)).map ci).flatten) := by show _ = _; rw [List.eraseIdx_eq_take_drop_succ, List.map_append, List.flatten_append]
  have hel := Lib.hid (length_erase hj)
  have hj9 := Lib.hid hj
  have hln := Lib.hid hl
  have hok2 := Lib.hid (erase_ok (j := j) hok.out)
  clear hadq hC ht C0 hx T0
  generalize ((L.take j).map ci).flatten = N1 at *
  generalize ((L.drop (j + 1)).map ci).flatten = M2 at *
  go_enter Try.func62, Try.ntmps62
  go_wp2_with (at_builtin; refine wpList_append_own _ rfl (.tmp 14) (.tmp 20) 82 rfl (w.heap.size + 1 + 1) 68 i0 _ 6 40 Try.underlying82 hi0 hz0 hz1 hz2 rfl (by omega) (.slice none 0 0) 0 [] rfl (World.ownsRow_nil _ _ _ _) ⟨gv, 0, none⟩ j c N1 rfl f1.out n1.out o1.out (by unfold maxLen; omega) (by omega) (by simp) ?_)
  intro v1 w1 hown hgrow _
  have t1 : Touch (fun _ => False) ((w.alloc (.cells #[.int .u32 0, .int .u16 0, .int .u32 0, .int .u16 0, .string ⟨#[]⟩, .int .u64 0] 68)).alloc (.cells #[.int .u32 y1, .int .u16 y2, .int .u32 y3, .int .u16 y4, .string y5, .int .u64 y6] 68)) w1 := Touch.of_grown hgrow (fun k hk => by simp [Value.ownBlock] at hk)
  have OWN := Lib.hid hown
  have H1 := H0.out.box.touch t1 (fun h => h)
  clear g0 c0 c1 c2 c3 c4 c5
  have g0 := H1.cell 0 _ rfl
  have gl1 := H1.lt
  have N2 := Lib.hid (n2.out w1 t1)
  have T1 := Lib.hid t1
  have hs1 : Hid (w.heap.size + 1 + 1 ≤ w1.heap.size) := by show _ ≤ _; have := t1.size; simpa using this
  clear hown hgrow t1 H1
  go_wp2_with (at_builtin; refine wpList_append_own _ rfl (.tmp 23) (.tmp 30) 82 rfl (w.heap.size + 1 + 1) 68 i0 _ 6 40 Try.underlying82 hi0 hz0 hz1 hz2 rfl (by omega) v1 j N1 rfl OWN.out ad (L.length - (j + 1)) (c - (j + 1)) M2 (by simp [Act.eval]; exact HADQ.out.symm) f2.out N2.out o2.out (by unfold maxLen; omega) (by omega) hs1.out ?_)
  all_goals (
    intro v2 w2 hown hgrow _
    obtain ⟨⟨sa, sn, sc⟩, hv⟩ := sl_of hown
    obtain rfl : v2 = .slice sa sn sc := hv
    have hlt2 : Hid (∀ b, (Sl.v ⟨sa, sn, sc⟩).ownBlock = some b → w.heap.size + 1 + 1 ≤ b) := fun b hb => (World.ownsRow.lt hown b hb).1
    have t2 : Touch (fun b => w.heap.size + 1 + 1 ≤ b) w1 w2 := Touch.of_grown hgrow (fun k hk => (World.ownsRow.lt OWN.out k hk).1)
    have hsz0 : ((w.alloc (.cells #[.int .u32 0, .int .u16 0, .int .u32 0, .int .u16 0, .string ⟨#[]⟩, .int .u64 0] 68)).alloc (.cells #[.int .u32 y1, .int .u16 y2, .int .u32 y3, .int .u16 y4, .string y5, .int .u64 y6] 68)).heap.size = w.heap.size + 1 + 1 := by simp
    have tt : Touch (fun b => (Value.slice (some ⟨gv, 0, none⟩) 0 0).ownBlock = some b) ((w.alloc (.cells #[.int .u32 0, .int .u16 0, .int .u32 0, .int .u16 0, .string ⟨#[]⟩, .int .u64 0] 68)).alloc (.cells #[.int .u32 y1, .int .u16 y2, .int .u32 y3, .int .u16 y4, .string y5, .int .u64 y6] 68)) w2 :=
      (T1.out.mono (fun _ _ h => h.elim)).trans t2 (fun k hk hb => by rw [hsz0] at hk; omega)
    have hrow : IRow (tI false) w2 (Sl.v ⟨sa, sn, sc⟩) (L.eraseIdx j) := by
      show World.ownsRow _ _ _ _ _ _ _
      rw [herL.out, hel.out]
      have e : j + (L.length - (j + 1)) = L.length - 1 := by have := hj9.out; omega
      have := own_zero hown
      rw [e] at this
      exact this
    have AF := Lib.hid (H0.out.put (v' := ⟨sa, sn, sc⟩) hrow tt (fun b hb => .inr (by rw [hsz0]; exact hlt2.out b hb)) (by have := hel.out; have := hln.out; omega) hok2.out)
    have tf : Touch (fun b => b = gv) ((w.alloc (.cells #[.int .u32 0, .int .u16 0, .int .u32 0, .int .u16 0, .string ⟨#[]⟩, .int .u64 0] 68)).alloc (.cells #[.int .u32 y1, .int .u16 y2, .int .u32 y3, .int .u16 y4, .string y5, .int .u64 y6] 68)) w2 := tt.mono (fun k _ hk => (Option.some.inj hk).symm)
    have X2 := X0.out.touch tf (fun e => by omega)
    have Y2 := Y0.out.touch tf (fun e => by omega)
    have hgg : ¬ g = gv := fun e => HH.out.ne (by rw [e]; rfl)
    have G2 := H0.out.box.touch tf (fun e => hgg e)
    clear g0 gl1
    have g0 := G2.cell 0 _ rfl
    have gf := G2.free 0 _ rfl
    have gl2 := G2.lt
    have x0 := X2.cell 0 _ rfl
    have x1 := X2.cell 1 _ rfl
    have x2 := X2.cell 2 _ rfl
    have x3 := X2.cell 3 _ rfl
    have x4 := X2.cell 4 _ rfl
    have x5 := X2.cell 5 _ rfl
    have xf0 := X2.free 0 _ rfl
    have xf1 := X2.free 1 _ rfl
    have xf2 := X2.free 2 _ rfl
    have xf3 := X2.free 3 _ rfl
    have xf4 := X2.free 4 _ rfl
    have xf5 := X2.free 5 _ rfl
    have xl := X2.lt
    have z0 := Y2.cell 0 _ rfl
    have z1 := Y2.cell 1 _ rfl
    have z2 := Y2.cell 2 _ rfl
    have z3 := Y2.cell 3 _ rfl
    have z4 := Y2.cell 4 _ rfl
    have z5 := Y2.cell 5 _ rfl
    have yl := Y2.lt
    have m1 : ¬ g = w.heap.size := by omega
    have m2 : ¬ g = w.heap.size + 1 := by omega
    have m3 : ¬ w.heap.size = w.heap.size + 1 := by omega
    have HSZ := Lib.hid hsz0
    clear hown hgrow t2 tt hrow tf X2 Y2 G2 hsz0
    go_wp2_with fail
    refine bodyPost_ret (v := (.agg #[.int .u32 y1, .int .u16 y2, .int .u32 y3, .int .u16 y4, .string y5, .int .u64 y6])) (by simp [results, Try.results62, go_sem, *]) rfl ?_
    refine ⟨rfl, ?_⟩
    have ht := Touch.sets (F := fun b => b = w.heap.size) (Touch.refl _ (w2.setCell ⟨g, 0, none⟩ (.slice sa sn sc))) w.heap.size (fun _ => rfl) (ci ⟨y1, y2, y3, y4, y5, y6⟩) 0
    exact Aft.fin B0.out AF.out (Nat.le_refl _) (by rw [HSZ.out]; omega) HLT.out ht)
end Go.Proofs.Ytoclhckcgjmhjaa
