/- The reference's wheel: find, At, Stop. -/
import Derived.Test.YtmnakbpjbgjnmaaWhSet
namespace Go.Proofs.Ytmnakbpjbgjnmaa
open Go.Sort Go.RowKit Go.BigFrame
set_option linter.unusedVariables false
set_option linter.unusedSimpArgs false

def rfindR (k i : Int) (L : List Tm) : Int := if hasT k i L = true then (findT k i L : Nat) else -1
theorem rfindR_yes {k i : Int} {L : List Tm} {j : Nat} (h : j < L.length) (e : findT k i L = j) : rfindR k i L = (j : Nat) := by
  have h1 : hasT k i L = true := by unfold hasT; rw [e]; exact decide_eq_true h
  unfold rfindR; rw [if_pos h1, e]
theorem rfindR_no {k i : Int} {L : List Tm} (e : L.length ≤ findT k i L) : rfindR k i L = -1 := by
  have h1 : hasT k i L = false := by unfold hasT; exact decide_eq_false (by omega)
  unfold rfindR; rw [if_neg (by simp [h1])]
def RFindJ (k i : Int) (L : List Tm) (w : World) (iv : Value) (wr : World) : Prop := ∃ j : Nat, iv = .int .i64 (j : Nat) ∧ j ≤ L.length ∧ j ≤ findT k i L ∧ Below w.heap.size w wr
def RFindPost (k i : Int) (L : List Tm) (w : World) (e : Ending) (w' : World) : Prop := e = .returned (.int .i64 (rfindR k i L)) ∧ Below w.heap.size w w'
set_option maxHeartbeats 3200000 in
theorem rfind_any (k i : Int) (g : Nat) (v : Sl) (L : List Tm) (w : World) (h : Ws false g v L w) :
    Calls Try.prog 23 #[.pointer (some ⟨g, 0, none⟩), .int .i64 k, .int .i64 i] w (RFindPost k i L w) := by
  have hn := h.n
  obtain ⟨av, n, c⟩ := v
  simp only at hn
  subst hn
  have HR := Lib.hid h.rd
  have HX := Lib.hid h.box
  have hl : (L.length : Int) ≤ 256 := by have := h.ok.len; omega
  clear h
  simp only at HR
  go_enter Try.func23, Try.ntmps23
  go_wp2_with fail
  go_loopw [7] (fun iv wr => RFindJ k i L w iv wr) (fun iv _ => L.length - (intOf iv).toNat)
  case atStart => exact ⟨0, rfl, Nat.zero_le _, Nat.zero_le _, Below.refl _ _⟩
  case round =>
    obtain ⟨j, rfl, hjl, hj, hb⟩ := hrel
    have hj0 : (0 : Int) ≤ j := by omega
    have X := HX.out.keep hb
    have x0 := X.cell 0 _ rfl
    have gl := X.lt
    have HB := Lib.hid hb
    by_cases hlt : j < L.length
    · have hlt' : (j : Int) < L.length := by omega
      obtain ⟨b, off, rfl, hbl, hcc⟩ := (HR.out.keep hb) (by omega)
      have hx : L[j]? = some L[j] := List.getElem?_eq_getElem hlt
      have c0 := hcc j _ hx 0 _ rfl
      have c1 := hcc j _ hx 1 _ rfl
      have KY := fun h => find_here (k := k) (i := i) hx hj h
      have KN := fun h => find_on (k := k) (i := i) hx hj h
      have HLT := Lib.hid hlt
      clear hcc hx hj hb X
      generalize L[j] = y at *
      obtain ⟨y1, y2, y3⟩ := y
      simp only [Nat.add_zero] at c0 c1
      by_cases q1 : y1 = k
      · by_cases q2 : y2 = i
        · subst q1 q2
          have HE := Lib.hid (KY (by simp [isT]))
          clear KY KN
          go_wp2
          go_ret
          exact ⟨by rw [rfindR_yes HLT.out HE.out]; rfl, HB.out⟩
        · subst q1
          have HE := Lib.hid (KN (by simp [isT, q2]))
          clear KY KN
          go_wp2
          go_roundw
          case rel => exact ⟨j + 1, by go_num, HLT.out, HE.out, HB.out⟩
          case measure => have := HLT.out; simp [intOf]; omega
      · have HE := Lib.hid (KN (by simp [isT, q1]))
        clear KY KN
        go_wp2
        go_roundw
        case rel => exact ⟨j + 1, by go_num, HLT.out, HE.out, HB.out⟩
        case measure => have := HLT.out; simp [intOf]; omega
    · obtain rfl : j = L.length := by omega
      have HE := Lib.hid hj
      clear hj hlt hb X
      go_wp2
      go_ret
      exact ⟨by rw [rfindR_no HE.out]; rfl, HB.out⟩
def RAtPost (k i : Int) (L : List Tm) (w : World) (e : Ending) (w' : World) : Prop := e = .returned (.tuple #[.int .u64 (atT k i L), .bool (hasT k i L)]) ∧ Below w.heap.size w w'
set_option maxHeartbeats 1600000 in
theorem rat_any (k i : Int) (g : Nat) (v : Sl) (L : List Tm) (w : World) (h : Ws false g v L w) :
    Calls Try.prog 15 #[.pointer (some ⟨g, 0, none⟩), .int .i64 k, .int .i64 i] w (RAtPost k i L w) := by
  have F := rfind_any k i g v L w h
  unfold RFindPost at F
  unfold RAtPost
  cases hh : hasT k i L with
  | false =>
    rw [atT_no hh]
    have e0 : rfindR k i L = -1 := by unfold rfindR; rw [if_neg (by simp [hh])]
    rw [e0] at F
    clear h hh e0
    go_enter Try.func15, Try.ntmps15
    go_wp2_with fail
    refine F.mono ?_; rintro e w1 ⟨rfl, b1⟩
    clear F
    go_wp2
    refine bodyPost_ret (v := (.tuple #[.int .u64 0, .bool false])) (by simp [results, Try.results15, go_sem, *]) rfl ?_
    exact ⟨rfl, b1⟩
  | true =>
    have hf : findT k i L < L.length := by unfold hasT at hh; rwa [decide_eq_true_eq] at hh
    have e0 : rfindR k i L = (findT k i L : Nat) := by unfold rfindR; rw [if_pos hh]
    have hx : L[findT k i L]? = some L[findT k i L] := List.getElem?_eq_getElem hf
    rw [atT_yes hx]
    rw [e0] at F
    have hn := h.n
    obtain ⟨av, n, c⟩ := v
    simp only at hn
    subst hn
    have HH := Lib.hid h
    generalize L[findT k i L] = y at *
    generalize findT k i L = j at *
    have hj0 : (0 : Int) ≤ j := by omega
    have hj1 : (j : Int) < L.length := by omega
    have hj2 : decide ((j : Int) < 0) = false := decide_eq_false (by omega)
    clear h hh e0
    obtain ⟨y1, y2, y3⟩ := y
    go_enter Try.func15, Try.ntmps15
    go_wp2_with fail
    refine F.mono ?_; rintro e w1 ⟨rfl, b1⟩
    clear F
    have H1 := HH.out.keep b1
    have x0 := H1.box.cell 0 _ rfl
    have gl := H1.box.lt
    obtain ⟨b, off, hbo, hbl, hcc⟩ := H1.rd (by omega)
    simp only at hbo
    subst hbo
    have c2 := hcc _ _ hx 2 _ rfl
    simp only at c2
    clear hcc H1 hx
    go_wp2
    refine bodyPost_ret (v := (.tuple #[.int .u64 y3, .bool true])) (by simp [results, Try.results15, go_sem, *]) rfl ?_
    exact ⟨rfl, b1⟩
/-- append(v, part...), v a slice of this call's own, the part readable, perhaps nil or empty -/
theorem wpList_append_part {P : Program} (w : World) {ops : Array Oper} {rest : List Oper} {o : Oper} {a : Act} {Q : Exit → Act → World → Prop} (hgd : o.guard = none) (s x : Operand) (t : TypeId)
    (ho : o.op = .call { callee := .builtin .append, args := #[s, x], argTypes := #[t, t] })
    (base : Nat) (e : TypeId) (i : TypeInfo) (z : Value) (size bytes : Nat) (ht : P.underlying t = some (.slice e)) (hi : P.info? e = some i) (hz : i.zero = some z) (hsize : i.size = size) (hby : i.bytes = bytes) (hzs : z.cells.size = size) (hsz : 0 < size)
    (v : Value) (n : Nat) (xs : List Value) (hs : a.eval s = v) (hown : w.ownsRow base e size v n xs)
    (A : Option Addr) (m c : Nat) (news : List Value) (hx : a.eval x = .slice A m c) (hm : news.length = m * size) (hr : ∀ ad, A = some ad → ∀ j u, news[j]? = some u → w.cell? (ad.add j) = some u) (h1 : ∀ u ∈ news, u.oneCell' = true) (hA : A = none → m = 0 ∧ c = 0)
    (h63 : n + m ≤ maxLen) (hbytes : (n + m) * bytes ≤ 140737488355328) (hbase : base ≤ w.heap.size)
    (h : ∀ v' w', w'.ownsRow base e size v' (n + m) (xs ++ news) → w.grownBy w' v.ownBlock → wpList P ops Q rest (a.put o.dst v') w') : wpList P ops Q (o :: rest) a w := by
  rcases A with _ | ad
  · obtain ⟨q1, q2⟩ := hA rfl
    subst q1 q2
    obtain rfl : news = [] := List.eq_nil_of_length_eq_zero (by rw [hm, Nat.zero_mul])
    exact wpList_append_own_none hgd s x t ho base e i size ht hi v n xs hs hown hx (h v w (by simpa using hown) (World.grownBy.refl w _))
  · exact wpList_append_own w hgd s x t ho base e i z size bytes ht hi hz hsize hby hzs hsz v n xs hs hown ad m c news hx hm (hr ad rfl) h1 h63 hbytes hbase fun v' w' q1 q2 _ => h v' w' q1 q2
theorem info_rtimer : (Try.prog.info? 40).map (fun i => (i.zero, i.size, i.bytes)) = some (some (.agg #[.int .i64 0, .int .i64 0, .int .u64 0]), 3, 24) := by kernel_rfl
/-- the cells of a part of a row -/
theorem part_cells {T : TypeId} {w : World} {gv c p : Nat} {L M : List Tm} (h : TRow T w (.slice (some ⟨gv, 0, none⟩) L.length c) L) (hM : ∀ i x, M[i]? = some x → L[p + i]? = some x) : ∀ k u, (M.map ct).flatten[k]? = some u → w.cell? ((⟨gv, p * 3, none⟩ : Addr).add k) = some u := by
  obtain ⟨-, C, hC, -, ht, -⟩ := trow_open h
  exact hC.sub (p := p) (by decide) (ct_all M) (fun i c hc => by
    rw [List.getElem?_map, Option.map_eq_some_iff] at hc
    obtain ⟨x, hx, rfl⟩ := hc
    exact taken_at ht (hM i x hx))
theorem take_get {L : List Tm} {j i : Nat} {x : Tm} (h : (L.take j)[i]? = some x) : L[0 + i]? = some x := by
  rw [List.getElem?_take] at h
  split at h
  · rwa [Nat.zero_add]
  · cases h
theorem cts_len (M : List Tm) : (M.map ct).flatten.length = M.length * 3 := by rw [flatten_len _ (ct_all _), List.length_map]
def RStopPost (g : Nat) (v : Sl) (b : Bool) (L' : List Tm) (w : World) (e : Ending) (w' : World) : Prop := e = .returned (.bool b) ∧ Aft false g v L' w w'
set_option maxHeartbeats 6400000 in
set_option maxRecDepth 100000 in
theorem rstop_any (k i : Int) (g : Nat) (v : Sl) (L : List Tm) (w : World) (h : Ws false g v L w) :
    Calls Try.prog 11 #[.pointer (some ⟨g, 0, none⟩), .int .i64 k, .int .i64 i] w (RStopPost g v (hasT k i L) (stopL k i L) w) := by
  have F := rfind_any k i g v L w h
  unfold RFindPost at F
  cases hh : hasT k i L with
  | false =>
    rw [stopL_none hh]
    have e0 : rfindR k i L = -1 := by unfold rfindR; rw [if_neg (by simp [hh])]
    rw [e0] at F
    have HH := Lib.hid h
    clear h hh e0
    go_enter Try.func11, Try.ntmps11
    go_wp2_with fail
    refine F.mono ?_; rintro e w1 ⟨rfl, b1⟩
    clear F
    go_wp2
    go_ret
    exact ⟨rfl, HH.out.same b1⟩
  | true =>
    have hj : findT k i L < L.length := by unfold hasT at hh; rwa [decide_eq_true_eq] at hh
    have e0 : rfindR k i L = (findT k i L : Nat) := by unfold rfindR; rw [if_pos hh]
    rw [e0] at F
    have hok := Lib.hid (h.ok.stop k i)
    unfold stopL at hok ⊢
    generalize findT k i L = j at *
    have hn := h.n
    have hl := h.ok.len
    obtain ⟨av, n, c⟩ := v
    simp only at hn
    subst hn
    obtain ⟨gv, rfl⟩ : ∃ gv, av = some ⟨gv, 0, none⟩ := by
      rcases trow_form h.row with ⟨_, rfl⟩ | ⟨gv, _, h1, _⟩
      · simp at hj
      · simp [Sl.v] at h1; exact ⟨gv, h1.1⟩
    have HH := Lib.hid h
    have hjl : (j : Int) < L.length := by omega
    have hj0 : (0 : Int) ≤ j := by omega
    have hj00 : decide ((j : Int) < 0) = false := decide_eq_false (by omega)
    have hl2 : (L.length : Int) ≤ 256 := by omega
    obtain ⟨i0, hi0, hz0, hz1, hz2⟩ := info_parts info_rtimer
    obtain ⟨-, C, hC, hcap, ht, hlc, hm⟩ := trow_open h.row
    simp only at hcap hlc hm
    have hcj : j ≤ c := by omega
    have hcj2 : (j : Int) ≤ c := by omega
    have hcj3 : (0 : Int) ≤ (j : Int) + 1 := by omega
    have hcj4 : (j : Int) + 1 ≤ L.length := by omega
    have hcj5 : j + 1 ≤ L.length := hj
    have f1 : Hid (((L.take j).map ct).flatten.length = j * 3) := by show _ = _; rw [cts_len, List.length_take]; congr 1; omega
    have o1 := Lib.hid (cts_one (L.take j))
    have f2 : Hid (((L.drop (j + 1)).map ct).flatten.length = (L.length - (j + 1)) * 3) := by show _ = _; rw [cts_len, List.length_drop]
    have o2 := Lib.hid (cts_one (L.drop (j + 1)))
    have n1 : Hid (∀ w1, TRow (tT false) w1 (.slice (some ⟨gv, 0, none⟩) L.length c) L → ∀ k u, ((L.take j).map ct).flatten[k]? = some u → w1.cell? ((⟨gv, 0, none⟩ : Addr).add k) = some u) := fun w1 hr k u hu => by
      have := part_cells (p := 0) (M := L.take j) hr (fun i x hx => take_get hx) k u hu
      rw [Nat.zero_mul] at this; exact this
    obtain ⟨ad, hadq, hadn⟩ : ∃ ad : Addr, some ad = (if c = j + 1 then some ⟨gv, 0, none⟩ else some ⟨gv, (j + 1) * 3, none⟩) ∧ (¬ c = j + 1 → ad = ⟨gv, (j + 1) * 3, none⟩) := by
      split
      · rename_i h0; exact ⟨_, rfl, fun h => absurd h0 h⟩
      · exact ⟨_, rfl, fun _ => rfl⟩
    have n2 : Hid (∀ w1, TRow (tT false) w1 (.slice (some ⟨gv, 0, none⟩) L.length c) L → ∀ k u, ((L.drop (j + 1)).map ct).flatten[k]? = some u → w1.cell? (ad.add k) = some u) := fun w1 hr k u hu => by
      by_cases hce : c = j + 1
      · have : ((L.drop (j + 1)).map ct).flatten = [] := List.eq_nil_of_length_eq_zero (by rw [f2.out]; omega)
        rw [this] at hu; simp at hu
      · rw [hadn hce]
        exact part_cells (p := j + 1) (M := L.drop (j + 1)) hr (fun i x hx => by rwa [List.getElem?_drop] at hx) k u hu
    have HADQ := Lib.hid hadq
    have herL : Hid (((L.eraseIdx j).map ct).flatten = ((L.take j).map ct).flatten ++ ((L.drop (j + 1)).map ct).flatten) := by show _ = _; rw [List.eraseIdx_eq_take_drop_succ, List.map_append, List.flatten_append]
    have hel := Lib.hid (length_erase hj)
    have hj9 := Lib.hid hj
    clear hadq hadn hC ht h hh e0 hcap
    generalize ((L.take j).map ct).flatten = N1 at *
    generalize ((L.drop (j + 1)).map ct).flatten = M2 at *
    go_enter Try.func11, Try.ntmps11
    go_wp2_with fail
    refine F.mono ?_; rintro e w0 ⟨rfl, b0⟩
    clear F
    have HB0 := Lib.hid b0
    have H0 := Lib.hid (HH.out.keep b0)
    clear b0
    have g0 := H0.out.box.cell 0 _ rfl
    have gl := H0.out.box.lt
    have R0 := Lib.hid (n1.out w0 H0.out.row)
    go_wp2_with (at_builtin; refine wpList_append_own _ rfl (.tmp 15) (.tmp 21) 27 rfl w0.heap.size 40 i0 _ 3 24 Try.underlying27 hi0 hz0 hz1 hz2 rfl (by omega) (.slice none 0 0) 0 [] rfl (World.ownsRow_nil _ _ _ _) ⟨gv, 0, none⟩ j c N1 rfl f1.out R0.out o1.out (by unfold maxLen; omega) (by omega) (Nat.le_refl _) ?_)
    intro v1 w1 hown hgrow _
    have t1 : Touch (fun _ => False) w0 w1 := Touch.of_grown hgrow (fun k hk => by simp [Value.ownBlock] at hk)
    have OWN := Lib.hid hown
    have H1 := Lib.hid (H0.out.touch t1 (fun _ _ h => h))
    have T1 := Lib.hid t1
    clear g0 gl hown hgrow t1 R0
    have g0 := H1.out.box.cell 0 _ rfl
    have gl := H1.out.box.lt
    have N2 := Lib.hid (n2.out w1 H1.out.row)
    have hs1 : Hid (w0.heap.size ≤ w1.heap.size) := T1.out.size
    go_wp2_with (at_builtin; refine wpList_append_own _ rfl (.tmp 24) (.tmp 31) 27 rfl w0.heap.size 40 i0 _ 3 24 Try.underlying27 hi0 hz0 hz1 hz2 rfl (by omega) v1 j N1 rfl OWN.out ad (L.length - (j + 1)) (c - (j + 1)) M2 (by simp [Act.eval]; exact HADQ.out.symm) f2.out N2.out o2.out (by unfold maxLen; omega) (by omega) hs1.out ?_)
    all_goals (
      intro v2 w2 hown hgrow _
      obtain ⟨⟨sa, sn, sc⟩, hv⟩ := sl_of hown
      obtain rfl : v2 = .slice sa sn sc := hv
      have hlt2 : ∀ b, (Sl.v ⟨sa, sn, sc⟩).ownBlock = some b → w0.heap.size ≤ b := fun b hb => (World.ownsRow.lt hown b hb).1
      have t2 : Touch (fun b => w0.heap.size ≤ b) w1 w2 := Touch.of_grown hgrow (fun k hk => (World.ownsRow.lt OWN.out k hk).1)
      have tt : Touch (fun b => (Value.slice (some ⟨gv, 0, none⟩) 0 0).ownBlock = some b) w0 w2 :=
        (T1.out.mono (fun _ _ h => h.elim)).trans t2 (fun k hk hb => by omega)
      have hrow : TRow (tT false) w2 (Sl.v ⟨sa, sn, sc⟩) (L.eraseIdx j) := by
        show World.ownsRow _ _ _ _ _ _ _
        rw [herL.out, hel.out]
        have e : j + (L.length - (j + 1)) = L.length - 1 := by have := hj9.out; omega
        have := own_zero hown
        rw [e] at this
        exact this
      have AF := Lib.hid (Aft.after HB0.out (H0.out.put (v' := ⟨sa, sn, sc⟩) hrow (tt.mono (fun b _ hb => own_eq hb)) (fun b hb => .inr (hlt2 b hb)) hok.out))
      have G2 := H0.out.box.touch tt (fun e => H0.out.ne (own_eq e))
      clear g0 gl
      have g0 := G2.cell 0 _ rfl
      have gf := G2.free 0 _ rfl
      have gl := G2.lt
      clear hown hgrow t2 tt hrow G2 hlt2
      go_wp2_with fail
      go_ret
      exact ⟨rfl, AF.out⟩)
end Go.Proofs.Ytmnakbpjbgjnmaa
