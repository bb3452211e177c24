/- The reference's view: Take. -/
import Derived.Test.YtchhbhoikkdmeaaViRefRow
import Derived.BigRegion
import Derived.Deep.RegionHeldLaw
namespace Go.Proofs.Ytchhbhoikkdmeaa
open Go.Sort Go.RowKit Go.BigFrame
set_option linter.unusedVariables false
set_option linter.unusedSimpArgs false

/-- append(v, part...), v a slice of this call's own, the part readable, perhaps nil or empty -/
theorem wpList_append_part {P : Program} (w : World) {ops : Array Oper} {rest : List Oper} {o : Oper} {a : Act} {Q : Exit → Act → World → Prop} (hgd : o.guard = none) (s x : Operand) (t : TypeId)
    (ho : o.op = .call { callee := .builtin .append, args := #[s, x], argTypes := #[t, t] })
    (base : Nat) (e : TypeId) (i : TypeInfo) (z : Value) (size bytes : Nat) (ht : P.underlying t = some (.slice e)) (hi : P.info? e = some i) (hz : i.zero = some z) (hsize : i.size = size) (hby : i.bytes = bytes) (hzs : z.cells.size = size) (hsz : 0 < size)
    (v : Value) (n : Nat) (xs : List Value) (hs : a.eval s = v) (hown : w.ownsRow base e size v n xs)
    (A : Option Addr) (m c : Nat) (news : List Value) (hx : a.eval x = .slice A m c) (hm : news.length = m * size) (hr : ∀ ad, A = some ad → ∀ j u, news[j]? = some u → w.cell? (ad.add j) = some u) (h1 : ∀ u ∈ news, u.oneCell' = true) (hA : A = none → m = 0 ∧ c = 0)
    (h63 : n + m ≤ maxLen) (hbytes : (n + m) * bytes ≤ 140737488355328) (hbase : base ≤ w.heap.size)
    (h : ∀ v' w', w'.ownsRow base e size v' (n + m) (xs ++ news) → w.grownBy w' v.ownBlock → wpList P ops Q rest (a.put o.dst v') w') : wpList P ops Q (o :: rest) a w := by
  rcases A with _ | ad
  · obtain ⟨q1, q2⟩ := hA rfl
    subst q1 q2
    obtain rfl : news = [] := List.eq_nil_of_length_eq_zero (by rw [hm, Nat.zero_mul])
    exact wpList_append_own_none hgd s x t ho base e i size ht hi v n xs hs hown hx (h v w (by simpa using hown) (World.grownBy.refl w _))
  · exact wpList_append_own w hgd s x t ho base e i z size bytes ht hi hz hsize hby hzs hsz v n xs hs hown ad m c news hx hm (hr ad rfl) h1 h63 hbytes hbase fun v' w' q1 q2 _ => h v' w' q1 q2
section
variable {α : Type} {c : α → List Value} {z : Nat} {T : TypeId} {w w' : World} {L M : List α}
/-- the cells of a part of a row -/
theorem erow_part (he : Enc c z) {gv n cap p : Nat} (h : ERow c z T w (.slice (some ⟨gv, 0, none⟩) n cap) L) (hM : ∀ i x, M[i]? = some x → L[p + i]? = some x) : ∀ k u, (M.map c).flatten[k]? = some u → w.cell? ((⟨gv, p * z, none⟩ : Addr).add k) = some u := by
  obtain ⟨-, C, hC, -, ht, -⟩ := erow_open he h
  exact hC.sub (p := p) he.pos (he.all M) (fun i d hc => by
    rw [List.getElem?_map, Option.map_eq_some_iff] at hc
    obtain ⟨x, hx, rfl⟩ := hc
    exact taken_at ht (hM i x hx))
theorem take_get {j i : Nat} {x : α} (h : (L.take j)[i]? = some x) : L[0 + i]? = some x := by
  rw [List.getElem?_take] at h
  split at h
  · rwa [Nat.zero_add]
  · cases h
theorem flat_len (he : Enc c z) (M : List α) : (M.map c).flatten.length = M.length * z := by rw [flatten_len _ (he.all M), List.length_map]
end
def RTakePost (g : Nat) (vl ve : Sl) (v : Vw) (r : Rec) (w : World) (e : Ending) (w' : World) : Prop := e = .returned (.tuple #[.bool (turns v r), .int .i64 (errR r)]) ∧ RAft g vl ve (takeV v r) w w'
theorem take_E {v : Vw} {r : Rec} (ht : turns v r = true) (hs : ¬ r.st = wasV v r.id) : (takeV v r).E = v.E ++ [evV v r] := by rw [take_yes ht]; exact note_yes hs
/-- a record that is not right -/
theorem rtake_bad (r : Rec) (hr : r.Ok) (hR : r.right = false) (g : Nat) (vl ve : Sl) (v : Vw) (w : World) (h : Rs g vl ve v w) :
    Calls Try.prog 13 #[.pointer (some ⟨g, 0, none⟩), .agg #[.int .i64 r.id, .int .i64 r.st, .int .u32 r.n, .int .u32 r.ip, .int .u16 r.port]] w (RTakePost g vl ve v r w) := by
  have hb : Below w.heap.size w (w.alloc (.cells #[.int .i64 r.id, .int .i64 r.st, .int .u32 r.n, .int .u32 r.ip, .int .u16 r.port] 48)) := (Below.refl _ w).alloc (Nat.le_refl _) _
  have K1 : ∀ w, Calls Try.prog 32 #[.agg #[.int .i64 r.id, .int .i64 r.st, .int .u32 r.n, .int .u32 r.ip, .int .u16 r.port]] w fun e w' => e = .returned (.bool false) ∧ Below w.heap.size w w' := fun w => by
    rw [← hR]; exact rright_any r.id r.st r.n r.ip r.port hr.ip hr.port w
  unfold RTakePost
  rw [turns_bad hR, err_bad hR, take_no (turns_bad hR)]
  have HH := Lib.hid h
  have HB := Lib.hid hb
  clear h hr hR hb
  go_enter Try.func13, Try.ntmps13
  go_wp2_with fail
  refine (K1 _).mono ?_; rintro e w1 ⟨rfl, b1⟩
  have HB1 := Lib.hid (HB.out.trans (b1.mono HB.out.size))
  clear b1
  go_wp2
  refine bodyPost_ret (v := (.tuple #[.bool false, .int .i64 1])) (by simp [results, Try.results13, go_sem, *]) rfl ?_
  exact ⟨rfl, HH.out.same HB1.out⟩
/-- three cells of a record's box -/
def SR (xb : Nat) (r : Rec) (w' : World) : Prop := w'.cell? ⟨xb, 0, none⟩ = some (.int .i64 r.id) ∧ w'.cell? ⟨xb, 1, none⟩ = some (.int .i64 r.st) ∧ w'.cell? ⟨xb, 2, none⟩ = some (.int .u32 r.n)
theorem sR_of {xb : Nat} {r : Rec} {w : World} (h : Cs xb [.int .i64 r.id, .int .i64 r.st, .int .u32 r.n, .int .u32 r.ip, .int .u16 r.port] w) : SR xb r w := ⟨h.cell 0 _ rfl, h.cell 1 _ rfl, h.cell 2 _ rfl⟩
theorem SR.drew {xb : Nat} {r : Rec} {w : World} (h : SR xb r w) : SR xb r w.drew := h
theorem sR_grown {xb : Nat} {r : Rec} {w w' : World} {row : Option Nat} (h : SR xb r w) (hl : xb < w.heap.size) (hg : w.grownBy w' row) (hx : ∀ k, row = some k → k ≠ xb) : SR xb r w' := by
  have t : Touch (fun k => row = some k) w w' := Touch.of_grown hg (fun k hk => hk)
  have c : ∀ o, w'.cell? ⟨xb, o, none⟩ = w.cell? ⟨xb, o, none⟩ := fun o => t.cell (p := ⟨xb, o, none⟩) hl (fun e => hx xb e rfl)
  exact ⟨(c 0).trans h.1, (c 1).trans h.2.1, (c 2).trans h.2.2⟩
theorem SR.set {xb g o : Nat} {r : Rec} {w : World} (h : SR xb r w) (hg : g ≠ xb) (u : Value) : SR xb r (w.setCell ⟨g, o, none⟩ u) := by
  have c : ∀ k, (w.setCell ⟨g, o, none⟩ u).cell? ⟨xb, k, none⟩ = w.cell? ⟨xb, k, none⟩ := fun k => World.cell?_setCell_other _ _ _ _ (by intro e; injection e with e1; exact hg e1)
  exact ⟨(c 0).trans h.1, (c 1).trans h.2.1, (c 2).trans h.2.2⟩
set_option maxHeartbeats 6400000 in
set_option maxRecDepth 100000 in
theorem rtake_new (r : Rec) (hr : r.Ok) (hR : r.right = true) (g : Nat) (vl ve : Sl) (v : Vw) (w : World) (h : Rs g vl ve v w) (hk : knows v r.id = false) (hl : v.E.length < 1000000) :
    Calls Try.prog 13 #[.pointer (some ⟨g, 0, none⟩), .agg #[.int .i64 r.id, .int .i64 r.st, .int .u32 r.n, .int .u32 r.ip, .int .u16 r.port]] w (RTakePost g vl ve v r w) := by
  have ht := turns_new (v := v) hR hk
  have hB : Hid (Below w.heap.size w (w.alloc (.cells #[.int .i64 r.id, .int .i64 r.st, .int .u32 r.n, .int .u32 r.ip, .int .u16 r.port] 48))) := (Below.refl _ w).alloc (Nat.le_refl _) _
  have X : Hid (Cs w.heap.size [.int .i64 r.id, .int .i64 r.st, .int .u32 r.n, .int .u32 r.ip, .int .u16 r.port] (w.alloc (.cells #[.int .i64 r.id, .int .i64 r.st, .int .u32 r.n, .int .u32 r.ip, .int .u16 r.port] 48))) := Cs.new w (rcs r) 48
  have K1 : ∀ w, Calls Try.prog 32 #[.agg #[.int .i64 r.id, .int .i64 r.st, .int .u32 r.n, .int .u32 r.ip, .int .u16 r.port]] w fun e w' => e = .returned (.bool true) ∧ Below w.heap.size w w' := fun w => by
    rw [← hR]; exact rright_any r.id r.st r.n r.ip r.port hr.ip hr.port w
  have K2 := Lib.hid (fun w1 h1 => rfind_any r.id g vl ve v w1 h1)
  unfold FindPost at K2
  rw [hk] at K2
  unfold RTakePost
  rw [ht, err_ok hR]
  have hw := was_no hk
  have hst := right_st hR
  have HOK1 : Hid (OkV ⟨upd v.k r.id.toNat r, v.E⟩) := by
    have := take_ok h.ok hr
    rw [take_yes ht] at this
    exact ⟨this.ok, this.id⟩
  have HOK2 := Lib.hid (take_ok h.ok hr)
  have HE : Hid ((takeV v r).E = v.E ++ [⟨r.id, -1, r.st, r.n⟩]) := by
    show _ = _
    rw [take_E ht (by omega)]; unfold evV; rw [hw]
  have HM : Hid ((membersV v).take (posR (membersV v) r.id) ++ [r] ++ (membersV v).drop (posR (membersV v) r.id) = membersV (takeV v r)) := ins_members h.ok hr hR hk
  have HM2 : Hid (membersV ⟨upd v.k r.id.toNat r, v.E⟩ = membersV (takeV v r)) := by rw [take_yes ht]; rfl
  have hpl := pos_le (membersV v) r.id
  have hml := members_len v
  have hln := h.ln
  have hen := h.en
  have HH := Lib.hid h
  have hrow := h.row
  clear ht hw hk hR
  generalize takeV v r = V2 at *
  generalize hV1 : (⟨upd v.k r.id.toNat r, v.E⟩ : Vw) = V1 at *
  have HE1 : Hid (V1.E = v.E) := by rw [← hV1]; rfl
  clear hV1
  have FIN := Lib.hid (fun vl1 w6 w9 g1 cap1 (h6 : Rs g vl1 ve V1 w6) => Rs.app (V' := V2) (x := ⟨r.id, -1, r.st, r.n⟩) (g1 := g1) (cap1 := cap1) (w9 := w9) h6 HM2.out.symm (by rw [HE.out, HE1.out]) HOK2.out)
  simp only [HE1.out] at FIN
  obtain ⟨i0, hi0, hz0, hz1, hz2⟩ := info_parts info_rrec
  obtain ⟨j0, hj0, hy0, hy1, hy2⟩ := info_parts info_rev
  obtain ⟨av, n9, cv⟩ := vl
  obtain ⟨ae, e9, ce9⟩ := ve
  simp only at hln hen
  subst hln hen
  generalize hp : posR (membersV v) r.id = p at *
  have hpl0 : (0 : Int) ≤ p := by omega
  have hpl1 : (p : Int) ≤ (membersV v).length := by omega
  have f1 : Hid ((((membersV v).take p).map rcs).flatten.length = p * 5) := by show _ = _; rw [flat_len rcs_enc, List.length_take]; congr 1; omega
  have o1 := Lib.hid (rcs_enc.ones ((membersV v).take p))
  have f2 : Hid ((((membersV v).drop p).map rcs).flatten.length = ((membersV v).length - p) * 5) := by show _ = _; rw [flat_len rcs_enc, List.length_drop]
  have o2 := Lib.hid (rcs_enc.ones ((membersV v).drop p))
  have oc := Lib.hid (rcs_enc.one r)
  have HFL : Hid (((membersV V2).map rcs).flatten = (((membersV v).take p).map rcs).flatten ++ rcs r ++ (((membersV v).drop p).map rcs).flatten) := by
    show _ = _; rw [← HM.out]; simp
  have HLL : Hid ((membersV V2).length = (membersV v).length + 1) := by
    show _ = _; rw [← HM.out]; simp; omega
  clear HM
  have hE2 : (v.E.length : Int) < 1000000 := by omega
  rcases erow_form hrow with ⟨h1, h2⟩ | ⟨gv, cap, h1, hgl⟩
  · simp only [Sl.v, Value.slice.injEq] at h1
    obtain ⟨rfl, h10, rfl⟩ := h1
    obtain rfl : p = 0 := by omega
    replace HFL : Hid (((membersV V2).map rcs).flatten = rcs r) := by show _ = _; rw [HFL.out, h2]; simp
    replace HLL : Hid ((membersV V2).length = 1) := by show _ = _; rw [HLL.out, h10]
    rw [h10] at HH K2
    rw [show ((0 : Nat) : Int) = 0 from rfl] at K2
    clear hpl hpl0 hpl1 hml f1 f2 o1 o2 hrow h hp h10 h2
    go_enter Try.func13, Try.ntmps13
    go_wp2_with fail
    refine (K1 _).mono ?_; rintro e w1 ⟨rfl, b1⟩
    replace hB := Lib.hid (hB.out.trans (b1.mono hB.out.size)); replace X := Lib.hid (X.out.keep b1); clear b1
    have c0 := X.out.cell 0 _ rfl; have xl := X.out.lt
    have KF := K2.out w1 (HH.out.keep hB.out)
    go_wp2_with fail
    refine KF.mono ?_; rintro e w2 ⟨rfl, b2⟩
    clear c0 xl KF
    replace hB := Lib.hid (hB.out.trans (b2.mono hB.out.size)); replace X := Lib.hid (X.out.keep b2); clear b2
    have H2 := Lib.hid (HH.out.keep hB.out)
    have g0 := H2.out.box.cell 0 _ rfl
    have gl := H2.out.box.lt
    have X2 := X
    have c0 := X.out.cell 0 _ rfl; have c1 := X.out.cell 1 _ rfl; have c2 := X.out.cell 2 _ rfl; have c3 := X.out.cell 3 _ rfl; have c4 := X.out.cell 4 _ rfl; have xl := X.out.lt
    go_wp2_with (at_builtin; first | (refine wpList_append_own_none rfl (.tmp 25) (.tmp 31) 28 rfl w2.heap.size 48 i0 5 Try.underlying28 hi0 (.slice none 0 0) 0 [] rfl (World.ownsRow_nil _ _ _ _) rfl ?_) | (refine wpList_append_lies _ rfl (.tmp 33) (.tmp 35) 28 rfl w2.heap.size 48 i0 _ 5 32 Try.underlying28 hi0 hz0 hz1 hz2 rfl (by omega) (.slice none 0 0) 0 [] rfl (World.ownsRow_nil _ _ _ _) ⟨_, 0, none⟩ 1 1 (rcs r) rfl rfl (World.news_of_block (cs := (rcs r).toArray) (t := 48) (fr := (0, 0)) (heap_alloc_new _ _)) oc.out (by omega) (by unfold maxLen; omega) (by omega) (by simp) _ rfl ?_))
    intro g2 cap2 w4 hown hgrow hat hlt4
    have t2 : Touch (fun _ => False) w2 w4 := ((Touch.refl _ w2).alloc _).trans (Touch.of_grown hgrow (fun k hk => by simp [Value.ownBlock] at hk)) (fun _ _ h => h)
    have B5 := Lib.hid (t2.below (B := w2.heap.size) (Nat.le_refl _) (fun _ _ h => h.elim))
    have OWN4 := Lib.hid hown
    have H4 := Lib.hid (H2.out.keep B5.out)
    clear hown hgrow hat t2 c0 c1 c2 c3 c4 xl g0 gl
    have g0 := H4.out.box.cell 0 _ rfl
    have gl := H4.out.box.lt
    have hrow5 : ERow rcs 5 48 w4 (Sl.v ⟨some ⟨g2, 0, none⟩, 1, cap2⟩) (membersV V1) := by
      show World.ownsRow _ _ _ _ _ _ _
      rw [HM2.out, HFL.out, HLL.out]
      exact own_zero OWN4.out
    have hlo5 : ∀ b, (Sl.v ⟨some ⟨g2, 0, none⟩, 1, cap2⟩).ownBlock = some b → w.heap.size ≤ b := fun b hb => Nat.le_trans hB.out.size (World.ownsRow.lt OWN4.out b hb).1
    obtain ⟨q1, q2, q3, q4⟩ := Rs.put0 (V' := V1) HH.out hrow5 (hB.out.trans (B5.out.mono hB.out.size)) hlo5 HE1.out HOK1.out
    have X5 := Lib.hid (X2.out.keep B5.out)
    have hgx : w.heap.size ≠ g := by have := HH.out.box.lt; omega
    have Q1 := Lib.hid q1
    have Q2 := Lib.hid q2
    have Q3 := Lib.hid q3
    clear g0 gl hrow5 hlo5 q1 q2 q3
    have g0 := q4.cell 0 _ rfl
    have gf := q4.free 0 _ rfl
    have gl := q4.lt
    clear q4
    go_wp2_with (at_builtin; refine wpList_append_own_none rfl (.tmp 38) (.tmp 44) 28 rfl w2.heap.size 48 i0 5 Try.underlying28 hi0 (.slice (some ⟨g2, 0, none⟩) 1 cap2) 1 (rcs r) rfl OWN4.out rfl ?_)
    go_upto_region 10 with fail
    have X6 : Hid (Cs w.heap.size [.int .i64 r.id, .int .i64 r.st, .int .u32 r.n, .int .u32 r.ip, .int .u16 r.port] (w4.setCell ⟨g, 0, none⟩ (.slice (some ⟨g2, 0, none⟩) 1 cap2))) := X5.out.far _ _ (fun e => hgx e.symm)
    (try simp only at Q1); (try simp only at Q2)
    generalize (w4.setCell ⟨g, 0, none⟩ (.slice (some ⟨g2, 0, none⟩) 1 cap2)) = w6 at *
    clear g0 gf gl
    have H7 := Lib.hid (fun o => Q1.out.keep (((Below.refl w6.heap.size w6).alloc (Nat.le_refl _) o).drew))
    have EV7 : Hid (∀ o, ERow ce 4 90 ((w6.alloc o).drew) (.slice ae v.E.length ce9) v.E) := fun o => by
      have := (H7.out o).ev
      rw [HE1.out] at this
      exact this
    have B7 := Lib.hid (fun o => (((Below.refl w6.heap.size w6).alloc (Nat.le_refl _) o).drew))
    have gq := Q1.out.box.cell 1 _ rfl; have gf := Q1.out.box.free 1 _ rfl; have gl := Q1.out.box.lt
    have XE : Hid (∀ k, (Value.slice ae v.E.length ce9).ownBlock = some k → k ≠ w.heap.size) := fun k hk e => by
      have := HH.out.lt k (.inr (.inr (own_eq hk))); omega
    have S6 := Lib.hid (sR_of X6.out)
    have hxl : Hid (∀ o, w.heap.size < ((w6.alloc o).drew).heap.size) := fun o => by have := X6.out.lt; show _ < (w6.alloc o).heap.size; rw [World.size_alloc]; omega
    have SA := Lib.hid (fun o => sR_of (X6.out.alloc o).drew)
    clear X5 X6 X X2 K1 K2
    refine wp_region_held_drew (S := (fun w' => w'.cell? ⟨w.heap.size, 0, none⟩ = some (.int .i64 r.id) ∧ w'.cell? ⟨w.heap.size, 1, none⟩ = some (.int .i64 r.st) ∧ w'.cell? ⟨w.heap.size, 2, none⟩ = some (.int .u32 r.n))) (by kernel_rfl) S6.out.drew (fun hHeld => ?_)
    refine wpAnyH_take (i := 0) (v := ?_) rfl (by kernel_rfl) (by kernel_rfl) (by kernel_rfl) (fun _ _ _ h => h) (Or.inl ⟨by rfl, ?_⟩) (by assumption) ?_; rotate_left 1; (focus (intro w hSw; (try dsimp only at hSw); go_simp; (try with_reducible rfl))); (try simp only [Act.put, List.setIfInBounds_toArray, List.set_cons_zero, List.set_cons_succ])
    refine wpAnyH_take (i := 1) (v := ?_) rfl (by kernel_rfl) (by kernel_rfl) (by kernel_rfl) (fun _ _ _ h => h) (Or.inl ⟨by rfl, ?_⟩) (by assumption) ?_; rotate_left 1; (focus (intro w hSw; (try dsimp only at hSw); go_simp; (try with_reducible rfl))); (try simp only [Act.put, List.setIfInBounds_toArray, List.set_cons_zero, List.set_cons_succ])
    refine wpAnyH_take (i := 2) (v := ?_) rfl (by kernel_rfl) (by kernel_rfl) (by kernel_rfl) (fun _ _ _ h => h) (Or.inl ⟨by rfl, ?_⟩) (by assumption) ?_; rotate_left 1; (focus (intro w hSw; (try dsimp only at hSw); go_simp; (try with_reducible rfl))); (try simp only [Act.put, List.setIfInBounds_toArray, List.set_cons_zero, List.set_cons_succ])
    refine wpAnyH_take (i := 3) (v := ?_) rfl (by kernel_rfl) (by kernel_rfl) (by kernel_rfl) (fun _ _ _ h => h) (Or.inl ⟨by rfl, ?_⟩) (by assumption) ?_; rotate_left 1; (focus (intro w hSw; (try dsimp only at hSw); go_simp; (try with_reducible rfl))); (try simp only [Act.put, List.setIfInBounds_toArray, List.set_cons_zero, List.set_cons_succ])
    refine wpAnyH_take (i := 5) (v := ?_) rfl (by kernel_rfl) (by kernel_rfl) (by kernel_rfl) (fun _ _ _ h => h) (Or.inl ⟨by rfl, ?_⟩) (by assumption) ?_; rotate_left 1; (focus (intro w hSw; (try dsimp only at hSw); go_simp; (try with_reducible rfl))); (try simp only [Act.put, List.setIfInBounds_toArray, List.set_cons_zero, List.set_cons_succ])
    refine wpAnyH_take (i := 6) (v := ?_) rfl (by kernel_rfl) (by kernel_rfl) (by kernel_rfl) (fun _ _ _ h => h) (Or.inl ⟨by rfl, ?_⟩) (by assumption) ?_; rotate_left 1; (focus (intro w hSw; (try dsimp only at hSw); go_simp; (try with_reducible rfl))); (try simp only [Act.put, List.setIfInBounds_toArray, List.set_cons_zero, List.set_cons_succ])
    refine wpAnyH_take (i := 7) (v := ?_) rfl (by kernel_rfl) (by kernel_rfl) (by kernel_rfl) (fun _ _ _ h => h) (Or.inl ⟨by rfl, ?_⟩) (by assumption) ?_; rotate_left 1; (focus (intro w hSw; (try dsimp only at hSw); go_simp; (try with_reducible rfl))); (try simp only [Act.put, List.setIfInBounds_toArray, List.set_cons_zero, List.set_cons_succ])
    refine wpAnyH_take (i := 8) (v := ?_) rfl (by kernel_rfl) (by kernel_rfl) (by kernel_rfl) (fun _ _ _ h => h) (Or.inl ⟨by rfl, ?_⟩) (by assumption) ?_; rotate_left 1; (focus (intro w hSw; (try dsimp only at hSw); go_simp; (try with_reducible rfl))); (try simp only [Act.put, List.setIfInBounds_toArray, List.set_cons_zero, List.set_cons_succ])
    refine wpAnyH_take (i := 9) (v := ?_) rfl (by kernel_rfl) (by kernel_rfl) (by kernel_rfl) (fun _ _ _ h => h) (Or.inl ⟨by rfl, ?_⟩) (by assumption) ?_; rotate_left 1; (focus (intro w hSw; (try dsimp only at hSw); go_simp; (try with_reducible rfl))); (try simp only [Act.put, List.setIfInBounds_toArray, List.set_cons_zero, List.set_cons_succ])
    refine wpAnyH_take (i := 10) (v := ?_) rfl (by kernel_rfl) (by kernel_rfl) (by kernel_rfl) (fun _ _ _ h => h) (Or.inl ⟨by rfl, ?_⟩) (by assumption) ?_; rotate_left 1; (focus (intro w hSw; (try dsimp only at hSw); go_simp; (try with_reducible rfl))); (try simp only [Act.put, List.setIfInBounds_toArray, List.set_cons_zero, List.set_cons_succ])
    refine wpAnyH_take (i := 11) (v := ?_) rfl (by kernel_rfl) (by kernel_rfl) (by kernel_rfl) (fun _ _ _ h => h) (Or.inl ⟨by rfl, ?_⟩) (by assumption) ?_; rotate_left 1; (focus (intro w hSw; (try dsimp only at hSw); go_simp; (try with_reducible rfl))); (try simp only [Act.put, List.setIfInBounds_toArray, List.set_cons_zero, List.set_cons_succ])
    refine wpAnyH_ready (rs := [4, 12]) (by kernel_rfl) (by simp) ?_
    refine AllReadyH.cons rfl (fun K hK => ?_) (AllReadyH.cons rfl (fun K hK => ?_) AllReadyH.nil)
    · go_simp
      refine hK.out _ _ S6.out.drew (fun hHeld => ?_); clear hK K
      refine wpAnyH_ready (rs := [12]) (by kernel_rfl) (by simp) ?_
      refine AllReadyH.cons rfl (fun K hK => ?_) AllReadyH.nil
      go_simp
      refine hK.out _ _ (SA.out _) (fun hHeld => ?_); clear hK K
      refine wpAnyH_ready (rs := [13]) (by kernel_rfl) (by simp) ?_
      refine AllReadyH.cons rfl (fun K hK => ?_) AllReadyH.nil
      refine step_append_lies _ (by rfl) _ _ _ (by rfl) 0 90 j0 _ 4 32 Try.underlying29 hj0 hy0 hy1 hy2 rfl (by omega) (.slice ae v.E.length ce9) v.E.length (v.E.map ce).flatten (by rfl) (EV7.out _) ⟨_, 0, none⟩ 1 1 [.int .i64 r.id, .int .i64 (-1), .int .i64 r.st, .int .u32 r.n] (by rfl) (by rfl) (World.news_of_block (cs := #[.int .i64 r.id, .int .i64 (-1), .int .i64 r.st, .int .u32 r.n]) (t := 90) (fr := (0, 0)) (heap_alloc_new _ _)) (by simp [Value.oneCell']) (by omega) (by unfold maxLen; omega) (by omega) (Nat.zero_le _) _ rfl ?_; intro g1 cap1 w9 hown hgrow hat hlt9; obtain ⟨af, box9⟩ := FIN.out _ _ _ _ _ (H7.out _) hown hgrow hat; have AF := Lib.hid (RAft.trans Q2.out Q3.out (RAft.after (B7.out _) af)); have s9 := Lib.hid (sR_grown (SA.out _) (hxl.out _) hgrow XE.out); have s9s := Lib.hid (fun u => s9.out.set (o := 1) (fun e => hgx e.symm) u); clear hown hgrow hat af gq; have gq := box9.cell 1 _ rfl; have gf9 := box9.free 1 _ rfl; have gl9 := box9.lt; clear box9
      refine hK.out _ _ s9.out (fun hHeld => ?_); clear hK K
      refine wpAnyH_take (i := 14) (v := ?_) rfl (by kernel_rfl) (by kernel_rfl) (by kernel_rfl) (fun _ _ _ h => h) (Or.inl ⟨by rfl, ?_⟩) (by assumption) ?_; rotate_left 1; (focus (intro w hSw; (try dsimp only at hSw); go_simp; (try with_reducible rfl))); (try simp only [Act.put, List.setIfInBounds_toArray, List.set_cons_zero, List.set_cons_succ])
      refine wpAnyH_take (i := 15) (v := ?_) rfl (by kernel_rfl) (by kernel_rfl) (by kernel_rfl) (fun _ _ _ h => h) (Or.inl ⟨by rfl, ?_⟩) (by assumption) ?_; rotate_left 1; (focus (intro w hSw; (try dsimp only at hSw); go_simp; (try with_reducible rfl))); (try simp only [Act.put, List.setIfInBounds_toArray, List.set_cons_zero, List.set_cons_succ])
      refine wpAnyH_ready (rs := [16]) (by kernel_rfl) (by simp) ?_
      refine AllReadyH.cons rfl (fun K hK => ?_) AllReadyH.nil
      go_simp
      refine hK.out _ _ (s9s.out _) (fun hHeld => ?_); clear hK K
      refine wpAnyH_done (by kernel_rfl) ?_ _
      go_wp2
      refine bodyPost_ret (v := (.tuple #[.bool true, .int .i64 0])) (by simp [results, Try.results13, go_sem, *]) rfl ?_
      exact ⟨rfl, AF.out⟩
    · go_simp
      refine hK.out _ _ (SA.out _) (fun hHeld => ?_); clear hK K
      refine wpAnyH_ready (rs := [4]) (by kernel_rfl) (by simp) ?_
      refine AllReadyH.cons rfl (fun K hK => ?_) AllReadyH.nil
      go_simp
      refine hK.out _ _ (SA.out _) (fun hHeld => ?_); clear hK K
      refine wpAnyH_ready (rs := [13]) (by kernel_rfl) (by simp) ?_
      refine AllReadyH.cons rfl (fun K hK => ?_) AllReadyH.nil
      refine step_append_lies _ (by rfl) _ _ _ (by rfl) 0 90 j0 _ 4 32 Try.underlying29 hj0 hy0 hy1 hy2 rfl (by omega) (.slice ae v.E.length ce9) v.E.length (v.E.map ce).flatten (by rfl) (EV7.out _) ⟨_, 0, none⟩ 1 1 [.int .i64 r.id, .int .i64 (-1), .int .i64 r.st, .int .u32 r.n] (by rfl) (by rfl) (World.news_of_block (cs := #[.int .i64 r.id, .int .i64 (-1), .int .i64 r.st, .int .u32 r.n]) (t := 90) (fr := (0, 0)) (heap_alloc_new _ _)) (by simp [Value.oneCell']) (by omega) (by unfold maxLen; omega) (by omega) (Nat.zero_le _) _ rfl ?_; intro g1 cap1 w9 hown hgrow hat hlt9; obtain ⟨af, box9⟩ := FIN.out _ _ _ _ _ (H7.out _) hown hgrow hat; have AF := Lib.hid (RAft.trans Q2.out Q3.out (RAft.after (B7.out _) af)); have s9 := Lib.hid (sR_grown (SA.out _) (hxl.out _) hgrow XE.out); have s9s := Lib.hid (fun u => s9.out.set (o := 1) (fun e => hgx e.symm) u); clear hown hgrow hat af gq; have gq := box9.cell 1 _ rfl; have gf9 := box9.free 1 _ rfl; have gl9 := box9.lt; clear box9
      refine hK.out _ _ s9.out (fun hHeld => ?_); clear hK K
      refine wpAnyH_take (i := 14) (v := ?_) rfl (by kernel_rfl) (by kernel_rfl) (by kernel_rfl) (fun _ _ _ h => h) (Or.inl ⟨by rfl, ?_⟩) (by assumption) ?_; rotate_left 1; (focus (intro w hSw; (try dsimp only at hSw); go_simp; (try with_reducible rfl))); (try simp only [Act.put, List.setIfInBounds_toArray, List.set_cons_zero, List.set_cons_succ])
      refine wpAnyH_take (i := 15) (v := ?_) rfl (by kernel_rfl) (by kernel_rfl) (by kernel_rfl) (fun _ _ _ h => h) (Or.inl ⟨by rfl, ?_⟩) (by assumption) ?_; rotate_left 1; (focus (intro w hSw; (try dsimp only at hSw); go_simp; (try with_reducible rfl))); (try simp only [Act.put, List.setIfInBounds_toArray, List.set_cons_zero, List.set_cons_succ])
      refine wpAnyH_ready (rs := [16]) (by kernel_rfl) (by simp) ?_
      refine AllReadyH.cons rfl (fun K hK => ?_) AllReadyH.nil
      go_simp
      refine hK.out _ _ (s9s.out _) (fun hHeld => ?_); clear hK K
      refine wpAnyH_done (by kernel_rfl) ?_ _
      go_wp2
      refine bodyPost_ret (v := (.tuple #[.bool true, .int .i64 0])) (by simp [results, Try.results13, go_sem, *]) rfl ?_
      exact ⟨rfl, AF.out⟩
  · simp only [Sl.v, Value.slice.injEq] at h1
    obtain ⟨rfl, -, rfl⟩ := h1
    obtain ⟨-, C, hC, hcap, ht, hlc, hm⟩ := erow_open rcs_enc (show ERow rcs 5 _ w (.slice (some ⟨gv, 0, none⟩) (membersV v).length cv) _ from hrow)
    have hcj : p ≤ cv := by omega
    have hcj2 : (p : Int) ≤ cv := by omega
    have n1 : Hid (∀ w1, ERow rcs 5 48 w1 (.slice (some ⟨gv, 0, none⟩) (membersV v).length cv) (membersV v) → ∀ k u, (((membersV v).take p).map rcs).flatten[k]? = some u → w1.cell? ((⟨gv, 0, none⟩ : Addr).add k) = some u) := fun w1 hr k u hu => by
      have := erow_part rcs_enc (p := 0) (M := (membersV v).take p) hr (fun i x hx => take_get hx) k u hu
      rw [Nat.zero_mul] at this; exact this
    obtain ⟨ad, hadq, hadn⟩ : ∃ ad : Addr, some ad = (if cv = p then some ⟨gv, 0, none⟩ else some ⟨gv, p * 5, none⟩) ∧ (¬ cv = p → ad = ⟨gv, p * 5, none⟩) := by
      split
      · rename_i h0; exact ⟨_, rfl, fun h => absurd h0 h⟩
      · exact ⟨_, rfl, fun _ => rfl⟩
    have n2 : Hid (∀ w1, ERow rcs 5 48 w1 (.slice (some ⟨gv, 0, none⟩) (membersV v).length cv) (membersV v) → ∀ k u, (((membersV v).drop p).map rcs).flatten[k]? = some u → w1.cell? (ad.add k) = some u) := fun w1 hr k u hu => by
      by_cases hce : cv = p
      · have : (((membersV v).drop p).map rcs).flatten = [] := List.eq_nil_of_length_eq_zero (by rw [f2.out]; omega)
        rw [this] at hu; simp at hu
      · rw [hadn hce]
        exact erow_part rcs_enc (p := p) (M := (membersV v).drop p) hr (fun i x hx => by rwa [List.getElem?_drop] at hx) k u hu
    have hif := hadq.symm
    clear hadq hadn hC ht hrow h hcap hp
    generalize (((membersV v).take p).map rcs).flatten = N1 at *
    generalize (((membersV v).drop p).map rcs).flatten = N2 at *
    generalize hml2 : (membersV v).length = ml at *
    go_enter Try.func13, Try.ntmps13
    go_wp2_with fail
    refine (K1 _).mono ?_; rintro e w1 ⟨rfl, b1⟩
    replace hB := Lib.hid (hB.out.trans (b1.mono hB.out.size)); replace X := Lib.hid (X.out.keep b1); clear b1
    have c0 := X.out.cell 0 _ rfl; have xl := X.out.lt
    have KF := K2.out w1 (HH.out.keep hB.out)
    go_wp2_with fail
    refine KF.mono ?_; rintro e w2 ⟨rfl, b2⟩
    clear c0 xl KF
    replace hB := Lib.hid (hB.out.trans (b2.mono hB.out.size)); replace X := Lib.hid (X.out.keep b2); clear b2
    have H2 := Lib.hid (HH.out.keep hB.out)
    have g0 := H2.out.box.cell 0 _ rfl
    have gl := H2.out.box.lt
    have R0 := Lib.hid (n1.out w2 H2.out.row)
    go_wp2_with (at_builtin; refine wpList_append_own _ rfl (.tmp 25) (.tmp 31) 28 rfl w2.heap.size 48 i0 _ 5 32 Try.underlying28 hi0 hz0 hz1 hz2 rfl (by omega) (.slice none 0 0) 0 [] rfl (World.ownsRow_nil _ _ _ _) ⟨gv, 0, none⟩ p cv N1 rfl f1.out R0.out o1.out (by unfold maxLen; omega) (by omega) (Nat.le_refl _) ?_)
    intro v1 w3 hown hgrow _
    have t1 : Touch (fun _ => False) w2 w3 := Touch.of_grown hgrow (fun k hk => by simp [Value.ownBlock] at hk)
    have B3 := Lib.hid (t1.below (B := w2.heap.size) (Nat.le_refl _) (fun _ _ h => h.elim))
    have OWN := Lib.hid hown
    have H3 := Lib.hid (H2.out.keep B3.out)
    have hs3 : Hid (w2.heap.size ≤ w3.heap.size) := t1.size
    clear g0 gl hown hgrow t1 R0
    have X2 := X
    replace X := Lib.hid (X.out.keep B3.out)
    have c0 := X.out.cell 0 _ rfl; have c1 := X.out.cell 1 _ rfl; have c2 := X.out.cell 2 _ rfl; have c3 := X.out.cell 3 _ rfl; have c4 := X.out.cell 4 _ rfl; have xl := X.out.lt
    go_wp2_with (at_builtin; refine wpList_append_lies _ rfl (.tmp 33) (.tmp 35) 28 rfl w2.heap.size 48 i0 _ 5 32 Try.underlying28 hi0 hz0 hz1 hz2 rfl (by omega) v1 p N1 rfl (own_touch (F := fun _ => False) OWN.out ((Touch.refl _ _).alloc _) (fun _ _ h => h)) ⟨_, 0, none⟩ 1 1 (rcs r) rfl rfl (World.news_of_block (cs := (rcs r).toArray) (t := 48) (fr := (0, 0)) (heap_alloc_new _ _)) oc.out (by omega) (by unfold maxLen; omega) (by omega) (by have := hs3.out; simp; omega) _ rfl ?_)
    intro g2 cap2 w4 hown hgrow hat hlt4
    have t2 : Touch (fun b => w2.heap.size ≤ b) w3 w4 := ((Touch.refl _ w3).alloc _).trans (Touch.of_grown hgrow (fun k hk => (World.ownsRow.lt OWN.out k hk).1)) (fun _ _ h => h)
    have B4 := Lib.hid (B3.out.trans (t2.below (B := w2.heap.size) B3.out.size (fun _ _ h => h)))
    have OWN4 := Lib.hid hown
    have H4 := Lib.hid (H2.out.keep B4.out)
    have hs4 : Hid (w2.heap.size ≤ w4.heap.size) := B4.out.size
    have R4 := Lib.hid (n2.out w4 H4.out.row)
    clear hown hgrow hat t2 c0 c1 c2 c3 c4 xl
    have g0 := H4.out.box.cell 0 _ rfl
    have gl := H4.out.box.lt
    go_wp2_with (at_builtin; refine wpList_append_own _ rfl (.tmp 38) (.tmp 44) 28 rfl w2.heap.size 48 i0 _ 5 32 Try.underlying28 hi0 hz0 hz1 hz2 rfl (by omega) (.slice (some ⟨g2, 0, none⟩) (p + 1) cap2) (p + 1) (N1 ++ rcs r) rfl OWN4.out ad (ml - p) (cv - p) N2 rfl f2.out R4.out o2.out (by unfold maxLen; omega) (by omega) hs4.out ?_)
    all_goals (
      intro v3 w5 hown hgrow _
      have B5 := Lib.hid (B4.out.grown hgrow B4.out.size (fun k hk => (World.ownsRow.lt OWN4.out k hk).1))
      obtain ⟨⟨sa, sn, sc⟩, hv⟩ := sl_of hown
      obtain rfl : v3 = .slice sa sn sc := hv
      have hrow5 : ERow rcs 5 48 w5 (Sl.v ⟨sa, sn, sc⟩) (membersV V1) := by
        show World.ownsRow _ _ _ _ _ _ _
        rw [HM2.out, HFL.out, HLL.out]
        have e : p + 1 + (ml - p) = ml + 1 := by omega
        have := own_zero hown
        rw [e] at this
        first | exact this | (rw [List.append_assoc]; exact this)
      have hlo5 : ∀ b, (Sl.v ⟨sa, sn, sc⟩).ownBlock = some b → w.heap.size ≤ b := fun b hb => Nat.le_trans hB.out.size (World.ownsRow.lt hown b hb).1
      obtain ⟨q1, q2, q3, q4⟩ := Rs.put0 (V' := V1) HH.out hrow5 (hB.out.trans (B5.out.mono hB.out.size)) hlo5 HE1.out HOK1.out
      have X5 := Lib.hid (X2.out.keep B5.out)
      have hgx : w.heap.size ≠ g := by have := HH.out.box.lt; omega
      have Q1 := Lib.hid q1
      have Q2 := Lib.hid q2
      have Q3 := Lib.hid q3
      clear g0 gl hrow5 hlo5 q1 q2 q3
      have g0 := q4.cell 0 _ rfl
      have gf := q4.free 0 _ rfl
      have gl := q4.lt
      clear q4
      go_wp2_with fail
      go_upto_region 10 with fail
      have X6 : Hid (Cs w.heap.size [.int .i64 r.id, .int .i64 r.st, .int .u32 r.n, .int .u32 r.ip, .int .u16 r.port] (w5.setCell ⟨g, 0, none⟩ (.slice sa sn sc))) := X5.out.far _ _ (fun e => hgx e.symm)
      (try simp only at Q1); (try simp only at Q2)
      generalize (w5.setCell ⟨g, 0, none⟩ (.slice sa sn sc)) = w6 at *
      clear g0 gf gl
      have H7 := Lib.hid (fun o => Q1.out.keep (((Below.refl w6.heap.size w6).alloc (Nat.le_refl _) o).drew))
      have EV7 : Hid (∀ o, ERow ce 4 90 ((w6.alloc o).drew) (.slice ae v.E.length ce9) v.E) := fun o => by
        have := (H7.out o).ev
        rw [HE1.out] at this
        exact this
      have B7 := Lib.hid (fun o => (((Below.refl w6.heap.size w6).alloc (Nat.le_refl _) o).drew))
      have gq := Q1.out.box.cell 1 _ rfl; have gf := Q1.out.box.free 1 _ rfl; have gl := Q1.out.box.lt
      have XE : Hid (∀ k, (Value.slice ae v.E.length ce9).ownBlock = some k → k ≠ w.heap.size) := fun k hk e => by
        have := HH.out.lt k (.inr (.inr (own_eq hk))); omega
      have S6 := Lib.hid (sR_of X6.out)
      have hxl : Hid (∀ o, w.heap.size < ((w6.alloc o).drew).heap.size) := fun o => by have := X6.out.lt; show _ < (w6.alloc o).heap.size; rw [World.size_alloc]; omega
      have SA := Lib.hid (fun o => sR_of (X6.out.alloc o).drew)
      clear X5 X6 X X2 K1 K2 n1 n2 hif
      refine wp_region_held_drew (S := (fun w' => w'.cell? ⟨w.heap.size, 0, none⟩ = some (.int .i64 r.id) ∧ w'.cell? ⟨w.heap.size, 1, none⟩ = some (.int .i64 r.st) ∧ w'.cell? ⟨w.heap.size, 2, none⟩ = some (.int .u32 r.n))) (by kernel_rfl) S6.out.drew (fun hHeld => ?_)
      refine wpAnyH_take (i := 0) (v := ?_) rfl (by kernel_rfl) (by kernel_rfl) (by kernel_rfl) (fun _ _ _ h => h) (Or.inl ⟨by rfl, ?_⟩) (by assumption) ?_; rotate_left 1; (focus (intro w hSw; (try dsimp only at hSw); go_simp; (try with_reducible rfl))); (try simp only [Act.put, List.setIfInBounds_toArray, List.set_cons_zero, List.set_cons_succ])
      refine wpAnyH_take (i := 1) (v := ?_) rfl (by kernel_rfl) (by kernel_rfl) (by kernel_rfl) (fun _ _ _ h => h) (Or.inl ⟨by rfl, ?_⟩) (by assumption) ?_; rotate_left 1; (focus (intro w hSw; (try dsimp only at hSw); go_simp; (try with_reducible rfl))); (try simp only [Act.put, List.setIfInBounds_toArray, List.set_cons_zero, List.set_cons_succ])
      refine wpAnyH_take (i := 2) (v := ?_) rfl (by kernel_rfl) (by kernel_rfl) (by kernel_rfl) (fun _ _ _ h => h) (Or.inl ⟨by rfl, ?_⟩) (by assumption) ?_; rotate_left 1; (focus (intro w hSw; (try dsimp only at hSw); go_simp; (try with_reducible rfl))); (try simp only [Act.put, List.setIfInBounds_toArray, List.set_cons_zero, List.set_cons_succ])
      refine wpAnyH_take (i := 3) (v := ?_) rfl (by kernel_rfl) (by kernel_rfl) (by kernel_rfl) (fun _ _ _ h => h) (Or.inl ⟨by rfl, ?_⟩) (by assumption) ?_; rotate_left 1; (focus (intro w hSw; (try dsimp only at hSw); go_simp; (try with_reducible rfl))); (try simp only [Act.put, List.setIfInBounds_toArray, List.set_cons_zero, List.set_cons_succ])
      refine wpAnyH_take (i := 5) (v := ?_) rfl (by kernel_rfl) (by kernel_rfl) (by kernel_rfl) (fun _ _ _ h => h) (Or.inl ⟨by rfl, ?_⟩) (by assumption) ?_; rotate_left 1; (focus (intro w hSw; (try dsimp only at hSw); go_simp; (try with_reducible rfl))); (try simp only [Act.put, List.setIfInBounds_toArray, List.set_cons_zero, List.set_cons_succ])
      refine wpAnyH_take (i := 6) (v := ?_) rfl (by kernel_rfl) (by kernel_rfl) (by kernel_rfl) (fun _ _ _ h => h) (Or.inl ⟨by rfl, ?_⟩) (by assumption) ?_; rotate_left 1; (focus (intro w hSw; (try dsimp only at hSw); go_simp; (try with_reducible rfl))); (try simp only [Act.put, List.setIfInBounds_toArray, List.set_cons_zero, List.set_cons_succ])
      refine wpAnyH_take (i := 7) (v := ?_) rfl (by kernel_rfl) (by kernel_rfl) (by kernel_rfl) (fun _ _ _ h => h) (Or.inl ⟨by rfl, ?_⟩) (by assumption) ?_; rotate_left 1; (focus (intro w hSw; (try dsimp only at hSw); go_simp; (try with_reducible rfl))); (try simp only [Act.put, List.setIfInBounds_toArray, List.set_cons_zero, List.set_cons_succ])
      refine wpAnyH_take (i := 8) (v := ?_) rfl (by kernel_rfl) (by kernel_rfl) (by kernel_rfl) (fun _ _ _ h => h) (Or.inl ⟨by rfl, ?_⟩) (by assumption) ?_; rotate_left 1; (focus (intro w hSw; (try dsimp only at hSw); go_simp; (try with_reducible rfl))); (try simp only [Act.put, List.setIfInBounds_toArray, List.set_cons_zero, List.set_cons_succ])
      refine wpAnyH_take (i := 9) (v := ?_) rfl (by kernel_rfl) (by kernel_rfl) (by kernel_rfl) (fun _ _ _ h => h) (Or.inl ⟨by rfl, ?_⟩) (by assumption) ?_; rotate_left 1; (focus (intro w hSw; (try dsimp only at hSw); go_simp; (try with_reducible rfl))); (try simp only [Act.put, List.setIfInBounds_toArray, List.set_cons_zero, List.set_cons_succ])
      refine wpAnyH_take (i := 10) (v := ?_) rfl (by kernel_rfl) (by kernel_rfl) (by kernel_rfl) (fun _ _ _ h => h) (Or.inl ⟨by rfl, ?_⟩) (by assumption) ?_; rotate_left 1; (focus (intro w hSw; (try dsimp only at hSw); go_simp; (try with_reducible rfl))); (try simp only [Act.put, List.setIfInBounds_toArray, List.set_cons_zero, List.set_cons_succ])
      refine wpAnyH_take (i := 11) (v := ?_) rfl (by kernel_rfl) (by kernel_rfl) (by kernel_rfl) (fun _ _ _ h => h) (Or.inl ⟨by rfl, ?_⟩) (by assumption) ?_; rotate_left 1; (focus (intro w hSw; (try dsimp only at hSw); go_simp; (try with_reducible rfl))); (try simp only [Act.put, List.setIfInBounds_toArray, List.set_cons_zero, List.set_cons_succ])
      refine wpAnyH_ready (rs := [4, 12]) (by kernel_rfl) (by simp) ?_
      refine AllReadyH.cons rfl (fun K hK => ?_) (AllReadyH.cons rfl (fun K hK => ?_) AllReadyH.nil)
      · go_simp
        refine hK.out _ _ S6.out.drew (fun hHeld => ?_); clear hK K
        refine wpAnyH_ready (rs := [12]) (by kernel_rfl) (by simp) ?_
        refine AllReadyH.cons rfl (fun K hK => ?_) AllReadyH.nil
        go_simp
        refine hK.out _ _ (SA.out _) (fun hHeld => ?_); clear hK K
        refine wpAnyH_ready (rs := [13]) (by kernel_rfl) (by simp) ?_
        refine AllReadyH.cons rfl (fun K hK => ?_) AllReadyH.nil
        refine step_append_lies _ (by rfl) _ _ _ (by rfl) 0 90 j0 _ 4 32 Try.underlying29 hj0 hy0 hy1 hy2 rfl (by omega) (.slice ae v.E.length ce9) v.E.length (v.E.map ce).flatten (by rfl) (EV7.out _) ⟨_, 0, none⟩ 1 1 [.int .i64 r.id, .int .i64 (-1), .int .i64 r.st, .int .u32 r.n] (by rfl) (by rfl) (World.news_of_block (cs := #[.int .i64 r.id, .int .i64 (-1), .int .i64 r.st, .int .u32 r.n]) (t := 90) (fr := (0, 0)) (heap_alloc_new _ _)) (by simp [Value.oneCell']) (by omega) (by unfold maxLen; omega) (by omega) (Nat.zero_le _) _ rfl ?_; intro g1 cap1 w9 hown hgrow hat hlt9; obtain ⟨af, box9⟩ := FIN.out _ _ _ _ _ (H7.out _) hown hgrow hat; have AF := Lib.hid (RAft.trans Q2.out Q3.out (RAft.after (B7.out _) af)); have s9 := Lib.hid (sR_grown (SA.out _) (hxl.out _) hgrow XE.out); have s9s := Lib.hid (fun u => s9.out.set (o := 1) (fun e => hgx e.symm) u); clear hown hgrow hat af gq; have gq := box9.cell 1 _ rfl; have gf9 := box9.free 1 _ rfl; have gl9 := box9.lt; clear box9
        refine hK.out _ _ s9.out (fun hHeld => ?_); clear hK K
        refine wpAnyH_take (i := 14) (v := ?_) rfl (by kernel_rfl) (by kernel_rfl) (by kernel_rfl) (fun _ _ _ h => h) (Or.inl ⟨by rfl, ?_⟩) (by assumption) ?_; rotate_left 1; (focus (intro w hSw; (try dsimp only at hSw); go_simp; (try with_reducible rfl))); (try simp only [Act.put, List.setIfInBounds_toArray, List.set_cons_zero, List.set_cons_succ])
        refine wpAnyH_take (i := 15) (v := ?_) rfl (by kernel_rfl) (by kernel_rfl) (by kernel_rfl) (fun _ _ _ h => h) (Or.inl ⟨by rfl, ?_⟩) (by assumption) ?_; rotate_left 1; (focus (intro w hSw; (try dsimp only at hSw); go_simp; (try with_reducible rfl))); (try simp only [Act.put, List.setIfInBounds_toArray, List.set_cons_zero, List.set_cons_succ])
        refine wpAnyH_ready (rs := [16]) (by kernel_rfl) (by simp) ?_
        refine AllReadyH.cons rfl (fun K hK => ?_) AllReadyH.nil
        go_simp
        refine hK.out _ _ (s9s.out _) (fun hHeld => ?_); clear hK K
        refine wpAnyH_done (by kernel_rfl) ?_ _
        go_wp2
        refine bodyPost_ret (v := (.tuple #[.bool true, .int .i64 0])) (by simp [results, Try.results13, go_sem, *]) rfl ?_
        exact ⟨rfl, AF.out⟩
      · go_simp
        refine hK.out _ _ (SA.out _) (fun hHeld => ?_); clear hK K
        refine wpAnyH_ready (rs := [4]) (by kernel_rfl) (by simp) ?_
        refine AllReadyH.cons rfl (fun K hK => ?_) AllReadyH.nil
        go_simp
        refine hK.out _ _ (SA.out _) (fun hHeld => ?_); clear hK K
        refine wpAnyH_ready (rs := [13]) (by kernel_rfl) (by simp) ?_
        refine AllReadyH.cons rfl (fun K hK => ?_) AllReadyH.nil
        refine step_append_lies _ (by rfl) _ _ _ (by rfl) 0 90 j0 _ 4 32 Try.underlying29 hj0 hy0 hy1 hy2 rfl (by omega) (.slice ae v.E.length ce9) v.E.length (v.E.map ce).flatten (by rfl) (EV7.out _) ⟨_, 0, none⟩ 1 1 [.int .i64 r.id, .int .i64 (-1), .int .i64 r.st, .int .u32 r.n] (by rfl) (by rfl) (World.news_of_block (cs := #[.int .i64 r.id, .int .i64 (-1), .int .i64 r.st, .int .u32 r.n]) (t := 90) (fr := (0, 0)) (heap_alloc_new _ _)) (by simp [Value.oneCell']) (by omega) (by unfold maxLen; omega) (by omega) (Nat.zero_le _) _ rfl ?_; intro g1 cap1 w9 hown hgrow hat hlt9; obtain ⟨af, box9⟩ := FIN.out _ _ _ _ _ (H7.out _) hown hgrow hat; have AF := Lib.hid (RAft.trans Q2.out Q3.out (RAft.after (B7.out _) af)); have s9 := Lib.hid (sR_grown (SA.out _) (hxl.out _) hgrow XE.out); have s9s := Lib.hid (fun u => s9.out.set (o := 1) (fun e => hgx e.symm) u); clear hown hgrow hat af gq; have gq := box9.cell 1 _ rfl; have gf9 := box9.free 1 _ rfl; have gl9 := box9.lt; clear box9
        refine hK.out _ _ s9.out (fun hHeld => ?_); clear hK K
        refine wpAnyH_take (i := 14) (v := ?_) rfl (by kernel_rfl) (by kernel_rfl) (by kernel_rfl) (fun _ _ _ h => h) (Or.inl ⟨by rfl, ?_⟩) (by assumption) ?_; rotate_left 1; (focus (intro w hSw; (try dsimp only at hSw); go_simp; (try with_reducible rfl))); (try simp only [Act.put, List.setIfInBounds_toArray, List.set_cons_zero, List.set_cons_succ])
        refine wpAnyH_take (i := 15) (v := ?_) rfl (by kernel_rfl) (by kernel_rfl) (by kernel_rfl) (fun _ _ _ h => h) (Or.inl ⟨by rfl, ?_⟩) (by assumption) ?_; rotate_left 1; (focus (intro w hSw; (try dsimp only at hSw); go_simp; (try with_reducible rfl))); (try simp only [Act.put, List.setIfInBounds_toArray, List.set_cons_zero, List.set_cons_succ])
        refine wpAnyH_ready (rs := [16]) (by kernel_rfl) (by simp) ?_
        refine AllReadyH.cons rfl (fun K hK => ?_) AllReadyH.nil
        go_simp
        refine hK.out _ _ (s9s.out _) (fun hHeld => ?_); clear hK K
        refine wpAnyH_done (by kernel_rfl) ?_ _
        go_wp2
        refine bodyPost_ret (v := (.tuple #[.bool true, .int .i64 0])) (by simp [results, Try.results13, go_sem, *]) rfl ?_
        exact ⟨rfl, AF.out⟩)
end Go.Proofs.Ytchhbhoikkdmeaa
