/- slices.Clone of items; the queue's Items. -/
import Derived.Test.YthebcaielbnhjaaQuOps
import Derived.Test.YthebcaielbnhjaaQuSort
import Derived.Deep.AppendLies
namespace Go.Proofs.Ythebcaielbnhjaa
open Go.Shelf Go.Sort Go.RowKit Go.BigFrame
set_option linter.unusedVariables false
set_option linter.unusedSimpArgs false

/-- append(v, part...), v a slice of this call's own, the part readable, perhaps nil or empty -/
theorem wpList_append_part {P : Program} (w : World) {ops : Array Oper} {rest : List Oper} {o : Oper} {a : Act} {Q : Exit → Act → World → Prop} (hgd : o.guard = none) (s x : Operand) (t : TypeId)
    (ho : o.op = .call { callee := .builtin .append, args := #[s, x], argTypes := #[t, t] })
    (base : Nat) (e : TypeId) (i : TypeInfo) (z : Value) (size bytes : Nat) (ht : P.underlying t = some (.slice e)) (hi : P.info? e = some i) (hz : i.zero = some z) (hsize : i.size = size) (hby : i.bytes = bytes) (hzs : z.cells.size = size) (hsz : 0 < size)
    (v : Value) (n : Nat) (xs : List Value) (hs : a.eval s = v) (hown : w.ownsRow base e size v n xs)
    (A : Option Addr) (m c : Nat) (news : List Value) (hx : a.eval x = .slice A m c) (hm : news.length = m * size) (hr : ∀ ad, A = some ad → ∀ j u, news[j]? = some u → w.cell? (ad.add j) = some u) (h1 : ∀ u ∈ news, u.oneCell' = true) (hA : A = none → m = 0 ∧ c = 0)
    (h63 : n + m ≤ maxLen) (hbytes : (n + m) * bytes ≤ 140737488355328) (hbase : base ≤ w.heap.size)
    (h : ∀ v' w', w'.ownsRow base e size v' (n + m) (xs ++ news) → w.grownBy w' v.ownBlock → wpList P ops Q rest (a.put o.dst v') w') : wpList P ops Q (o :: rest) a w := by
  rcases A with _ | ad
  · obtain ⟨q1, q2⟩ := hA rfl
    subst q1 q2
    obtain rfl : news = [] := List.eq_nil_of_length_eq_zero (by rw [hm, Nat.zero_mul])
    exact wpList_append_own_none hgd s x t ho base e i size ht hi v n xs hs hown hx (h v w (by simpa using hown) (World.grownBy.refl w _))
  · exact wpList_append_own w hgd s x t ho base e i z size bytes ht hi hz hsize hby hzs hsz v n xs hs hown ad m c news hx hm (hr ad rfl) h1 h63 hbytes hbase fun v' w' q1 q2 _ => h v' w' q1 q2
/-- the cells of a part of a row -/
theorem part_cells {T : TypeId} {w : World} {gv c p : Nat} {L M : List Im} (h : ERow ci 6 T w (.slice (some ⟨gv, 0, none⟩) L.length c) L) (hM : ∀ i x, M[i]? = some x → L[p + i]? = some x) : ∀ k u, (M.map ci).flatten[k]? = some u → w.cell? ((⟨gv, p * 6, none⟩ : Addr).add k) = some u := by
  obtain ⟨-, C, hC, -, ht, -⟩ := erow_open ci_enc h
  exact hC.sub (p := p) (by decide) (ci_enc.all M) (fun i c hc => by
    rw [List.getElem?_map, Option.map_eq_some_iff] at hc
    obtain ⟨x, hx, rfl⟩ := hc
    exact taken_at ht (hM i x hx))
theorem cis_len (M : List Im) : (M.map ci).flatten.length = M.length * 6 := by rw [flatten_len (z := 6) _ (ci_enc.all _), List.length_map]
theorem new_of_own {α : Type} {c : α → List Value} {z : Nat} {T : TypeId} {D : List α} {w w' : World} {v : Sl} {b : Nat} (hb : w.heap.size ≤ b) (h : w'.ownsRow b T z v.v D.length (D.map c).flatten) : NewE c z T D w v w' :=
  ⟨own_zero h, erow_n (c := c) (z := z) (own_zero h), fun k hk => Nat.le_trans hb (World.ownsRow.lt h k hk).1⟩
set_option maxHeartbeats 1600000 in
set_option maxRecDepth 100000 in
theorem clone_any (v : Sl) (L : List Im) (hl : L.length ≤ 1000) (w : World) (hr : ERow ci 6 61 w v.v L) :
    Calls Try.prog 34 #[.slice v.a v.n v.c] w (NewPost ci 6 61 L w) := by
  have q22 : ∀ (w : World) (a : Option Addr) (n c n' c' : Nat), (binOp .eql 54 (.slice a n c) (.slice none n' c')).run Try.prog w = .ok (.bool a.isNone) w := fun w a n c n' c' => Lib.run_eql_slice_nil w _ _ a n c n' c' Try.underlying54
  rcases erow_form hr with ⟨h1, rfl⟩ | ⟨g, cap, h1, _⟩
  · obtain ⟨a, n, c⟩ := v
    simp only [Sl.v, Value.slice.injEq] at h1
    obtain ⟨rfl, rfl, rfl⟩ := h1
    have F : Hid (NewE ci 6 61 ([] : List Im) w ⟨none, 0, 0⟩ w) := ⟨erow_nil, rfl, fun b hb => by simp [Sl.v, Value.ownBlock] at hb⟩
    clear hr
    go_enter Try.func34, Try.ntmps34
    go_wp2
    go_ret
    exact ⟨⟨none, 0, 0⟩, rfl, F.out, Below.refl _ _⟩
  · obtain ⟨a, n, c⟩ := v
    simp only [Sl.v, Value.slice.injEq] at h1
    obtain ⟨rfl, rfl, rfl⟩ := h1
    obtain ⟨i0, hi0, hz0, hz1, hz2⟩ := info_parts info_item
    have OW : Hid ((w.alloc (.cells #[] 61)).ownsRow w.heap.size 61 6 (.slice (some ⟨w.heap.size, 0, none⟩) 0 0) 0 []) := own_empty w 61 6
    have hr1 := erow_keep hr ((Below.refl _ w).alloc (Nat.le_refl _) (.cells #[] 61))
    have N0 := part_cells (p := 0) (M := L) hr1 (fun i x hx => by rwa [Nat.zero_add])
    rw [Nat.zero_mul] at N0
    have NN := Lib.hid N0
    have f1 := Lib.hid (cis_len L)
    have o1 := Lib.hid (ci_enc.ones L)
    have FIN : Hid (∀ (v : Sl) w9, w9.ownsRow w.heap.size 61 6 v.v L.length (L.map ci).flatten → (w.alloc (.cells #[] 61)).grownBy w9 (some w.heap.size) → NewE ci 6 61 L w v w9 ∧ Below w.heap.size w w9) := fun v w9 h1 h2 => by
      refine ⟨new_of_own (Nat.le_refl _) h1, ?_⟩
      exact ((Below.refl _ w).alloc (Nat.le_refl _) _).grown h2 (by simp) (fun k hk => by injection hk with hk; omega)
    clear hr hr1 N0
    generalize (L.map ci).flatten = news at *
    go_enter Try.func34, Try.ntmps34
    go_wp2_with (at_builtin; refine wpList_append_own _ rfl (.tmp 5) (.tmp 6) 54 rfl w.heap.size 61 i0 _ 6 40 Try.underlying54 hi0 hz0 hz1 hz2 rfl (by omega) (.slice (some ⟨w.heap.size, 0, none⟩) 0 0) 0 [] rfl OW.out ⟨g, 0, none⟩ L.length c news rfl f1.out NN.out o1.out (by unfold maxLen; omega) (by omega) (by simp) ?_)
    intro v1 w1 hown hgrow _
    obtain ⟨⟨sa, sn, sc⟩, hv⟩ := sl_of hown
    obtain rfl : v1 = .slice sa sn sc := hv
    have F9 := Lib.hid (FIN.out ⟨sa, sn, sc⟩ w1 hown hgrow)
    clear hown hgrow FIN
    go_wp2
    go_ret
    exact ⟨⟨sa, sn, sc⟩, rfl, F9.out⟩
set_option maxHeartbeats 1600000 in
set_option maxRecDepth 100000 in
theorem items_any (g room : Nat) (v : Sl) (S : List Im) (w : World) (h : Qs true g room v S w) :
    Calls Try.prog 21 #[.pointer (some ⟨g, 0, none⟩)] w (NewPost ci 6 61 S w) := by
  obtain ⟨L, hrow, hp⟩ := h.row
  have hp : L.Perm S := hp
  have hl : L.length ≤ 1000 := by have := h.ok.len; have := h.r2; rw [hp.length_eq]; omega
  have K := clone_any v L hl w hrow
  have SO := fun (v' : Sl) w1 => sort_any v' L S hl hp h.ok.srt h.ok.ids w1
  have x1 := h.box.cell 1 _ rfl
  have gl := h.box.lt
  have HN := Lib.hid (show L.length = S.length from hp.length_eq)
  clear h hrow hp
  go_enter Try.func21, Try.ntmps21
  go_wp2_with fail
  refine K.mono ?_; rintro e w1 ⟨⟨va, vn, vc⟩, rfl, hN, b1⟩
  have K2 := SO ⟨va, vn, vc⟩ w1 hN.1
  have HV := Lib.hid hN
  have HB := Lib.hid b1
  clear K SO hN b1
  go_wp2_with fail
  refine K2.mono ?_; rintro e w2 ⟨rfl, hr2, ht2⟩
  have F : Hid (NewE ci 6 61 S w ⟨va, vn, vc⟩ w2) := ⟨hr2, by show vn = _; rw [← HN.out]; exact HV.out.2.1, HV.out.2.2⟩
  have FB : Hid (Below w.heap.size w w2) := HB.out.trans (ht2.below HB.out.size (fun k _ hk => HV.out.2.2 k hk))
  clear K2 hr2 ht2
  go_wp2
  go_ret
  exact ⟨⟨va, vn, vc⟩, rfl, F.out, FB.out⟩
end Go.Proofs.Ythebcaielbnhjaa
