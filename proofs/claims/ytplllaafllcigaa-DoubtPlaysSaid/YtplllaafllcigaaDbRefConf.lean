/- The reference's Confirm. -/
import Derived.Test.YtplllaafllcigaaDbRefPut
namespace Go.Proofs.Ytplllaafllcigaa
open Go.Sort Go.RowKit Go.BigFrame
set_option linter.unusedVariables false
set_option linter.unusedSimpArgs false

/-- append(v, part...) at a step of a region -/
theorem step_append_part {P : Program} (w : World) {ops : Array Oper} {o : Oper} {a : Act} {K : Act → World → Prop} {Q : Exit → Act → World → Prop} {E : Prop} (hgd : o.guard = none) (s x : Operand) (t : TypeId)
    (ho : o.op = .call { callee := .builtin .append, args := #[s, x], argTypes := #[t, t] })
    (base : Nat) (e : TypeId) (i : TypeInfo) (z : Value) (size bytes : Nat) (ht : P.underlying t = some (.slice e)) (hi : P.info? e = some i) (hz : i.zero = some z) (hsize : i.size = size) (hby : i.bytes = bytes) (hzs : z.cells.size = size) (hsz : 0 < size)
    (v : Value) (n : Nat) (xs : List Value) (hs : a.eval s = v) (hown : w.ownsRow base e size v n xs)
    (A : Option Addr) (m c : Nat) (news : List Value) (hx : a.eval x = .slice A m c) (hm : news.length = m * size) (hr : ∀ ad, A = some ad → ∀ j u, news[j]? = some u → w.cell? (ad.add j) = some u) (h1 : ∀ u ∈ news, u.oneCell' = true) (hA : A = none → m = 0 ∧ c = 0)
    (h63 : n + m ≤ maxLen) (hbytes : (n + m) * bytes ≤ 140737488355328) (hbase : base ≤ w.heap.size)
    (h : ∀ v' w', w'.ownsRow base e size v' (n + m) (xs ++ news) → w.grownBy w' v.ownBlock → K (a.put o.dst v') w') : if Region.wanted o (yielded ops a.tmps) = true then Oper.wp P o a w K Q else E := by
  have hw : Region.wanted o (yielded ops a.tmps) = true := by simp [Region.wanted, hgd]
  rw [if_pos hw]
  rcases A with _ | ad
  · obtain ⟨q1, q2⟩ := hA rfl
    subst q1 q2
    obtain rfl : news = [] := List.eq_nil_of_length_eq_zero (by rw [hm, Nat.zero_mul])
    have hrun := run_append_owned_none (P := P) (w := w) base t o.type e i size ht hi v n xs hown
    have hK := h v w (by simpa using hown) (World.grownBy.refl w _)
    unfold Oper.wp
    simp [execOp, ho, resolve, invoke, builtin, hs, hx, hrun, Result.andThen]
    exact hK
  · exact wp_append_own w s x t ho base e i z size bytes ht hi hz hsize hby hzs hsz v n xs hs hown ad m c news hx hm (hr ad rfl) h1 h63 hbytes hbase fun v' w' q1 q2 _ => h v' w' q1 q2
theorem info_int : (Try.prog.info? 3).map (fun i => (i.zero, i.size, i.bytes)) = some (some (.int .i64 0), 1, 8) := by kernel_rfl
theorem all_set {k : Nat → It} (h : OkD k) {n : Nat} (hn : n < 33) (hs : susp (k n) = true) {x : It} (hx : susp x = true) : allL (updD k n x) = (allL k).set (atL n (allL k)) x := by
  obtain ⟨h1, h2, _⟩ := lo_at h hn
  have hlt : atL n (allL k) < (allL k).length := (List.getElem?_eq_some_iff.1 (get_all h hn hs)).1
  rw [List.set_eq_take_append_cons_drop, if_pos hlt, h1, h2 hs, all_cut _ hn, lo_upd, hi_upd]
  unfold midL
  rw [updD_same, if_pos hx]; rfl
/-- the list of those who confirm is another one -/
theorem Rs.confirm {g n j : Nat} {u s' : Sl} {P : List (It × Sl)} {k : Nat → It} {w w5 : World} {W : List Int} {gv : Nat} (h : Rs g u P k w) (hn : n < 33) (hs : susp (k n) = true) (hj : atL n (allL k) = j) (hu : u.a = some ⟨gv, 0, none⟩) (hb : Below w.heap.size w w5)
    (hr : ERow c64 1 3 w5 s'.v W) (hnw : ∀ b, s'.v.ownBlock = some b → w.heap.size ≤ b) (hok : OkD (updD k n { k n with who := W })) :
    RAft g u P (updD k n { k n with who := W }) w (w5.setCell ⟨gv, j * 5 + 4, none⟩ (.slice s'.a s'.n s'.c)) ∧ (∃ y, w5.cell? ⟨gv, j * 5 + 4, none⟩ = some y) ∧ w5.frozen? ⟨gv, j * 5 + 4, none⟩ = false ∧ gv < w5.heap.size ∧ (w5.setCell ⟨gv, j * 5 + 4, none⟩ (.slice s'.a s'.n s'.c)).cell? ⟨g, 0, none⟩ = some (.slice u.a u.n u.c) := by
  obtain ⟨s, hx, _, _⟩ := h.at_ hn hs
  rw [hj] at hx
  have hjP : j < P.length := (List.getElem?_eq_some_iff.1 hx).1
  have h5 := h.keep hb
  have hrow := h5.row.row
  obtain ⟨a, un, c⟩ := u
  simp only at hu
  subst hu
  have hun : un = P.length := erow_n hrow
  subst hun
  obtain ⟨-, C, hC, hcap, ht, hlc, hm⟩ := erow_open cp_enc hrow
  have hCj : C[j]? = some (cp (k n, s)) := taken_at ht hx
  have hC2 := hC.field j 4 _ (.slice s'.a s'.n s'.c) hCj (by decide)
  have e1 : (cp (k n, s)).set 4 (.slice s'.a s'.n s'.c) = cp ({ k n with who := W }, s') := rfl
  rw [e1] at hC2
  have hown : (Value.slice (some ⟨gv, 0, none⟩) P.length c).ownBlock = some gv := rfl
  have hlt : ∀ b, IOwn (Sl.v ⟨some ⟨gv, 0, none⟩, P.length, c⟩) P b → b < w.heap.size := fun b hb => h.row.lt b hb
  have hgv : gv < w.heap.size := hlt gv (.inl rfl)
  have hsus : susp ({ k n with who := W } : It) = true := hs
  have hrow2 : ERow cp 5 68 (w5.setCell ⟨gv, j * 5 + 4, none⟩ (.slice s'.a s'.n s'.c)) (Sl.v ⟨some ⟨gv, 0, none⟩, P.length, c⟩) (P.set j ({ k n with who := W }, s')) := by
    have := erow_close (c := cp) (L := P.set j ({ k n with who := W }, s')) hC2 (by rw [List.length_set, List.take_set, ht, List.map_set]) (by rw [List.length_set, List.length_set]; omega) (by rw [List.length_set]; omega)
    rw [List.length_set, List.length_set, hcap] at this
    exact this
  have hset : ∀ p ∈ P.set j ({ k n with who := W }, s'), p ∈ P ∨ p = ({ k n with who := W }, s') := fun p hp => List.mem_or_eq_of_mem_set hp
  have tset : Touch (fun b => b = gv) w5 (w5.setCell ⟨gv, j * 5 + 4, none⟩ (.slice s'.a s'.n s'.c)) := Touch.set (F := fun b => b = gv) (Touch.refl _ w5) (fun _ => rfl) _
  have hwho : ∀ p ∈ P.set j ({ k n with who := W }, s'), ERow c64 1 3 (w5.setCell ⟨gv, j * 5 + 4, none⟩ (.slice s'.a s'.n s'.c)) p.2.v p.1.who := fun p hp => by
    rcases hset p hp with h1 | rfl
    · exact erow_touch (h5.row.who p h1) tset (fun b hb e => by subst e; exact rows_apart hrow (h5.row.who p h1) (by decide) hown hb)
    · exact erow_touch hr tset (fun b hb e => by have := hnw b hb; omega)
  have hown' : ∀ b, IOwn (Sl.v ⟨some ⟨gv, 0, none⟩, P.length, c⟩) (P.set j ({ k n with who := W }, s')) b → IOwn (Sl.v ⟨some ⟨gv, 0, none⟩, P.length, c⟩) P b ∨ w.heap.size ≤ b := by
    rintro b (hb | ⟨p, hp, hb⟩)
    · exact .inl (.inl hb)
    · rcases hset p hp with h1 | rfl
      · exact .inl (.inr ⟨p, h1, hb⟩)
      · exact .inr (hnw b hb)
  refine ⟨⟨_, P.set j ({ k n with who := W }, s'), ⟨?_, ⟨hrow2, hwho⟩, ?_, ?_, ?_, hok⟩, ?_, ?_⟩, ?_, ?_, ?_, ?_⟩
  · exact h5.box.touch tset (fun e => h.ne gv (.inl rfl) e.symm)
  · rw [List.map_set, h.is, all_set h.ok hn hs hsus, hj]
  · intro b hb1 e
    rcases hown' b hb1 with h1 | h1
    · exact h.ne b h1 e
    · have := h.box.lt; omega
  · have hap := h.ap
    rw [List.set_eq_take_append_cons_drop, if_pos hjP]
    rw [← List.take_append_drop j P] at hap
    obtain ⟨a1, a2, a3⟩ := List.pairwise_append.1 hap
    have hdr : ∀ q, q ∈ P.drop (j + 1) → q ∈ P.drop j := fun q hq => by
      rw [List.drop_eq_getElem_cons hjP]; exact List.mem_cons_of_mem _ hq
    have old : ∀ q ∈ P, ∀ b, q.2.v.ownBlock = some b → b < w.heap.size := fun q hq b hb => hlt b (.inr ⟨q, hq, hb⟩)
    refine List.pairwise_append.2 ⟨a1, List.pairwise_cons.2 ⟨fun q hq b hb hb2 => ?_, a2.sublist (by rw [List.drop_eq_getElem_cons hjP]; exact List.sublist_cons_self _ _)⟩, fun a ha q hq => ?_⟩
    · have h1 := hnw b hb
      have h2 := old q (List.mem_of_mem_drop hq) b hb2
      omega
    · rcases List.mem_cons.1 hq with rfl | hq
      · intro b hb hb2
        have h1 := hnw b hb2
        have h2 := old a (List.mem_of_mem_take ha) b hb
        omega
      · exact a3 a ha q (hdr q hq)
  · exact (Touch.of_below _ hb).trans (tset.mono (fun b _ e => by subst e; exact Or.inr (.inl rfl))) (fun _ _ h => h)
  · rintro b (rfl | hb1)
    · exact .inl (.inl rfl)
    · exact (hown' b hb1).imp .inr id
  · exact ⟨_, hC.cell j 4 _ _ hCj rfl⟩
  · exact hC.free _
  · exact hC.lt
  · exact (h5.box.touch tset (fun e => h.ne gv (.inl rfl) e.symm)).cell 0 _ rfl
def RConfPost (g : Nat) (u : Sl) (P : List (It × Sl)) (k : Nat → It) (i inc who : Int) (w : World) (e : Ending) (w' : World) : Prop := e = .returned (.int .i64 (confE k i inc who)) ∧ RAft g u P (confD k i inc who) w w'
set_option maxHeartbeats 1600000 in
theorem rconf_arg (i inc who : Int) (g : Nat) (u : Sl) (P : List (It × Sl)) (k : Nat → It) (w : World) (h : Rs g u P k w) (hb : nodeI who = false ∨ who = i) : Calls Try.prog 12 #[.pointer (some ⟨g, 0, none⟩), .int .i64 i, .int .u32 inc, .int .i64 who] w (RConfPost g u P k i inc who w) := by
  unfold RConfPost
  have e1 := conf_arg (k := k) (inc := inc) hb
  rw [confD_no (by rw [e1]; decide), e1]
  have SAME := Lib.hid (h.same (Below.refl _ _))
  clear h e1
  by_cases c1 : who < 1
  · have d1 : decide (who < 1) = true := decide_eq_true c1
    clear hb c1
    go_enter Try.func12, Try.ntmps12
    go_wp2
    refine bodyPost_ret (v := (.int .i64 1)) (by simp [results, Try.results12, go_sem, *]) rfl ?_
    exact ⟨rfl, SAME.out⟩
  · have d1 : decide (who < 1) = false := decide_eq_false c1
    by_cases c2 : 32 < who
    · have d2 : decide (32 < who) = true := decide_eq_true c2
      clear hb c1 c2
      go_enter Try.func12, Try.ntmps12
      go_wp2
      refine bodyPost_ret (v := (.int .i64 1)) (by simp [results, Try.results12, go_sem, *]) rfl ?_
      exact ⟨rfl, SAME.out⟩
    · have d2 : decide (32 < who) = false := decide_eq_false c2
      have d3 : (who == i) = true := by
        rcases hb with hb | hb
        · rw [nodeI_iff.2 ⟨by omega, by omega⟩] at hb; simp at hb
        · exact beq_iff_eq.2 hb
      clear hb c1 c2
      go_enter Try.func12, Try.ntmps12
      go_wp2
      refine bodyPost_ret (v := (.int .i64 1)) (by simp [results, Try.results12, go_sem, *]) rfl ?_
      exact ⟨rfl, SAME.out⟩
set_option maxHeartbeats 3200000 in
theorem rconf_none (i inc who : Int) (g : Nat) (u : Sl) (P : List (It × Sl)) (k : Nat → It) (w : World) (h : Rs g u P k w) (hw : nodeI who = true) (hwi : who ≠ i) (hq : suspI k i = false ∨ (k i.toNat).inc ≠ inc) : Calls Try.prog 12 #[.pointer (some ⟨g, 0, none⟩), .int .i64 i, .int .u32 inc, .int .i64 who] w (RConfPost g u P k i inc who w) := by
  unfold RConfPost
  have e1 := conf_none (inc := inc) hw hwi hq
  rw [confD_no (by rw [e1]; decide), e1]
  have SAME := Lib.hid (fun w1 hb => h.same (w' := w1) hb)
  have hw2 := nodeI_iff.1 hw
  have d1 : decide (who < 1) = false := decide_eq_false (by omega)
  have d2 : decide (32 < who) = false := decide_eq_false (by omega)
  have d3 : (who == i) = false := beq_eq_false_iff_ne.2 hwi
  have K := find_any i g u P k w h
  cases hs : suspI k i with
  | false =>
    rw [hs] at K
    clear e1 hq hw hwi hw2 h hs
    generalize atL i (allL k) = m at *
    go_enter Try.func12, Try.ntmps12
    go_wp2_with fail
    refine K.mono ?_; rintro e w1 ⟨rfl, b1⟩
    go_wp2
    refine bodyPost_ret (v := (.int .i64 5)) (by simp [results, Try.results12, go_sem, *]) rfl ?_
    exact ⟨rfl, SAME.out _ b1⟩
  | true =>
    rw [hs] at K
    have hi := suspI_iff.1 hs
    obtain ⟨n, rfl⟩ : ∃ n : Nat, i = n := ⟨i.toNat, by omega⟩
    have hn : n < 33 := by omega
    have hne : (k n).inc ≠ inc := by
      rcases hq with h1 | h1
      · rw [hs] at h1; simp at h1
      · simpa using h1
    have d4 : ((k n).inc == inc) = false := beq_eq_false_iff_ne.2 hne
    have d5 : ((k n).inc != inc) = true := by rw [bne, d4]; rfl
    obtain ⟨s, hx, _, _⟩ := h.at_ hn hi.2.2
    have hml : atL n (allL k) < P.length := (List.getElem?_eq_some_iff.1 hx).1
    have hun := h.n
    have hp33 := h.len33
    have KX : Hid (∀ w1, Below w.heap.size w w1 → Rs g u P k w1) := fun w1 b1 => h.keep b1
    generalize atL n (allL k) = m at *
    have hm0 : (0 : Int) ≤ m := by omega
    have hm1 : (m : Int) < P.length := by omega
    obtain ⟨av, un, uc⟩ := u
    simp only at hun
    subst hun
    clear e1 hq hw hwi hw2 h hs hi hne
    go_enter Try.func12, Try.ntmps12
    go_wp2_with fail
    refine K.mono ?_; rintro e w1 ⟨rfl, b1⟩
    obtain ⟨b, hb, hbl, cc⟩ := (KX.out w1 b1).cells hx
    simp only at hb
    subst hb
    have g0 := (KX.out w1 b1).box.cell 0 _ rfl
    have gl := (KX.out w1 b1).box.lt
    have c1 := cc 1 _ rfl
    clear cc K hx
    change w1.cell? ⟨b, m * 5 + 1, none⟩ = some (.int .u32 (k n).inc) at c1
    generalize (k n).inc = y at *
    go_wp2
    refine bodyPost_ret (v := (.int .i64 5)) (by simp [results, Try.results12, go_sem, *]) rfl ?_
    exact ⟨rfl, SAME.out _ b1⟩
def KwJ (m : Nat) (w1 : World) (iv : Value) (wr : World) : Prop := ∃ i : Nat, i ≤ m ∧ iv = .int .i64 (i : Nat) ∧ wr = w1
set_option maxHeartbeats 6400000 in
set_option maxRecDepth 100000 in
theorem rconf_some (n : Nat) (who : Int) (hn : n < 33) (g : Nat) (u : Sl) (P : List (It × Sl)) (k : Nat → It) (w : World) (h : Rs g u P k w) (hw : nodeI who = true) (hwi : who ≠ n) (hs : suspI k n = true) :
    Calls Try.prog 12 #[.pointer (some ⟨g, 0, none⟩), .int .i64 n, .int .u32 (k n).inc, .int .i64 who] w (RConfPost g u P k n (k n).inc who w) := by
  unfold RConfPost
  have hw2 := nodeI_iff.1 hw
  have d1 : decide (who < 1) = false := decide_eq_false (by omega)
  have d2 : decide (32 < who) = false := decide_eq_false (by omega)
  have d3 : (who == (n : Int)) = false := beq_eq_false_iff_ne.2 hwi
  have d4 : ((k n).inc == (k n).inc) = true := by simp
  have d5 : ((k n).inc != (k n).inc) = false := by simp
  have K := find_any n g u P k w h
  rw [hs] at K
  have hsn : susp (k n) = true := by have := (suspI_iff.1 hs).2.2; rwa [Int.toNat_natCast] at this
  obtain ⟨s, hx, hsl, hrs⟩ := h.at_ hn hsn
  have hml : atL n (allL k) < P.length := (List.getElem?_eq_some_iff.1 hx).1
  have hun := h.n
  have hp33 := h.len33
  have KX : Hid (∀ w1, Below w.heap.size w w1 → Rs g u P k w1) := fun w1 b1 => h.keep b1
  have hl32 := h.ok.len n
  have hsrt := (h.ok.ok n hsn).srt
  have hEold := fun hm => conf_old (k := k) (i := n) hw hwi hs (by rw [Int.toNat_natCast]) hm
  have hEput := fun hm => conf_put (k := k) (i := n) hw hwi hs (by rw [Int.toNat_natCast]) hm
  simp only [Int.toNat_natCast] at hEold hEput
  have hok := conf_ok h.ok n (k n).inc who
  have SAME := Lib.hid (fun w1 hb => h.same (w' := w1) hb)
  obtain ⟨j, hj⟩ : ∃ j, atL n (allL k) = j := ⟨_, rfl⟩
  rw [hj] at K hx hml
  have hm0 : (0 : Int) ≤ j := by omega
  have hm1 : (j : Int) < P.length := by omega
  obtain ⟨av, un, uc⟩ := u
  simp only at hun
  subst hun
  obtain ⟨b, hb, hbl, -⟩ := h.cells hx
  simp only at hb
  subst hb
  have FINP : Hid (confE k n (k n).inc who = 0 → ∀ w1, Below w.heap.size w w1 → ∀ w5 (s' : Sl), Below w1.heap.size w1 w5 → w5.ownsRow w1.heap.size 3 1 s'.v (insW who (k n).who).length ((insW who (k n).who).map (Value.int .i64)) → RAft g ⟨some ⟨b, 0, none⟩, P.length, uc⟩ P (confD k n (k n).inc who) w (w5.setCell ⟨b, j * 5 + 4, none⟩ (.slice s'.a s'.n s'.c)) ∧ (∃ y, w5.cell? ⟨b, j * 5 + 4, none⟩ = some y) ∧ w5.frozen? ⟨b, j * 5 + 4, none⟩ = false ∧ b < w5.heap.size ∧ (w5.setCell ⟨b, j * 5 + 4, none⟩ (.slice s'.a s'.n s'.c)).cell? ⟨g, 0, none⟩ = some (.slice (some ⟨b, 0, none⟩) P.length uc)) := fun e0 w1 b1 w5 s' b5 ho => by
    have hD := confD_yes e0
    rw [Int.toNat_natCast] at hD
    rw [hD] at hok ⊢
    have hrow : ERow c64 1 3 w5 s'.v (insW who (k n).who) := by unfold ERow; rw [ci64]; exact own_zero ho
    obtain ⟨q1, q2⟩ := (h.keep b1).confirm (gv := b) hn hsn hj rfl b5 hrow (fun c hc => (World.ownsRow.lt ho c hc).1) hok
    exact ⟨q1.after b1, q2⟩
  have HW : Hid (∀ w1, Below w.heap.size w w1 → ERow c64 1 3 w1 s.v (k n).who) := fun w1 b1 => erow_keep hrs b1
  clear h hw hwi hs hw2 hsn hj
  obtain ⟨sa, sn, sc⟩ := s
  simp only at hsl
  subst hsl
  have HNIL := Lib.hid (erow_form hrs)
  clear hrs
  have cc0 : Hid (∀ w1, Below w.heap.size w w1 → w1.cell? ⟨g, 0, none⟩ = some (.slice (some ⟨b, 0, none⟩) P.length uc) ∧ g < w1.heap.size ∧ w1.cell? ⟨b, j * 5 + 1, none⟩ = some (.int .u32 (k n).inc) ∧ w1.cell? ⟨b, j * 5 + 4, none⟩ = some (.slice sa (k n).who.length sc)) := fun w1 b1 => by
    obtain ⟨b', hb', _, cc⟩ := (KX.out w1 b1).cells hx
    simp only [Option.some.injEq, Addr.mk.injEq, and_true] at hb'
    subst hb'
    exact ⟨(KX.out w1 b1).box.cell 0 _ rfl, (KX.out w1 b1).box.lt, cc 1 _ rfl, cc 4 _ rfl⟩
  by_cases hm : who ∈ (k n).who
  · have e6 := hEold hm
    rw [confD_no (by rw [e6]; decide), e6]
    have hml2 := (mem_cnt hsrt).1 hm
    obtain ⟨gs, rfl⟩ : ∃ gs, sa = some ⟨gs, 0, none⟩ := by
      rcases HNIL.out with ⟨h1, h2⟩ | ⟨gs, cap, h1, _⟩
      · rw [h2] at hm; simp at hm
      · simp only [Sl.v, Value.slice.injEq] at h1; exact ⟨gs, h1.1⟩
    have CELLS : Hid (∀ w1, Below w.heap.size w w1 → ∀ t, t < (k n).who.length → w1.cell? ⟨gs, t, none⟩ = some (.int .i64 ((k n).who.getD t 0))) := fun w1 b1 t ht => by
      have := erow_cells (HW.out w1 b1) t ht
      rwa [Nat.zero_add] at this
    have LTW := Lib.hid (fun (t : Nat) (ht : t < cntW who (k n).who) => cnt_lt (x := who) (l := (k n).who) (j := t) (y := (k n).who.getD t 0) (by rw [List.getD_eq_getElem?_getD, List.getElem?_eq_getElem (Nat.lt_of_lt_of_le ht (cnt_le _ _))]; rfl) ht)
    have hmlt : cntW who (k n).who < (k n).who.length := (List.getElem?_eq_some_iff.1 hml2).1
    have hmeq : (k n).who.getD (cntW who (k n).who) 0 = who := by rw [List.getD_eq_getElem?_getD, hml2]; rfl
    clear FINP HNIL hEput hEold e6 hm hml2 hok hsrt HW
    generalize (k n).inc = y at *
    generalize (k n).who = l at *
    generalize cntW who l = m at *
    have hmlt2 : (m : Int) < l.length := by omega
    have CM : Hid (∀ w1, Below w.heap.size w w1 → w1.cell? ⟨gs, m, none⟩ = some (.int .i64 who)) := fun w1 b1 => by rw [CELLS.out w1 b1 m hmlt, hmeq]
    have q1 : decide (who < who) = false := decide_eq_false (by omega)
    clear hmeq
    go_enter Try.func12, Try.ntmps12
    go_wp2_with fail
    refine K.mono ?_; rintro e w1 ⟨rfl, b1⟩
    obtain ⟨g0, gl, c1, c4⟩ := cc0.out w1 b1
    have HB1 := Lib.hid b1
    clear K b1 cc0 KX
    go_wp2_with fail
    go_loopw [12] (fun iv wr => KwJ m w1 iv wr) (fun iv _ => m + 1 - (intOf iv).toNat)
    case atStart => exact ⟨0, Nat.zero_le _, rfl, rfl⟩
    case round =>
      obtain ⟨t, ht, rfl, rfl⟩ := hrel
      have ht0 : (0 : Int) ≤ t := by omega
      by_cases hlt : t < m
      · have c := CELLS.out wr HB1.out t (by omega)
        have hd := LTW.out t hlt
        have hd2 : decide (l.getD t 0 < who) = true := decide_eq_true hd
        have htl : (t : Int) < l.length := by omega
        generalize l.getD t 0 = z at *
        clear hd
        go_wp2
        go_roundw
        case rel => exact ⟨t + 1, hlt, by go_num, rfl⟩
        case measure => simp [intOf]; omega
      · obtain rfl : t = m := by omega
        have c := CM.out wr HB1.out
        clear hlt
        go_wp2
        refine bodyPost_ret (v := (.int .i64 6)) (by simp [results, Try.results12, go_sem, *]) rfl ?_
        exact ⟨rfl, SAME.out _ HB1.out⟩
  · have e0 := hEput hm
    have FIN := Lib.hid (FINP.out e0)
    rw [e0]
    have hml2 : ¬ (k n).who[cntW who (k n).who]? = some who := fun e => hm ((mem_cnt hsrt).2 e)
    have INS : Hid (insW who (k n).who = (k n).who.take (cntW who (k n).who) ++ who :: (k n).who.drop (cntW who (k n).who)) := rfl
    have INL := Lib.hid (ins_len who (k n).who)
    obtain ⟨i1, hi1', hy0, hy1, hy2⟩ := info_parts info_int
    rcases HNIL.out with ⟨h1, h2⟩ | ⟨gs, cap, h1, _⟩
    · simp only [Sl.v, Value.slice.injEq] at h1
      obtain ⟨rfl, -, rfl⟩ := h1
      have hins : insW who (k n).who = [who] := by rw [INS.out, h2]; rfl
      rw [hins] at FIN
      rw [h2] at cc0
      simp only [List.map_cons, List.map_nil, List.length_cons, List.length_nil, Nat.zero_add] at FIN cc0
      clear FINP HNIL hEput hEold e0 hm hml2 hok hsrt HW INS INL hins h2 SAME hl32
      generalize confD k n (k n).inc who = k' at *
      generalize (k n).inc = y at *
      go_enter Try.func12, Try.ntmps12
      go_wp2_with fail
      refine K.mono ?_; rintro e w1 ⟨rfl, b1⟩
      obtain ⟨g0, gl, c1, c4⟩ := cc0.out w1 b1
      have HB1 := Lib.hid b1
      clear K b1 KX
      go_wp2_with fail
      go_loopw [12] (fun iv wr => KwJ 0 w1 iv wr) (fun iv _ => 1 - (intOf iv).toNat)
      case atStart => exact ⟨0, Nat.zero_le _, rfl, rfl⟩
      case round =>
        obtain ⟨t, ht, rfl, rfl⟩ := hrel
        obtain rfl : t = 0 := by omega
        go_wp2_with (at_builtin; first | (refine wpList_append_own_none rfl (.tmp 79) (.tmp 82) 51 rfl wr.heap.size 3 i1 1 Try.underlying51 hi1' (.slice none 0 0) 0 [] rfl (World.ownsRow_nil _ _ _ _) rfl ?_) | (refine wpList_append_own _ rfl (.tmp 84) (.tmp 86) 51 rfl wr.heap.size 3 i1 _ 1 8 Try.underlying51 hi1' hy0 hy1 hy2 rfl (by omega) (.slice none 0 0) 0 [] rfl (World.ownsRow_nil _ _ _ _) ⟨_, 0, none⟩ 1 1 [.int .i64 who] rfl rfl (World.news_of_block (cs := #[.int .i64 who]) (t := 3) (fr := (0, 0)) (heap_alloc_new _ _)) (by simp [Value.oneCell']) (by unfold maxLen; omega) (by omega) (by simp) ?_))
        intro v2 w4 hown hgrow _
        have B4 : Hid (Below wr.heap.size wr w4) := ((Below.refl _ wr).alloc (Nat.le_refl _) _).grown hgrow (by simp) (fun k hk => by simp [Value.ownBlock] at hk)
        have OWN4 := Lib.hid hown
        obtain ⟨g0', gl', c1', c4'⟩ := cc0.out w4 (HB1.out.trans (B4.out.mono HB1.out.size))
        clear hown hgrow g0 gl c1 c4
        obtain ⟨⟨sa, sn, sc⟩, hv⟩ := sl_of OWN4.out
        obtain rfl : v2 = .slice sa sn sc := hv
        go_wp2_with fail
        refine wp_region_held_drew (S := fun w' => w'.cell? ⟨g, 0, none⟩ = some (.slice (some ⟨b, 0, none⟩) P.length uc)) (by kernel_rfl) (show w4.drew.cell? _ = _ from g0') (fun hHeld => ?_)
        refine wpAnyH_take (i := 0) (v := ?_) rfl (by kernel_rfl) (by kernel_rfl) (by kernel_rfl) (fun _ _ _ h => h) (Or.inl ⟨by rfl, ?_⟩) (by assumption) ?_; rotate_left 1; (focus (intro w hSw; (try dsimp only at hSw); go_simp; (try with_reducible rfl))); (try simp only [Act.put, List.setIfInBounds_toArray, List.set_cons_zero, List.set_cons_succ]); try simp only [Act.put, List.getElem_toArray, List.getElem_cons_zero, List.getElem_cons_succ, List.setIfInBounds_toArray, List.set_cons_zero, List.set_cons_succ]
        refine wpAnyH_take (i := 1) (v := ?_) rfl (by kernel_rfl) (by kernel_rfl) (by kernel_rfl) (fun _ _ _ h => h) (Or.inl ⟨by rfl, ?_⟩) (by assumption) ?_; rotate_left 1; (focus (intro w hSw; (try dsimp only at hSw); go_simp; (try with_reducible rfl))); (try simp only [Act.put, List.setIfInBounds_toArray, List.set_cons_zero, List.set_cons_succ]); try simp only [Act.put, List.getElem_toArray, List.getElem_cons_zero, List.getElem_cons_succ, List.setIfInBounds_toArray, List.set_cons_zero, List.set_cons_succ]
        refine wpAnyH_take (i := 2) (v := ?_) rfl (by kernel_rfl) (by kernel_rfl) (by kernel_rfl) (fun _ _ _ h => h) (Or.inl ⟨by rfl, ?_⟩) (by assumption) ?_; rotate_left 1; (focus (intro w hSw; (try dsimp only at hSw); go_simp; (try with_reducible rfl))); (try simp only [Act.put, List.setIfInBounds_toArray, List.set_cons_zero, List.set_cons_succ]); try simp only [Act.put, List.getElem_toArray, List.getElem_cons_zero, List.getElem_cons_succ, List.setIfInBounds_toArray, List.set_cons_zero, List.set_cons_succ]
        refine wpAnyH_take (i := 4) (v := ?_) rfl (by kernel_rfl) (by kernel_rfl) (by kernel_rfl) (fun _ _ _ h => h) (Or.inl ⟨by rfl, ?_⟩) (by assumption) ?_; rotate_left 1; (focus (intro w hSw; (try dsimp only at hSw); go_simp; (try with_reducible rfl))); (try simp only [Act.put, List.setIfInBounds_toArray, List.set_cons_zero, List.set_cons_succ]); try simp only [Act.put, List.getElem_toArray, List.getElem_cons_zero, List.getElem_cons_succ, List.setIfInBounds_toArray, List.set_cons_zero, List.set_cons_succ]
        refine wpAnyH_take (i := 5) (v := ?_) rfl (by kernel_rfl) (by kernel_rfl) (by kernel_rfl) (fun _ _ _ h => h) (Or.inl ⟨by rfl, ?_⟩) (by assumption) ?_; rotate_left 1; (focus (intro w hSw; (try dsimp only at hSw); go_simp; (try with_reducible rfl))); (try simp only [Act.put, List.setIfInBounds_toArray, List.set_cons_zero, List.set_cons_succ]); try simp only [Act.put, List.getElem_toArray, List.getElem_cons_zero, List.getElem_cons_succ, List.setIfInBounds_toArray, List.set_cons_zero, List.set_cons_succ]
        refine wpAnyH_take (i := 6) (v := ?_) rfl (by kernel_rfl) (by kernel_rfl) (by kernel_rfl) (fun _ _ _ h => h) (Or.inl ⟨by rfl, ?_⟩) (by assumption) ?_; rotate_left 1; (focus (intro w hSw; (try dsimp only at hSw); go_simp; (try with_reducible rfl))); (try simp only [Act.put, List.setIfInBounds_toArray, List.set_cons_zero, List.set_cons_succ]); try simp only [Act.put, List.getElem_toArray, List.getElem_cons_zero, List.getElem_cons_succ, List.setIfInBounds_toArray, List.set_cons_zero, List.set_cons_succ]
        refine wpAnyH_take (i := 7) (v := ?_) rfl (by kernel_rfl) (by kernel_rfl) (by kernel_rfl) (fun _ _ _ h => h) (Or.inl ⟨by rfl, ?_⟩) (by assumption) ?_; rotate_left 1; (focus (intro w hSw; (try dsimp only at hSw); go_simp; (try with_reducible rfl))); (try simp only [Act.put, List.setIfInBounds_toArray, List.set_cons_zero, List.set_cons_succ]); try simp only [Act.put, List.getElem_toArray, List.getElem_cons_zero, List.getElem_cons_succ, List.setIfInBounds_toArray, List.set_cons_zero, List.set_cons_succ]
        refine wpAnyH_take (i := 8) (v := ?_) rfl (by kernel_rfl) (by kernel_rfl) (by kernel_rfl) (fun _ _ _ h => h) (Or.inl ⟨by rfl, ?_⟩) (by assumption) ?_; rotate_left 1; (focus (intro w hSw; (try dsimp only at hSw); go_simp; (try with_reducible rfl))); (try simp only [Act.put, List.setIfInBounds_toArray, List.set_cons_zero, List.set_cons_succ]); try simp only [Act.put, List.getElem_toArray, List.getElem_cons_zero, List.getElem_cons_succ, List.setIfInBounds_toArray, List.set_cons_zero, List.set_cons_succ]
        refine wpAnyH_ready (rs := [3, 9]) (by kernel_rfl) (by simp) ?_
        refine AllReadyH.cons rfl (fun K hK => ?_) (AllReadyH.cons rfl (fun K hK => ?_) AllReadyH.nil)
        · go_simp
          refine hK.out _ _ (show w4.drew.cell? _ = _ from g0') (fun hHeld => ?_); clear hK K
          refine wpAnyH_ready (rs := [9]) (by kernel_rfl) (by simp) ?_
          refine AllReadyH.cons rfl (fun K hK => ?_) AllReadyH.nil
          refine step_append_part _ (by rfl) (.tmp 93) (.tmp 96) 51 (by rfl) wr.heap.size 3 i1 _ 1 8 Try.underlying51 hi1' hy0 hy1 hy2 rfl (by omega) (.slice sa sn sc) (1) ([.int .i64 who]) (by rfl) OWN4.out (none) (0) (0) (([] : List Int).map (Value.int .i64)) (by rfl) (by rfl) (fun ad e => by cases e) (ints_one .i64 _) (fun _ => ⟨rfl, rfl⟩) (by unfold maxLen; omega) (by omega) B4.out.size ?_
          intro v5 w5 hown5 hg5
          have B5 : Hid (Below wr.heap.size wr w5) := (by first | exact Below.grown B4.out.drew hg5 B4.out.drew.size (fun c hc => (World.ownsRow.lt OWN4.out c hc).1) | exact Below.grown B4.out hg5 B4.out.size (fun c hc => (World.ownsRow.lt OWN4.out c hc).1))
          obtain ⟨⟨s5, n5, e5⟩, hv5⟩ := sl_of hown5
          obtain rfl : v5 = .slice s5 n5 e5 := hv5
          obtain ⟨F5, ⟨y5, z5⟩, f5, gvl, gz5⟩ := FIN.out wr HB1.out w5 ⟨s5, n5, e5⟩ B5.out (by simpa [Sl.v] using hown5)
          replace F5 := Lib.hid F5
          obtain ⟨g05, gl5, -, -⟩ := cc0.out w5 (HB1.out.trans (B5.out.mono HB1.out.size))
          clear hown5 hg5
          refine hK.out _ _ g05 (fun hHeld => ?_); clear hK K
          refine wpAnyH_take (i := 10) (v := ?_) rfl (by kernel_rfl) (by kernel_rfl) (by kernel_rfl) (fun _ _ _ h => h) (Or.inl ⟨by rfl, ?_⟩) (by assumption) ?_; rotate_left 1; (focus (intro w hSw; (try dsimp only at hSw); go_simp; (try with_reducible rfl))); (try simp only [Act.put, List.setIfInBounds_toArray, List.set_cons_zero, List.set_cons_succ]); try simp only [Act.put, List.getElem_toArray, List.getElem_cons_zero, List.getElem_cons_succ, List.setIfInBounds_toArray, List.set_cons_zero, List.set_cons_succ]
          refine wpAnyH_take (i := 11) (v := ?_) rfl (by kernel_rfl) (by kernel_rfl) (by kernel_rfl) (fun _ _ _ h => h) (Or.inl ⟨by rfl, ?_⟩) (by assumption) ?_; rotate_left 1; (focus (intro w hSw; (try dsimp only at hSw); go_simp; (try with_reducible rfl))); (try simp only [Act.put, List.setIfInBounds_toArray, List.set_cons_zero, List.set_cons_succ]); try simp only [Act.put, List.getElem_toArray, List.getElem_cons_zero, List.getElem_cons_succ, List.setIfInBounds_toArray, List.set_cons_zero, List.set_cons_succ]
          refine wpAnyH_ready (rs := [12]) (by kernel_rfl) (by simp) ?_
          refine AllReadyH.cons rfl (fun K hK => ?_) AllReadyH.nil
          go_simp
          refine hK.out _ _ gz5 (fun hHeld => ?_); clear hK K
          refine wpAnyH_done (by kernel_rfl) ?_ _
          go_wp2
          refine bodyPost_ret (v := (.int .i64 0)) (by simp [results, Try.results12, go_sem, *]) rfl ?_
          exact ⟨rfl, F5.out⟩
        · refine step_append_part _ (by rfl) (.tmp 93) (.tmp 96) 51 (by rfl) wr.heap.size 3 i1 _ 1 8 Try.underlying51 hi1' hy0 hy1 hy2 rfl (by omega) (.slice sa sn sc) (1) ([.int .i64 who]) (by rfl) OWN4.out (none) (0) (0) (([] : List Int).map (Value.int .i64)) (by rfl) (by rfl) (fun ad e => by cases e) (ints_one .i64 _) (fun _ => ⟨rfl, rfl⟩) (by unfold maxLen; omega) (by omega) B4.out.size ?_
          intro v5 w5 hown5 hg5
          have B5 : Hid (Below wr.heap.size wr w5) := (by first | exact Below.grown B4.out.drew hg5 B4.out.drew.size (fun c hc => (World.ownsRow.lt OWN4.out c hc).1) | exact Below.grown B4.out hg5 B4.out.size (fun c hc => (World.ownsRow.lt OWN4.out c hc).1))
          obtain ⟨⟨s5, n5, e5⟩, hv5⟩ := sl_of hown5
          obtain rfl : v5 = .slice s5 n5 e5 := hv5
          obtain ⟨F5, ⟨y5, z5⟩, f5, gvl, gz5⟩ := FIN.out wr HB1.out w5 ⟨s5, n5, e5⟩ B5.out (by simpa [Sl.v] using hown5)
          replace F5 := Lib.hid F5
          obtain ⟨g05, gl5, -, -⟩ := cc0.out w5 (HB1.out.trans (B5.out.mono HB1.out.size))
          clear hown5 hg5
          refine hK.out _ _ g05 (fun hHeld => ?_); clear hK K
          refine wpAnyH_ready (rs := [3]) (by kernel_rfl) (by simp) ?_
          refine AllReadyH.cons rfl (fun K hK => ?_) AllReadyH.nil
          go_simp
          refine hK.out _ _ g05 (fun hHeld => ?_); clear hK K
          refine wpAnyH_take (i := 10) (v := ?_) rfl (by kernel_rfl) (by kernel_rfl) (by kernel_rfl) (fun _ _ _ h => h) (Or.inl ⟨by rfl, ?_⟩) (by assumption) ?_; rotate_left 1; (focus (intro w hSw; (try dsimp only at hSw); go_simp; (try with_reducible rfl))); (try simp only [Act.put, List.setIfInBounds_toArray, List.set_cons_zero, List.set_cons_succ]); try simp only [Act.put, List.getElem_toArray, List.getElem_cons_zero, List.getElem_cons_succ, List.setIfInBounds_toArray, List.set_cons_zero, List.set_cons_succ]
          refine wpAnyH_take (i := 11) (v := ?_) rfl (by kernel_rfl) (by kernel_rfl) (by kernel_rfl) (fun _ _ _ h => h) (Or.inl ⟨by rfl, ?_⟩) (by assumption) ?_; rotate_left 1; (focus (intro w hSw; (try dsimp only at hSw); go_simp; (try with_reducible rfl))); (try simp only [Act.put, List.setIfInBounds_toArray, List.set_cons_zero, List.set_cons_succ]); try simp only [Act.put, List.getElem_toArray, List.getElem_cons_zero, List.getElem_cons_succ, List.setIfInBounds_toArray, List.set_cons_zero, List.set_cons_succ]
          refine wpAnyH_ready (rs := [12]) (by kernel_rfl) (by simp) ?_
          refine AllReadyH.cons rfl (fun K hK => ?_) AllReadyH.nil
          go_simp
          refine hK.out _ _ gz5 (fun hHeld => ?_); clear hK K
          refine wpAnyH_done (by kernel_rfl) ?_ _
          go_wp2
          refine bodyPost_ret (v := (.int .i64 0)) (by simp [results, Try.results12, go_sem, *]) rfl ?_
          exact ⟨rfl, F5.out⟩
    · simp only [Sl.v, Value.slice.injEq] at h1
      obtain ⟨rfl, -, rfl⟩ := h1
      have hml := cnt_le who (k n).who
      have CELLS : Hid (∀ w1, Below w.heap.size w w1 → ∀ t, t < (k n).who.length → w1.cell? ⟨gs, t, none⟩ = some (.int .i64 ((k n).who.getD t 0))) := fun w1 b1 t ht => by
        have := erow_cells (HW.out w1 b1) t ht
        rwa [Nat.zero_add] at this
      have LTW := Lib.hid (fun (t : Nat) (ht : t < cntW who (k n).who) => cnt_lt (x := who) (l := (k n).who) (j := t) (y := (k n).who.getD t 0) (by rw [List.getD_eq_getElem?_getD, List.getElem?_eq_getElem (Nat.lt_of_lt_of_le ht (cnt_le _ _))]; rfl) ht)
      have GEW : Hid (cntW who (k n).who < (k n).who.length → who < (k n).who.getD (cntW who (k n).who) 0) := fun ht => by
        have hx1 : (k n).who[cntW who (k n).who]? = some ((k n).who.getD (cntW who (k n).who) 0) := by rw [List.getD_eq_getElem?_getD, List.getElem?_eq_getElem ht]; rfl
        have h3 := cnt_ge hsrt hx1 (Nat.le_refl _)
        have h4 : (k n).who.getD (cntW who (k n).who) 0 ≠ who := fun e => by rw [e] at hx1; exact hml2 hx1
        omega
      have hlsc : Hid ((k n).who.length ≤ sc) := by
        obtain ⟨-, C, hC, hcap, ht, hlc, hm⟩ := erow_open c64_enc (HW.out w (Below.refl _ _))
        exact hlc
      have HCL := Lib.hid (fun w1 b1 => erow_cells (HW.out w1 b1))
      clear FINP HNIL hEput hEold e0 hm hml2 hok hsrt HW SAME
      generalize confD k n (k n).inc who = k' at *
      generalize (k n).inc = y at *
      generalize hLL : insW who (k n).who = L' at *
      generalize (k n).who = l at *
      generalize cntW who l = m at *
      clear hLL
      have hmc : m ≤ sc := by have := hlsc.out; omega
      have hmc2 : (m : Int) ≤ sc := by omega
      have hml3 : (m : Int) ≤ l.length := by omega
      have hl33 : (l.length : Int) ≤ 32 := by omega
      obtain ⟨ad, hadq, hadn⟩ : ∃ ad : Addr, some ad = (if sc = m then some ⟨gs, 0, none⟩ else some ⟨gs, m, none⟩) ∧ (¬ sc = m → ad = ⟨gs, m, none⟩) := by
        split
        · rename_i h0; exact ⟨_, rfl, fun h => absurd h0 h⟩
        · exact ⟨_, rfl, fun _ => rfl⟩
      have hif : (if sc = m then some (⟨gs, 0, none⟩ : Addr) else some ⟨gs, m, none⟩) = some ad := hadq.symm
      have R1 : Hid (∀ w1, Below w.heap.size w w1 → ∀ t v, ((l.take m).map (Value.int .i64))[t]? = some v → w1.cell? ((⟨gs, 0, none⟩ : Addr).add t) = some v) := fun w1 b1 t v hv => by
        rw [List.getElem?_map, List.getElem?_take] at hv
        split at hv
        · rename_i htm
          have htl : t < l.length := by omega
          rw [add_at, HCL.out w1 b1 t htl]
          rw [List.getElem?_eq_getElem htl] at hv
          rw [← hv, List.getD_eq_getElem?_getD, List.getElem?_eq_getElem htl]; rfl
        · cases hv
      have R2 : Hid (∀ w1, Below w.heap.size w w1 → ∀ a', some ad = some a' → ∀ t v, ((l.drop m).map (Value.int .i64))[t]? = some v → w1.cell? (a'.add t) = some v) := fun w1 b1 a' ha' t v hv => by
        obtain rfl : ad = a' := by injection ha'
        rw [List.getElem?_map, List.getElem?_drop] at hv
        have htl : m + t < l.length := by
          rcases Nat.lt_or_ge (m + t) l.length with h5 | h5
          · exact h5
          · rw [List.getElem?_eq_none h5] at hv; cases hv
        have hne : ¬ sc = m := by have := hlsc.out; omega
        rw [hadn hne, add_at]
        have h6 := HCL.out w1 b1 (m + t) htl
        rw [Nat.zero_add] at h6
        rw [h6]
        rw [List.getElem?_eq_getElem htl] at hv
        rw [← hv, List.getD_eq_getElem?_getD, List.getElem?_eq_getElem htl]; rfl
      have f1 : Hid (((l.take m).map (Value.int .i64)).length = m * 1) := by show _ = _; rw [List.length_map, List.length_take]; omega
      have f2 : Hid (((l.drop m).map (Value.int .i64)).length = (l.length - m) * 1) := by show _ = _; rw [List.length_map, List.length_drop]; omega
      have hmap : Hid (L'.map (Value.int .i64) = ((l.take m).map (Value.int .i64) ++ [Value.int .i64 who]) ++ (l.drop m).map (Value.int .i64)) := by show _ = _; rw [INS.out]; simp
      have hLn : Hid (L'.length = m + 1 + (l.length - m)) := by show _ = _; rw [INL.out]; omega
      clear hadq hadn
      go_enter Try.func12, Try.ntmps12
      go_wp2_with fail
      refine K.mono ?_; rintro e w1 ⟨rfl, b1⟩
      obtain ⟨g0, gl, c1, c4⟩ := cc0.out w1 b1
      have HB1 := Lib.hid b1
      clear K b1 KX
      go_wp2_with fail
      go_loopw [12] (fun iv wr => KwJ m w1 iv wr) (fun iv _ => m + 1 - (intOf iv).toNat)
      case atStart => exact ⟨0, Nat.zero_le _, rfl, rfl⟩
      case round =>
        obtain ⟨t, ht, rfl, rfl⟩ := hrel
        have ht0 : (0 : Int) ≤ t := by omega
        by_cases hlt : t < m
        · have c := CELLS.out wr HB1.out t (by omega)
          have hd := LTW.out t hlt
          have hd2 : decide (l.getD t 0 < who) = true := decide_eq_true hd
          have htl : (t : Int) < l.length := by omega
          generalize l.getD t 0 = z at *
          clear hd
          go_wp2
          go_roundw
          case rel => exact ⟨t + 1, hlt, by go_num, rfl⟩
          case measure => simp [intOf]; omega
        · obtain rfl : t = m := by omega
          clear hlt
          have hz : ∃ z, (t < l.length → wr.cell? ⟨gs, t, none⟩ = some (.int .i64 z) ∧ who < z) := by
            by_cases h7 : t < l.length
            · exact ⟨l.getD t 0, fun _ => ⟨CELLS.out wr HB1.out t h7, GEW.out h7⟩⟩
            · exact ⟨0, fun h8 => absurd h8 h7⟩
          obtain ⟨z, hz⟩ := hz
          by_cases h7 : t < l.length
          · obtain ⟨cz, hz2⟩ := hz h7
            have q1 : decide (z < who) = false := decide_eq_false (by omega)
            have q2 : (z == who) = false := by rw [beq_eq_false_iff_ne]; omega
            have q3 : ¬ z = who := by omega
            have h8 : (t : Int) < l.length := by omega
            clear hz hz2
            generalize hN1 : (l.take t).map (Value.int .i64) = N1 at *
            generalize hN2 : (l.drop t).map (Value.int .i64) = N2 at *
            have HN1 : Hid (∀ v ∈ N1, v.oneCell' = true) := by show ∀ v ∈ N1, _; rw [← hN1]; exact ints_one .i64 _
            have HN2 : Hid (∀ v ∈ N2, v.oneCell' = true) := by show ∀ v ∈ N2, _; rw [← hN2]; exact ints_one .i64 _
            clear hN1 hN2
            have Z0 := Lib.hid (R1.out wr HB1.out)
            go_wp2_with (at_builtin; refine wpList_append_own _ rfl (.tmp 79) (.tmp 82) 51 rfl wr.heap.size 3 i1 _ 1 8 Try.underlying51 hi1' hy0 hy1 hy2 rfl (by omega) (.slice none 0 0) 0 [] rfl (World.ownsRow_nil _ _ _ _) ⟨gs, 0, none⟩ t sc N1 rfl f1.out Z0.out HN1.out (by unfold maxLen; omega) (by omega) (Nat.le_refl _) ?_)
            intro v1 w3 hown hgrow _
            have B3 : Hid (Below wr.heap.size wr w3) := (Below.refl _ wr).grown hgrow (Nat.le_refl _) (fun k hk => by simp [Value.ownBlock] at hk)
            have OWN := Lib.hid hown
            have OW3 : Hid (∀ o, (w3.alloc o).ownsRow wr.heap.size 3 1 v1 t N1) := fun o => own_touch (F := fun _ => False) (by simpa using OWN.out) ((Touch.refl _ _).alloc _) (fun _ _ h => h)
            clear hown hgrow Z0
            go_wp2_with (at_builtin; refine wpList_append_own _ rfl (.tmp 84) (.tmp 86) 51 rfl wr.heap.size 3 i1 _ 1 8 Try.underlying51 hi1' hy0 hy1 hy2 rfl (by omega) v1 t N1 rfl (OW3.out _) ⟨_, 0, none⟩ 1 1 [.int .i64 who] rfl rfl (World.news_of_block (cs := #[.int .i64 who]) (t := 3) (fr := (0, 0)) (heap_alloc_new _ _)) (by simp [Value.oneCell']) (by unfold maxLen; omega) (by omega) (by have := B3.out.size; simp; omega) ?_)
            intro v2 w4 hown hgrow _
            have B4 : Hid (Below wr.heap.size wr w4) := (B3.out.alloc B3.out.size _).grown hgrow (by have := B3.out.size; simp; omega) (fun k hk => (World.ownsRow.lt OWN.out k hk).1)
            have OWN4 := Lib.hid hown
            obtain ⟨g0', gl', c1', c4'⟩ := cc0.out w4 (HB1.out.trans (B4.out.mono HB1.out.size))
            clear hown hgrow g0 gl c1 c4 OW3
            obtain ⟨⟨sa, sn, sc2⟩, hv⟩ := sl_of OWN4.out
            obtain rfl : v2 = .slice sa sn sc2 := hv
            have RR2 : Hid (∀ a', some ad = some a' → ∀ t v, N2[t]? = some v → w4.cell? (a'.add t) = some v) := R2.out w4 (HB1.out.trans (B4.out.mono HB1.out.size))
            go_wp2_with fail
            refine wp_region_held_drew (S := fun w' => w'.cell? ⟨g, 0, none⟩ = some (.slice (some ⟨b, 0, none⟩) P.length uc)) (by kernel_rfl) (show w4.drew.cell? _ = _ from g0') (fun hHeld => ?_)
            refine wpAnyH_take (i := 0) (v := ?_) rfl (by kernel_rfl) (by kernel_rfl) (by kernel_rfl) (fun _ _ _ h => h) (Or.inl ⟨by rfl, ?_⟩) (by assumption) ?_; rotate_left 1; (focus (intro w hSw; (try dsimp only at hSw); go_simp; (try with_reducible rfl))); (try simp only [Act.put, List.setIfInBounds_toArray, List.set_cons_zero, List.set_cons_succ]); try simp only [Act.put, List.getElem_toArray, List.getElem_cons_zero, List.getElem_cons_succ, List.setIfInBounds_toArray, List.set_cons_zero, List.set_cons_succ]
            refine wpAnyH_take (i := 1) (v := ?_) rfl (by kernel_rfl) (by kernel_rfl) (by kernel_rfl) (fun _ _ _ h => h) (Or.inl ⟨by rfl, ?_⟩) (by assumption) ?_; rotate_left 1; (focus (intro w hSw; (try dsimp only at hSw); go_simp; (try with_reducible rfl))); (try simp only [Act.put, List.setIfInBounds_toArray, List.set_cons_zero, List.set_cons_succ]); try simp only [Act.put, List.getElem_toArray, List.getElem_cons_zero, List.getElem_cons_succ, List.setIfInBounds_toArray, List.set_cons_zero, List.set_cons_succ]
            refine wpAnyH_take (i := 2) (v := ?_) rfl (by kernel_rfl) (by kernel_rfl) (by kernel_rfl) (fun _ _ _ h => h) (Or.inl ⟨by rfl, ?_⟩) (by assumption) ?_; rotate_left 1; (focus (intro w hSw; (try dsimp only at hSw); go_simp; (try with_reducible rfl))); (try simp only [Act.put, List.setIfInBounds_toArray, List.set_cons_zero, List.set_cons_succ]); try simp only [Act.put, List.getElem_toArray, List.getElem_cons_zero, List.getElem_cons_succ, List.setIfInBounds_toArray, List.set_cons_zero, List.set_cons_succ]
            refine wpAnyH_take (i := 4) (v := ?_) rfl (by kernel_rfl) (by kernel_rfl) (by kernel_rfl) (fun _ _ _ h => h) (Or.inl ⟨by rfl, ?_⟩) (by assumption) ?_; rotate_left 1; (focus (intro w hSw; (try dsimp only at hSw); go_simp; (try with_reducible rfl))); (try simp only [Act.put, List.setIfInBounds_toArray, List.set_cons_zero, List.set_cons_succ]); try simp only [Act.put, List.getElem_toArray, List.getElem_cons_zero, List.getElem_cons_succ, List.setIfInBounds_toArray, List.set_cons_zero, List.set_cons_succ]
            refine wpAnyH_take (i := 5) (v := ?_) rfl (by kernel_rfl) (by kernel_rfl) (by kernel_rfl) (fun _ _ _ h => h) (Or.inl ⟨by rfl, ?_⟩) (by assumption) ?_; rotate_left 1; (focus (intro w hSw; (try dsimp only at hSw); go_simp; (try with_reducible rfl))); (try simp only [Act.put, List.setIfInBounds_toArray, List.set_cons_zero, List.set_cons_succ]); try simp only [Act.put, List.getElem_toArray, List.getElem_cons_zero, List.getElem_cons_succ, List.setIfInBounds_toArray, List.set_cons_zero, List.set_cons_succ]
            refine wpAnyH_take (i := 6) (v := ?_) rfl (by kernel_rfl) (by kernel_rfl) (by kernel_rfl) (fun _ _ _ h => h) (Or.inl ⟨by rfl, ?_⟩) (by assumption) ?_; rotate_left 1; (focus (intro w hSw; (try dsimp only at hSw); go_simp; (try with_reducible rfl))); (try simp only [Act.put, List.setIfInBounds_toArray, List.set_cons_zero, List.set_cons_succ]); try simp only [Act.put, List.getElem_toArray, List.getElem_cons_zero, List.getElem_cons_succ, List.setIfInBounds_toArray, List.set_cons_zero, List.set_cons_succ]
            refine wpAnyH_take (i := 7) (v := ?_) rfl (by kernel_rfl) (by kernel_rfl) (by kernel_rfl) (fun _ _ _ h => h) (Or.inl ⟨by rfl, ?_⟩) (by assumption) ?_; rotate_left 1; (focus (intro w hSw; (try dsimp only at hSw); go_simp; (try with_reducible rfl))); (try simp only [Act.put, List.setIfInBounds_toArray, List.set_cons_zero, List.set_cons_succ]); try simp only [Act.put, List.getElem_toArray, List.getElem_cons_zero, List.getElem_cons_succ, List.setIfInBounds_toArray, List.set_cons_zero, List.set_cons_succ]
            refine wpAnyH_take (i := 8) (v := ?_) rfl (by kernel_rfl) (by kernel_rfl) (by kernel_rfl) (fun _ _ _ h => h) (Or.inl ⟨by rfl, ?_⟩) (by assumption) ?_; rotate_left 1; (focus (intro w hSw; (try dsimp only at hSw); go_simp; (try with_reducible rfl))); (try simp only [Act.put, List.setIfInBounds_toArray, List.set_cons_zero, List.set_cons_succ]); try simp only [Act.put, List.getElem_toArray, List.getElem_cons_zero, List.getElem_cons_succ, List.setIfInBounds_toArray, List.set_cons_zero, List.set_cons_succ]
            refine wpAnyH_ready (rs := [3, 9]) (by kernel_rfl) (by simp) ?_
            refine AllReadyH.cons rfl (fun K hK => ?_) (AllReadyH.cons rfl (fun K hK => ?_) AllReadyH.nil)
            · go_simp
              refine hK.out _ _ (show w4.drew.cell? _ = _ from g0') (fun hHeld => ?_); clear hK K
              refine wpAnyH_ready (rs := [9]) (by kernel_rfl) (by simp) ?_
              refine AllReadyH.cons rfl (fun K hK => ?_) AllReadyH.nil
              refine step_append_part _ (by rfl) (.tmp 93) (.tmp 96) 51 (by rfl) wr.heap.size 3 i1 _ 1 8 Try.underlying51 hi1' hy0 hy1 hy2 rfl (by omega) (.slice sa sn sc2) (t + 1) (N1 ++ [Value.int .i64 who]) (by rfl) OWN4.out (some ad) (l.length - t) (sc - t) (N2) (by simp [Act.eval, Act.put]) (f2.out) (RR2.out) (HN2.out) (fun e => by cases e) (by unfold maxLen; omega) (by omega) B4.out.size ?_
              intro v5 w5 hown5 hg5
              have B5 : Hid (Below wr.heap.size wr w5) := (by first | exact Below.grown B4.out.drew hg5 B4.out.drew.size (fun c hc => (World.ownsRow.lt OWN4.out c hc).1) | exact Below.grown B4.out hg5 B4.out.size (fun c hc => (World.ownsRow.lt OWN4.out c hc).1))
              obtain ⟨⟨s5, n5, e5⟩, hv5⟩ := sl_of hown5
              obtain rfl : v5 = .slice s5 n5 e5 := hv5
              obtain ⟨F5, ⟨y5, z5⟩, f5, gvl, gz5⟩ := FIN.out wr HB1.out w5 ⟨s5, n5, e5⟩ B5.out (by rw [hmap.out, hLn.out]; exact hown5)
              replace F5 := Lib.hid F5
              obtain ⟨g05, gl5, -, -⟩ := cc0.out w5 (HB1.out.trans (B5.out.mono HB1.out.size))
              clear hown5 hg5
              refine hK.out _ _ g05 (fun hHeld => ?_); clear hK K
              refine wpAnyH_take (i := 10) (v := ?_) rfl (by kernel_rfl) (by kernel_rfl) (by kernel_rfl) (fun _ _ _ h => h) (Or.inl ⟨by rfl, ?_⟩) (by assumption) ?_; rotate_left 1; (focus (intro w hSw; (try dsimp only at hSw); go_simp; (try with_reducible rfl))); (try simp only [Act.put, List.setIfInBounds_toArray, List.set_cons_zero, List.set_cons_succ]); try simp only [Act.put, List.getElem_toArray, List.getElem_cons_zero, List.getElem_cons_succ, List.setIfInBounds_toArray, List.set_cons_zero, List.set_cons_succ]
              refine wpAnyH_take (i := 11) (v := ?_) rfl (by kernel_rfl) (by kernel_rfl) (by kernel_rfl) (fun _ _ _ h => h) (Or.inl ⟨by rfl, ?_⟩) (by assumption) ?_; rotate_left 1; (focus (intro w hSw; (try dsimp only at hSw); go_simp; (try with_reducible rfl))); (try simp only [Act.put, List.setIfInBounds_toArray, List.set_cons_zero, List.set_cons_succ]); try simp only [Act.put, List.getElem_toArray, List.getElem_cons_zero, List.getElem_cons_succ, List.setIfInBounds_toArray, List.set_cons_zero, List.set_cons_succ]
              refine wpAnyH_ready (rs := [12]) (by kernel_rfl) (by simp) ?_
              refine AllReadyH.cons rfl (fun K hK => ?_) AllReadyH.nil
              go_simp
              refine hK.out _ _ gz5 (fun hHeld => ?_); clear hK K
              refine wpAnyH_done (by kernel_rfl) ?_ _
              go_wp2
              refine bodyPost_ret (v := (.int .i64 0)) (by simp [results, Try.results12, go_sem, *]) rfl ?_
              exact ⟨rfl, F5.out⟩
            · refine step_append_part _ (by rfl) (.tmp 93) (.tmp 96) 51 (by rfl) wr.heap.size 3 i1 _ 1 8 Try.underlying51 hi1' hy0 hy1 hy2 rfl (by omega) (.slice sa sn sc2) (t + 1) (N1 ++ [Value.int .i64 who]) (by rfl) OWN4.out (some ad) (l.length - t) (sc - t) (N2) (by simp [Act.eval, Act.put]) (f2.out) (RR2.out) (HN2.out) (fun e => by cases e) (by unfold maxLen; omega) (by omega) B4.out.size ?_
              intro v5 w5 hown5 hg5
              have B5 : Hid (Below wr.heap.size wr w5) := (by first | exact Below.grown B4.out.drew hg5 B4.out.drew.size (fun c hc => (World.ownsRow.lt OWN4.out c hc).1) | exact Below.grown B4.out hg5 B4.out.size (fun c hc => (World.ownsRow.lt OWN4.out c hc).1))
              obtain ⟨⟨s5, n5, e5⟩, hv5⟩ := sl_of hown5
              obtain rfl : v5 = .slice s5 n5 e5 := hv5
              obtain ⟨F5, ⟨y5, z5⟩, f5, gvl, gz5⟩ := FIN.out wr HB1.out w5 ⟨s5, n5, e5⟩ B5.out (by rw [hmap.out, hLn.out]; exact hown5)
              replace F5 := Lib.hid F5
              obtain ⟨g05, gl5, -, -⟩ := cc0.out w5 (HB1.out.trans (B5.out.mono HB1.out.size))
              clear hown5 hg5
              refine hK.out _ _ g05 (fun hHeld => ?_); clear hK K
              refine wpAnyH_ready (rs := [3]) (by kernel_rfl) (by simp) ?_
              refine AllReadyH.cons rfl (fun K hK => ?_) AllReadyH.nil
              go_simp
              refine hK.out _ _ g05 (fun hHeld => ?_); clear hK K
              refine wpAnyH_take (i := 10) (v := ?_) rfl (by kernel_rfl) (by kernel_rfl) (by kernel_rfl) (fun _ _ _ h => h) (Or.inl ⟨by rfl, ?_⟩) (by assumption) ?_; rotate_left 1; (focus (intro w hSw; (try dsimp only at hSw); go_simp; (try with_reducible rfl))); (try simp only [Act.put, List.setIfInBounds_toArray, List.set_cons_zero, List.set_cons_succ]); try simp only [Act.put, List.getElem_toArray, List.getElem_cons_zero, List.getElem_cons_succ, List.setIfInBounds_toArray, List.set_cons_zero, List.set_cons_succ]
              refine wpAnyH_take (i := 11) (v := ?_) rfl (by kernel_rfl) (by kernel_rfl) (by kernel_rfl) (fun _ _ _ h => h) (Or.inl ⟨by rfl, ?_⟩) (by assumption) ?_; rotate_left 1; (focus (intro w hSw; (try dsimp only at hSw); go_simp; (try with_reducible rfl))); (try simp only [Act.put, List.setIfInBounds_toArray, List.set_cons_zero, List.set_cons_succ]); try simp only [Act.put, List.getElem_toArray, List.getElem_cons_zero, List.getElem_cons_succ, List.setIfInBounds_toArray, List.set_cons_zero, List.set_cons_succ]
              refine wpAnyH_ready (rs := [12]) (by kernel_rfl) (by simp) ?_
              refine AllReadyH.cons rfl (fun K hK => ?_) AllReadyH.nil
              go_simp
              refine hK.out _ _ gz5 (fun hHeld => ?_); clear hK K
              refine wpAnyH_done (by kernel_rfl) ?_ _
              go_wp2
              refine bodyPost_ret (v := (.int .i64 0)) (by simp [results, Try.results12, go_sem, *]) rfl ?_
              exact ⟨rfl, F5.out⟩

          · have h8 : ¬ (t : Int) < l.length := by omega
            have h9 : decide ((t : Int) < l.length) = false := decide_eq_false h8
            clear hz
            generalize hN1 : (l.take t).map (Value.int .i64) = N1 at *
            generalize hN2 : (l.drop t).map (Value.int .i64) = N2 at *
            have HN1 : Hid (∀ v ∈ N1, v.oneCell' = true) := by show ∀ v ∈ N1, _; rw [← hN1]; exact ints_one .i64 _
            have HN2 : Hid (∀ v ∈ N2, v.oneCell' = true) := by show ∀ v ∈ N2, _; rw [← hN2]; exact ints_one .i64 _
            clear hN1 hN2
            have Z0 := Lib.hid (R1.out wr HB1.out)
            go_wp2_with (at_builtin; refine wpList_append_own _ rfl (.tmp 79) (.tmp 82) 51 rfl wr.heap.size 3 i1 _ 1 8 Try.underlying51 hi1' hy0 hy1 hy2 rfl (by omega) (.slice none 0 0) 0 [] rfl (World.ownsRow_nil _ _ _ _) ⟨gs, 0, none⟩ t sc N1 rfl f1.out Z0.out HN1.out (by unfold maxLen; omega) (by omega) (Nat.le_refl _) ?_)
            intro v1 w3 hown hgrow _
            have B3 : Hid (Below wr.heap.size wr w3) := (Below.refl _ wr).grown hgrow (Nat.le_refl _) (fun k hk => by simp [Value.ownBlock] at hk)
            have OWN := Lib.hid hown
            have OW3 : Hid (∀ o, (w3.alloc o).ownsRow wr.heap.size 3 1 v1 t N1) := fun o => own_touch (F := fun _ => False) (by simpa using OWN.out) ((Touch.refl _ _).alloc _) (fun _ _ h => h)
            clear hown hgrow Z0
            go_wp2_with (at_builtin; refine wpList_append_own _ rfl (.tmp 84) (.tmp 86) 51 rfl wr.heap.size 3 i1 _ 1 8 Try.underlying51 hi1' hy0 hy1 hy2 rfl (by omega) v1 t N1 rfl (OW3.out _) ⟨_, 0, none⟩ 1 1 [.int .i64 who] rfl rfl (World.news_of_block (cs := #[.int .i64 who]) (t := 3) (fr := (0, 0)) (heap_alloc_new _ _)) (by simp [Value.oneCell']) (by unfold maxLen; omega) (by omega) (by have := B3.out.size; simp; omega) ?_)
            intro v2 w4 hown hgrow _
            have B4 : Hid (Below wr.heap.size wr w4) := (B3.out.alloc B3.out.size _).grown hgrow (by have := B3.out.size; simp; omega) (fun k hk => (World.ownsRow.lt OWN.out k hk).1)
            have OWN4 := Lib.hid hown
            obtain ⟨g0', gl', c1', c4'⟩ := cc0.out w4 (HB1.out.trans (B4.out.mono HB1.out.size))
            clear hown hgrow g0 gl c1 c4 OW3
            obtain ⟨⟨sa, sn, sc2⟩, hv⟩ := sl_of OWN4.out
            obtain rfl : v2 = .slice sa sn sc2 := hv
            have RR2 : Hid (∀ a', some ad = some a' → ∀ t v, N2[t]? = some v → w4.cell? (a'.add t) = some v) := R2.out w4 (HB1.out.trans (B4.out.mono HB1.out.size))
            go_wp2_with fail
            refine wp_region_held_drew (S := fun w' => w'.cell? ⟨g, 0, none⟩ = some (.slice (some ⟨b, 0, none⟩) P.length uc)) (by kernel_rfl) (show w4.drew.cell? _ = _ from g0') (fun hHeld => ?_)
            refine wpAnyH_take (i := 0) (v := ?_) rfl (by kernel_rfl) (by kernel_rfl) (by kernel_rfl) (fun _ _ _ h => h) (Or.inl ⟨by rfl, ?_⟩) (by assumption) ?_; rotate_left 1; (focus (intro w hSw; (try dsimp only at hSw); go_simp; (try with_reducible rfl))); (try simp only [Act.put, List.setIfInBounds_toArray, List.set_cons_zero, List.set_cons_succ]); try simp only [Act.put, List.getElem_toArray, List.getElem_cons_zero, List.getElem_cons_succ, List.setIfInBounds_toArray, List.set_cons_zero, List.set_cons_succ]
            refine wpAnyH_take (i := 1) (v := ?_) rfl (by kernel_rfl) (by kernel_rfl) (by kernel_rfl) (fun _ _ _ h => h) (Or.inl ⟨by rfl, ?_⟩) (by assumption) ?_; rotate_left 1; (focus (intro w hSw; (try dsimp only at hSw); go_simp; (try with_reducible rfl))); (try simp only [Act.put, List.setIfInBounds_toArray, List.set_cons_zero, List.set_cons_succ]); try simp only [Act.put, List.getElem_toArray, List.getElem_cons_zero, List.getElem_cons_succ, List.setIfInBounds_toArray, List.set_cons_zero, List.set_cons_succ]
            refine wpAnyH_take (i := 2) (v := ?_) rfl (by kernel_rfl) (by kernel_rfl) (by kernel_rfl) (fun _ _ _ h => h) (Or.inl ⟨by rfl, ?_⟩) (by assumption) ?_; rotate_left 1; (focus (intro w hSw; (try dsimp only at hSw); go_simp; (try with_reducible rfl))); (try simp only [Act.put, List.setIfInBounds_toArray, List.set_cons_zero, List.set_cons_succ]); try simp only [Act.put, List.getElem_toArray, List.getElem_cons_zero, List.getElem_cons_succ, List.setIfInBounds_toArray, List.set_cons_zero, List.set_cons_succ]
            refine wpAnyH_take (i := 4) (v := ?_) rfl (by kernel_rfl) (by kernel_rfl) (by kernel_rfl) (fun _ _ _ h => h) (Or.inl ⟨by rfl, ?_⟩) (by assumption) ?_; rotate_left 1; (focus (intro w hSw; (try dsimp only at hSw); go_simp; (try with_reducible rfl))); (try simp only [Act.put, List.setIfInBounds_toArray, List.set_cons_zero, List.set_cons_succ]); try simp only [Act.put, List.getElem_toArray, List.getElem_cons_zero, List.getElem_cons_succ, List.setIfInBounds_toArray, List.set_cons_zero, List.set_cons_succ]
            refine wpAnyH_take (i := 5) (v := ?_) rfl (by kernel_rfl) (by kernel_rfl) (by kernel_rfl) (fun _ _ _ h => h) (Or.inl ⟨by rfl, ?_⟩) (by assumption) ?_; rotate_left 1; (focus (intro w hSw; (try dsimp only at hSw); go_simp; (try with_reducible rfl))); (try simp only [Act.put, List.setIfInBounds_toArray, List.set_cons_zero, List.set_cons_succ]); try simp only [Act.put, List.getElem_toArray, List.getElem_cons_zero, List.getElem_cons_succ, List.setIfInBounds_toArray, List.set_cons_zero, List.set_cons_succ]
            refine wpAnyH_take (i := 6) (v := ?_) rfl (by kernel_rfl) (by kernel_rfl) (by kernel_rfl) (fun _ _ _ h => h) (Or.inl ⟨by rfl, ?_⟩) (by assumption) ?_; rotate_left 1; (focus (intro w hSw; (try dsimp only at hSw); go_simp; (try with_reducible rfl))); (try simp only [Act.put, List.setIfInBounds_toArray, List.set_cons_zero, List.set_cons_succ]); try simp only [Act.put, List.getElem_toArray, List.getElem_cons_zero, List.getElem_cons_succ, List.setIfInBounds_toArray, List.set_cons_zero, List.set_cons_succ]
            refine wpAnyH_take (i := 7) (v := ?_) rfl (by kernel_rfl) (by kernel_rfl) (by kernel_rfl) (fun _ _ _ h => h) (Or.inl ⟨by rfl, ?_⟩) (by assumption) ?_; rotate_left 1; (focus (intro w hSw; (try dsimp only at hSw); go_simp; (try with_reducible rfl))); (try simp only [Act.put, List.setIfInBounds_toArray, List.set_cons_zero, List.set_cons_succ]); try simp only [Act.put, List.getElem_toArray, List.getElem_cons_zero, List.getElem_cons_succ, List.setIfInBounds_toArray, List.set_cons_zero, List.set_cons_succ]
            refine wpAnyH_take (i := 8) (v := ?_) rfl (by kernel_rfl) (by kernel_rfl) (by kernel_rfl) (fun _ _ _ h => h) (Or.inl ⟨by rfl, ?_⟩) (by assumption) ?_; rotate_left 1; (focus (intro w hSw; (try dsimp only at hSw); go_simp; (try with_reducible rfl))); (try simp only [Act.put, List.setIfInBounds_toArray, List.set_cons_zero, List.set_cons_succ]); try simp only [Act.put, List.getElem_toArray, List.getElem_cons_zero, List.getElem_cons_succ, List.setIfInBounds_toArray, List.set_cons_zero, List.set_cons_succ]
            refine wpAnyH_ready (rs := [3, 9]) (by kernel_rfl) (by simp) ?_
            refine AllReadyH.cons rfl (fun K hK => ?_) (AllReadyH.cons rfl (fun K hK => ?_) AllReadyH.nil)
            · go_simp
              refine hK.out _ _ (show w4.drew.cell? _ = _ from g0') (fun hHeld => ?_); clear hK K
              refine wpAnyH_ready (rs := [9]) (by kernel_rfl) (by simp) ?_
              refine AllReadyH.cons rfl (fun K hK => ?_) AllReadyH.nil
              refine step_append_part _ (by rfl) (.tmp 93) (.tmp 96) 51 (by rfl) wr.heap.size 3 i1 _ 1 8 Try.underlying51 hi1' hy0 hy1 hy2 rfl (by omega) (.slice sa sn sc2) (t + 1) (N1 ++ [Value.int .i64 who]) (by rfl) OWN4.out (some ad) (l.length - t) (sc - t) (N2) (by simp [Act.eval, Act.put]) (f2.out) (RR2.out) (HN2.out) (fun e => by cases e) (by unfold maxLen; omega) (by omega) B4.out.size ?_
              intro v5 w5 hown5 hg5
              have B5 : Hid (Below wr.heap.size wr w5) := (by first | exact Below.grown B4.out.drew hg5 B4.out.drew.size (fun c hc => (World.ownsRow.lt OWN4.out c hc).1) | exact Below.grown B4.out hg5 B4.out.size (fun c hc => (World.ownsRow.lt OWN4.out c hc).1))
              obtain ⟨⟨s5, n5, e5⟩, hv5⟩ := sl_of hown5
              obtain rfl : v5 = .slice s5 n5 e5 := hv5
              obtain ⟨F5, ⟨y5, z5⟩, f5, gvl, gz5⟩ := FIN.out wr HB1.out w5 ⟨s5, n5, e5⟩ B5.out (by rw [hmap.out, hLn.out]; exact hown5)
              replace F5 := Lib.hid F5
              obtain ⟨g05, gl5, -, -⟩ := cc0.out w5 (HB1.out.trans (B5.out.mono HB1.out.size))
              clear hown5 hg5
              refine hK.out _ _ g05 (fun hHeld => ?_); clear hK K
              refine wpAnyH_take (i := 10) (v := ?_) rfl (by kernel_rfl) (by kernel_rfl) (by kernel_rfl) (fun _ _ _ h => h) (Or.inl ⟨by rfl, ?_⟩) (by assumption) ?_; rotate_left 1; (focus (intro w hSw; (try dsimp only at hSw); go_simp; (try with_reducible rfl))); (try simp only [Act.put, List.setIfInBounds_toArray, List.set_cons_zero, List.set_cons_succ]); try simp only [Act.put, List.getElem_toArray, List.getElem_cons_zero, List.getElem_cons_succ, List.setIfInBounds_toArray, List.set_cons_zero, List.set_cons_succ]
              refine wpAnyH_take (i := 11) (v := ?_) rfl (by kernel_rfl) (by kernel_rfl) (by kernel_rfl) (fun _ _ _ h => h) (Or.inl ⟨by rfl, ?_⟩) (by assumption) ?_; rotate_left 1; (focus (intro w hSw; (try dsimp only at hSw); go_simp; (try with_reducible rfl))); (try simp only [Act.put, List.setIfInBounds_toArray, List.set_cons_zero, List.set_cons_succ]); try simp only [Act.put, List.getElem_toArray, List.getElem_cons_zero, List.getElem_cons_succ, List.setIfInBounds_toArray, List.set_cons_zero, List.set_cons_succ]
              refine wpAnyH_ready (rs := [12]) (by kernel_rfl) (by simp) ?_
              refine AllReadyH.cons rfl (fun K hK => ?_) AllReadyH.nil
              go_simp
              refine hK.out _ _ gz5 (fun hHeld => ?_); clear hK K
              refine wpAnyH_done (by kernel_rfl) ?_ _
              go_wp2
              refine bodyPost_ret (v := (.int .i64 0)) (by simp [results, Try.results12, go_sem, *]) rfl ?_
              exact ⟨rfl, F5.out⟩
            · refine step_append_part _ (by rfl) (.tmp 93) (.tmp 96) 51 (by rfl) wr.heap.size 3 i1 _ 1 8 Try.underlying51 hi1' hy0 hy1 hy2 rfl (by omega) (.slice sa sn sc2) (t + 1) (N1 ++ [Value.int .i64 who]) (by rfl) OWN4.out (some ad) (l.length - t) (sc - t) (N2) (by simp [Act.eval, Act.put]) (f2.out) (RR2.out) (HN2.out) (fun e => by cases e) (by unfold maxLen; omega) (by omega) B4.out.size ?_
              intro v5 w5 hown5 hg5
              have B5 : Hid (Below wr.heap.size wr w5) := (by first | exact Below.grown B4.out.drew hg5 B4.out.drew.size (fun c hc => (World.ownsRow.lt OWN4.out c hc).1) | exact Below.grown B4.out hg5 B4.out.size (fun c hc => (World.ownsRow.lt OWN4.out c hc).1))
              obtain ⟨⟨s5, n5, e5⟩, hv5⟩ := sl_of hown5
              obtain rfl : v5 = .slice s5 n5 e5 := hv5
              obtain ⟨F5, ⟨y5, z5⟩, f5, gvl, gz5⟩ := FIN.out wr HB1.out w5 ⟨s5, n5, e5⟩ B5.out (by rw [hmap.out, hLn.out]; exact hown5)
              replace F5 := Lib.hid F5
              obtain ⟨g05, gl5, -, -⟩ := cc0.out w5 (HB1.out.trans (B5.out.mono HB1.out.size))
              clear hown5 hg5
              refine hK.out _ _ g05 (fun hHeld => ?_); clear hK K
              refine wpAnyH_ready (rs := [3]) (by kernel_rfl) (by simp) ?_
              refine AllReadyH.cons rfl (fun K hK => ?_) AllReadyH.nil
              go_simp
              refine hK.out _ _ g05 (fun hHeld => ?_); clear hK K
              refine wpAnyH_take (i := 10) (v := ?_) rfl (by kernel_rfl) (by kernel_rfl) (by kernel_rfl) (fun _ _ _ h => h) (Or.inl ⟨by rfl, ?_⟩) (by assumption) ?_; rotate_left 1; (focus (intro w hSw; (try dsimp only at hSw); go_simp; (try with_reducible rfl))); (try simp only [Act.put, List.setIfInBounds_toArray, List.set_cons_zero, List.set_cons_succ]); try simp only [Act.put, List.getElem_toArray, List.getElem_cons_zero, List.getElem_cons_succ, List.setIfInBounds_toArray, List.set_cons_zero, List.set_cons_succ]
              refine wpAnyH_take (i := 11) (v := ?_) rfl (by kernel_rfl) (by kernel_rfl) (by kernel_rfl) (fun _ _ _ h => h) (Or.inl ⟨by rfl, ?_⟩) (by assumption) ?_; rotate_left 1; (focus (intro w hSw; (try dsimp only at hSw); go_simp; (try with_reducible rfl))); (try simp only [Act.put, List.setIfInBounds_toArray, List.set_cons_zero, List.set_cons_succ]); try simp only [Act.put, List.getElem_toArray, List.getElem_cons_zero, List.getElem_cons_succ, List.setIfInBounds_toArray, List.set_cons_zero, List.set_cons_succ]
              refine wpAnyH_ready (rs := [12]) (by kernel_rfl) (by simp) ?_
              refine AllReadyH.cons rfl (fun K hK => ?_) AllReadyH.nil
              go_simp
              refine hK.out _ _ gz5 (fun hHeld => ?_); clear hK K
              refine wpAnyH_done (by kernel_rfl) ?_ _
              go_wp2
              refine bodyPost_ret (v := (.int .i64 0)) (by simp [results, Try.results12, go_sem, *]) rfl ?_
              exact ⟨rfl, F5.out⟩

end Go.Proofs.Ytplllaafllcigaa
