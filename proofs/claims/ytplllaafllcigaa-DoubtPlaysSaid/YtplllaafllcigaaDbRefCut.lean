/- The reference's: cut, Clear. -/
import Derived.Test.YtplllaafllcigaaDbRef
namespace Go.Proofs.Ytplllaafllcigaa
open Go.Sort Go.RowKit Go.BigFrame
set_option linter.unusedVariables false
set_option linter.unusedSimpArgs false

theorem info_ritem : (Try.prog.info? 68).map (fun i => (i.zero, i.size, i.bytes)) = some (some (.agg #[.int .i64 0, .int .u32 0, .int .u64 0, .int .u64 0, .slice none 0 0]), 5, 56) := by kernel_rfl
theorem lo_at {k : Nat → It} (h : OkD k) {n : Nat} (hn : n < 33) : (allL k).take (atL n (allL k)) = loL susp k n ∧ (susp (k n) = true → (allL k).drop (atL n (allL k) + 1) = hiL susp k n) ∧ (susp (k n) = false → (allL k).drop (atL n (allL k)) = hiL susp k n) := by
  have e := at_all h hn
  have c := all_cut k hn
  refine ⟨?_, fun hs => ?_, fun hs => ?_⟩
  · rw [e, c, List.take_left]
  · rw [e, c]
    unfold midL
    rw [if_pos hs, ← List.append_assoc, List.drop_left' (by simp)]
  · rw [e, c]
    unfold midL
    rw [if_neg (by simp [hs]), List.nil_append, List.drop_left]
theorem all_wipe {k : Nat → It} (h : OkD k) {n : Nat} (hn : n < 33) (hs : susp (k n) = true) : allL (updD k n zIt) = (allL k).eraseIdx (atL n (allL k)) := by
  obtain ⟨h1, h2, _⟩ := lo_at h hn
  rw [List.eraseIdx_eq_take_drop_succ, h1, h2 hs, all_cut _ hn, lo_upd, hi_upd]
  unfold midL
  rw [updD_same, if_neg (by simp [susp_z]), List.nil_append]
theorem all_put {k : Nat → It} (h : OkD k) {n : Nat} (hn : n < 33) (hs : susp (k n) = false) {x : It} (hx : susp x = true) : allL (updD k n x) = (allL k).take (atL n (allL k)) ++ x :: (allL k).drop (atL n (allL k)) := by
  obtain ⟨h1, _, h2⟩ := lo_at h hn
  rw [h1, h2 hs, all_cut _ hn, lo_upd, hi_upd]
  unfold midL
  rw [updD_same, if_pos hx]; rfl
/-- a new row is stored -/
theorem Rs.put_row {g : Nat} {u v : Sl} {P P' : List (It × Sl)} {k k' : Nat → It} {w w2 : World} (h : Rs g u P k w) (hb : Below w.heap.size w w2) (hown : w2.ownsRow w.heap.size 68 5 v.v P'.length (P'.map cp).flatten) (is' : P'.map Prod.fst = allL k') (ok' : OkD k')
    (hw : ∀ p ∈ P', p ∈ P ∨ (p.2 = nilS ∧ p.1.who = [])) (hap : Apart P') : RAft g u P k' w (w2.setCell ⟨g, 0, none⟩ (.slice v.a v.n v.c)) ∧ Cs g [.slice u.a u.n u.c] w2 := by
  refine h.put hb ⟨own_zero hown, fun p hp => ?_⟩ is' ok' (fun b hb => (World.ownsRow.lt hown b hb).1) (fun p hp b hb => ?_) hap
  · rcases hw p hp with h1 | ⟨h1, h2⟩
    · exact erow_keep (h.row.who p h1) hb
    · rw [h1, h2]; exact erow_nil
  · rcases hw p hp with h1 | ⟨h1, _⟩
    · exact .inl ⟨p, h1, hb⟩
    · rw [h1] at hb; exact absurd hb (nil_own b)
def RCutPost (g : Nat) (u : Sl) (P : List (It × Sl)) (k' : Nat → It) (w : World) (e : Ending) (w' : World) : Prop := e = .returned (.tuple #[]) ∧ RAft g u P k' w w'
set_option maxHeartbeats 6400000 in
set_option maxRecDepth 100000 in
theorem cut_any (n j : Nat) (hn : n < 33) (g : Nat) (u : Sl) (P : List (It × Sl)) (k : Nat → It) (w : World) (h : Rs g u P k w) (hs : susp (k n) = true) (hj : atL n (allL k) = j) :
    Calls Try.prog 28 #[.pointer (some ⟨g, 0, none⟩), .int .i64 (j : Nat)] w (RCutPost g u P (updD k n zIt) w) := by
  obtain ⟨s, hx, _, _⟩ := h.at_ hn hs
  rw [hj] at hx
  have hjP : j < P.length := (List.getElem?_eq_some_iff.1 hx).1
  have his : (P.eraseIdx j).map Prod.fst = allL (updD k n zIt) := by rw [all_wipe h.ok hn hs, hj, ← h.is, List.eraseIdx_eq_take_drop_succ, List.eraseIdx_eq_take_drop_succ, List.map_append, List.map_take, List.map_drop]
  have hap : Apart (P.eraseIdx j) := h.ap.sublist (List.eraseIdx_sublist P j)
  have FIN : Hid (∀ w2 (v : Sl), Below w.heap.size w w2 → w2.ownsRow w.heap.size 68 5 v.v (P.eraseIdx j).length ((P.eraseIdx j).map cp).flatten → RAft g u P (updD k n zIt) w (w2.setCell ⟨g, 0, none⟩ (.slice v.a v.n v.c)) ∧ Cs g [.slice u.a u.n u.c] w2) :=
    fun w2 v hb ho => h.put_row hb ho his (h.ok.cut n) (fun p hp => .inl (List.mem_of_mem_eraseIdx hp)) hap
  have hun := h.n
  have hl33 := h.len33
  generalize updD k n zIt = k' at *
  obtain ⟨av, un, c⟩ := u
  simp only at hun
  subst hun
  have hrow := h.row.row
  obtain ⟨gv, rfl⟩ : ∃ gv, av = some ⟨gv, 0, none⟩ := by
    rcases erow_form hrow with ⟨_, rfl⟩ | ⟨gv, _, h1, _⟩
    · simp at hjP
    · simp [Sl.v] at h1; exact ⟨gv, h1.1⟩
  have HH := Lib.hid h
  have hjl : (j : Int) < P.length := by omega
  have hj0 : (0 : Int) ≤ j := by omega
  have hl2 : (P.length : Int) ≤ 33 := by omega
  obtain ⟨i0, hi0, hz0, hz1, hz2⟩ := info_parts info_ritem
  obtain ⟨-, C, hC, hcap, ht, hlc, hm⟩ := erow_open cp_enc hrow
  simp only at hcap hlc hm
  have hcj : j ≤ c := by omega
  have hcj2 : (j : Int) ≤ c := by omega
  have hcj3 : (0 : Int) ≤ (j : Int) + 1 := by omega
  have hcj4 : (j : Int) + 1 ≤ P.length := by omega
  have hcj5 : j + 1 ≤ P.length := hjP
  have hwr : IntKind.i64.wrap ((j : Int) + 1) = (j : Int) + 1 := IntWalk.i64_in _ ⟨by omega, by omega⟩
  have f1 : Hid (((P.take j).map cp).flatten.length = j * 5) := by show _ = _; rw [cps_len, List.length_take]; congr 1; omega
  have o1 := Lib.hid (cp_enc.ones (P.take j))
  have f2 : Hid (((P.drop (j + 1)).map cp).flatten.length = (P.length - (j + 1)) * 5) := by show _ = _; rw [cps_len, List.length_drop]
  have o2 := Lib.hid (cp_enc.ones (P.drop (j + 1)))
  have n1 : Hid (∀ w1, Below w.heap.size w w1 → ∀ t v, ((P.take j).map cp).flatten[t]? = some v → w1.cell? ((⟨gv, 0, none⟩ : Addr).add t) = some v) := fun w1 hb t v hu => by
    have := part_cells (p := 0) (M := P.take j) (erow_keep hrow hb) (fun i x hx => take_get hx) t v hu
    rw [Nat.zero_mul] at this; exact this
  obtain ⟨ad, hadq, hadn⟩ : ∃ ad : Addr, some ad = (if c = j + 1 then some ⟨gv, 0, none⟩ else some ⟨gv, (j + 1) * 5, none⟩) ∧ (¬ c = j + 1 → ad = ⟨gv, (j + 1) * 5, none⟩) := by
    split
    · rename_i h0; exact ⟨_, rfl, fun h => absurd h0 h⟩
    · exact ⟨_, rfl, fun _ => rfl⟩
  have n2 : Hid (∀ w1, Below w.heap.size w w1 → ∀ t v, ((P.drop (j + 1)).map cp).flatten[t]? = some v → w1.cell? (ad.add t) = some v) := fun w1 hb t v hu => by
    by_cases hce : c = j + 1
    · have : ((P.drop (j + 1)).map cp).flatten = [] := List.eq_nil_of_length_eq_zero (by rw [f2.out]; omega)
      rw [this] at hu; simp at hu
    · rw [hadn hce]
      exact part_cells (p := j + 1) (M := P.drop (j + 1)) (erow_keep hrow hb) (fun i x hx => by rwa [List.getElem?_drop] at hx) t v hu
  have HADQ := Lib.hid hadq
  have herL : Hid (((P.eraseIdx j).map cp).flatten = ((P.take j).map cp).flatten ++ ((P.drop (j + 1)).map cp).flatten) := by show _ = _; rw [List.eraseIdx_eq_take_drop_succ, List.map_append, List.flatten_append]
  have hel : Hid ((P.eraseIdx j).length = j + (P.length - (j + 1))) := by show _ = _; rw [List.length_eraseIdx, if_pos hjP]; omega
  clear hadq hadn hC ht h hcap his hap hx hj hs hrow
  generalize ((P.take j).map cp).flatten = N1 at *
  generalize ((P.drop (j + 1)).map cp).flatten = M2 at *
  generalize P.eraseIdx j = P' at *
  go_enter Try.func28, Try.ntmps28
  have g0 := HH.out.box.cell 0 _ rfl
  have gl := HH.out.box.lt
  have R0 := Lib.hid (n1.out w (Below.refl _ _))
  go_wp2_with (at_builtin; refine wpList_append_own _ rfl (.tmp 5) (.tmp 11) 27 rfl w.heap.size 68 i0 _ 5 56 Try.underlying27 hi0 hz0 hz1 hz2 rfl (by omega) (.slice none 0 0) 0 [] rfl (World.ownsRow_nil _ _ _ _) ⟨gv, 0, none⟩ j c N1 rfl f1.out R0.out o1.out (by unfold maxLen; omega) (by omega) (Nat.le_refl _) ?_)
  intro v1 w1 hown hgrow _
  have B1 : Hid (Below w.heap.size w w1) := (Below.refl _ w).grown hgrow (Nat.le_refl _) (fun k hk => by simp [Value.ownBlock] at hk)
  have OWN := Lib.hid hown
  have G1 := HH.out.box.keep B1.out
  clear g0 gl hown hgrow R0
  have g0 := G1.cell 0 _ rfl
  have gl := G1.lt
  have N2 := Lib.hid (n2.out w1 B1.out)
  clear G1
  go_wp2_with (at_builtin; refine wpList_append_own _ rfl (.tmp 14) (.tmp 21) 27 rfl w.heap.size 68 i0 _ 5 56 Try.underlying27 hi0 hz0 hz1 hz2 rfl (by omega) v1 j N1 rfl OWN.out ad (P.length - (j + 1)) (c - (j + 1)) M2 (by simp [Act.eval]; exact HADQ.out.symm) f2.out N2.out o2.out (by unfold maxLen; omega) (by omega) B1.out.size ?_)
  all_goals (
    intro v2 w2 hown hgrow _
    obtain ⟨⟨sa, sn, sc⟩, hv⟩ := sl_of hown
    obtain rfl : v2 = .slice sa sn sc := hv
    have B2 : Hid (Below w.heap.size w w2) := B1.out.grown hgrow B1.out.size (fun k hk => (World.ownsRow.lt OWN.out k hk).1)
    obtain ⟨q1, q2⟩ := FIN.out w2 ⟨sa, sn, sc⟩ B2.out (by rw [herL.out, hel.out]; exact hown)
    have Q1 := Lib.hid q1
    clear g0 gl hown hgrow q1
    have g0 := q2.cell 0 _ rfl
    have gf := q2.free 0 _ rfl
    have gl := q2.lt
    clear q2
    go_wp2
    go_end0
    exact ⟨rfl, Q1.out⟩)
def RClearPost (g : Nat) (u : Sl) (P : List (It × Sl)) (k : Nat → It) (i inc : Int) (w : World) (e : Ending) (w' : World) : Prop := e = .returned (.bool (clearB k i inc)) ∧ RAft g u P (clearD k i inc) w w'
set_option maxHeartbeats 3200000 in
theorem rclear_any (i inc : Int) (g : Nat) (u : Sl) (P : List (It × Sl)) (k : Nat → It) (w : World) (h : Rs g u P k w) :
    Calls Try.prog 14 #[.pointer (some ⟨g, 0, none⟩), .int .i64 i, .int .u32 inc] w (RClearPost g u P k i inc w) := by
  have K2 := find_any i g u P k w h
  unfold RClearPost
  have HI := Lib.hid (suspI_iff (k := k) (i := i))
  have HE : Hid (clearB k i inc = (suspI k i && decide ((k i.toNat).inc < inc))) := rfl
  have HD : Hid (clearD k i inc = if clearB k i inc = true then updD k i.toNat zIt else k) := rfl
  have SAME := Lib.hid (fun w1 hb => h.same (w' := w1) hb)
  cases hs : suspI k i with
  | false =>
    have e1 : clearB k i inc = false := by rw [HE.out, hs]; rfl
    have e2 : clearD k i inc = k := by rw [HD.out, if_neg (by simp [e1])]
    rw [e1, e2]
    rw [hs] at K2
    clear HE HD HI e1 e2 hs h
    generalize atL i (allL k) = m at *
    go_enter Try.func14, Try.ntmps14
    go_wp2_with fail
    refine K2.mono ?_; rintro e w1 ⟨rfl, b1⟩
    go_wp2
    refine bodyPost_ret (v := (.bool false)) (by simp [results, Try.results14, go_sem, *]) rfl ?_
    exact ⟨rfl, SAME.out _ b1⟩
  | true =>
    have hi := HI.out.1 hs
    obtain ⟨n, rfl⟩ : ∃ n : Nat, i = n := ⟨i.toNat, by omega⟩
    have hn1 : n < 33 := by omega
    have hsn : susp (k n) = true := hi.2.2
    simp only [Int.toNat_natCast] at HE HD
    rw [hs] at K2
    obtain ⟨s, hx, _, _⟩ := h.at_ hn1 hsn
    have hml : atL n (allL k) < P.length := (List.getElem?_eq_some_iff.1 hx).1
    have hun := h.n
    have hp33 := h.len33
    have KC := Lib.hid (fun w1 (b1 : Below w.heap.size w w1) j hj => cut_any n j hn1 g u P k w1 (h.keep b1) hsn hj)
    have KX : Hid (∀ w1, Below w.heap.size w w1 → Rs g u P k w1) := fun w1 b1 => h.keep b1
    obtain ⟨m, hm⟩ : ∃ m, atL n (allL k) = m := ⟨_, rfl⟩
    rw [hm] at K2 hx hml
    have HM := Lib.hid hm
    have hm0 : (0 : Int) ≤ m := by omega
    have hm1 : (m : Int) < P.length := by omega
    obtain ⟨av, un, uc⟩ := u
    simp only at hun
    subst hun
    by_cases hq : inc ≤ (k n).inc
    · have e1 : clearB k n inc = false := by rw [HE.out, decide_eq_false (by omega), Bool.and_false]
      have e2 : clearD k n inc = k := by rw [HD.out, if_neg (by simp [e1])]
      rw [e1, e2]
      have d4 : decide (inc ≤ (k n).inc) = true := decide_eq_true hq
      clear HE HD HI e1 e2 hs h hi hq KC hm
      go_enter Try.func14, Try.ntmps14
      go_wp2_with fail
      refine K2.mono ?_; rintro e w1 ⟨rfl, b1⟩
      obtain ⟨b, hb, hbl, cc⟩ := (KX.out w1 b1).cells hx
      simp only at hb
      subst hb
      have g0 := (KX.out w1 b1).box.cell 0 _ rfl
      have gl := (KX.out w1 b1).box.lt
      have c1 := cc 1 _ rfl
      clear cc K2 hx
      change w1.cell? ⟨b, m * 5 + 1, none⟩ = some (.int .u32 (k n).inc) at c1
      generalize (k n).inc = y at *
      go_wp2
      refine bodyPost_ret (v := (.bool false)) (by simp [results, Try.results14, go_sem, *]) rfl ?_
      exact ⟨rfl, SAME.out _ b1⟩
    · have e1 : clearB k n inc = true := by rw [HE.out, hs, decide_eq_true (by omega)]; rfl
      have e2 : clearD k n inc = updD k n zIt := by rw [HD.out, if_pos e1]
      rw [e1, e2]
      have d4 : decide (inc ≤ (k n).inc) = false := decide_eq_false hq
      clear HE HD HI e1 e2 hs h hi hq SAME hm
      go_enter Try.func14, Try.ntmps14
      go_wp2_with fail
      refine K2.mono ?_; rintro e w1 ⟨rfl, b1⟩
      obtain ⟨b, hb, hbl, cc⟩ := (KX.out w1 b1).cells hx
      simp only at hb
      subst hb
      have g0 := (KX.out w1 b1).box.cell 0 _ rfl
      have gl := (KX.out w1 b1).box.lt
      have c1 := cc 1 _ rfl
      have KD := KC.out w1 b1 m HM.out
      clear cc K2 hx KC
      change w1.cell? ⟨b, m * 5 + 1, none⟩ = some (.int .u32 (k n).inc) at c1
      generalize (k n).inc = y at *
      go_wp2_with fail
      refine KD.mono ?_; rintro e w2 ⟨rfl, f1⟩
      have F := Lib.hid (f1.after b1)
      clear f1 b1 g0 gl c1 KD
      go_wp2
      refine bodyPost_ret (v := (.bool true)) (by simp [results, Try.results14, go_sem, *]) rfl ?_
      exact ⟨rfl, F.out⟩
end Go.Proofs.Ytplllaafllcigaa
