/- The reference's box: cut. -/
import Derived.Test.YtnemmnndaoaadaaBoxRefReb
namespace Go.Proofs.Ytnemmnndaoaadaa
open Go.Sort Go.RowKit Go.BigFrame
set_option linter.unusedVariables false
set_option linter.unusedSimpArgs false

theorem rrow_form {b : Nat} {w : World} {v : Value} {L : List Bd} (h : RfRow b w v L) : (v = .slice none 0 0 ∧ L = []) ∨ ∃ g cap, v = .slice (some ⟨g, 0, none⟩) L.length cap ∧ g < w.heap.size := by
  rcases h.2 with ⟨rfl, h0⟩ | ⟨g, cap, cur, rfl, _, hg, _⟩
  · exact .inl ⟨rfl, List.eq_nil_of_length_eq_zero h0⟩
  · refine .inr ⟨g, cap, rfl, ?_⟩
    rcases Nat.lt_or_ge g w.heap.size with h1 | h1
    · exact h1
    · rw [Array.getElem?_eq_none h1] at hg; cases hg
theorem rrow_open {b : Nat} {w : World} {g n cap : Nat} {L : List Bd} (h : RfRow b w (.slice (some ⟨g, 0, none⟩) n cap) L) : n = L.length ∧ ∃ C, Rw 7 g 73 C w ∧ C.length = cap ∧ C.take L.length = L.map ch ∧ L.length ≤ cap ∧ cap ≤ maxLen := by
  have hn : n = L.length := by
    rcases rrow_form h with ⟨h1, _⟩ | ⟨_, _, h1, _⟩
    · simp at h1
    · simp at h1; exact h1.2.1
  subst hn
  obtain ⟨C, h1, h2, h3, h4, h5, _⟩ := Rw.of_own (by decide) h
  refine ⟨rfl, C, h1, h2, ?_, h3, h4⟩
  exact flatten_inj (z := 7) _ _ (by decide) (fun c hc => h1.all c (List.mem_of_mem_take hc)) (ch_all L) h5
theorem rrow_touch {b : Nat} {F : Nat → Prop} {w w' : World} {v : Value} {L : List Bd} (h : RfRow b w v L) (ht : Touch F w w') (hF : ∀ k, v.ownBlock = some k → ¬ F k) : RfRow b w' v L := own_touch h ht hF
theorem chs_len (M : List Bd) : (M.map ch).flatten.length = M.length * 7 := by rw [flatten_len _ (ch_all _), List.length_map]
/-- the cells of a part of a row -/
theorem rpart_cells {b : Nat} {w : World} {gv c p : Nat} {L M : List Bd} (h : RfRow b w (.slice (some ⟨gv, 0, none⟩) L.length c) L) (hM : ∀ i x, M[i]? = some x → L[p + i]? = some x) : ∀ k u, (M.map ch).flatten[k]? = some u → w.cell? ((⟨gv, p * 7, none⟩ : Addr).add k) = some u := by
  obtain ⟨-, C, hC, -, ht, -⟩ := rrow_open h
  intro k u hk
  have hall := ch_all M
  have hlen := flatten_len _ hall
  have hj : k < (M.map ch).flatten.length := (List.getElem?_eq_some_iff.1 hk).1
  rw [hlen] at hj
  have hq : k / 7 < (M.map ch).length := by rw [Nat.div_lt_iff_lt_mul (by decide)]; exact hj
  have hr : k % 7 < 7 := Nat.mod_lt _ (by decide)
  have e : k = k / 7 * 7 + k % 7 := by omega
  have hc : (M.map ch)[k / 7]? = some ((M.map ch)[k / 7]) := List.getElem?_eq_getElem hq
  rw [e, flatten_at _ hall (k / 7) (k % 7) hr _ hc] at hk
  rw [List.getElem?_map, Option.map_eq_some_iff] at hc
  obtain ⟨x, hx, hxc⟩ := hc
  rw [← hxc] at hk
  have := hC.cell (p + k / 7) (k % 7) _ _ (take_at ht (hM _ _ hx)) hk
  rw [add_at, ← this]
  congr 2
  rw [Nat.add_mul]; omega
theorem take_get {L : List Bd} {j i : Nat} {x : Bd} (h : (L.take j)[i]? = some x) : L[0 + i]? = some x := by
  rw [List.getElem?_take] at h
  split at h
  · rwa [Nat.zero_add]
  · cases h
theorem own_slice {w : World} {b : Nat} {t : TypeId} {z n : Nat} {v : Value} {xs : List Value} (h : w.ownsRow b t z v n xs) : ∃ a m c, v = .slice a m c := by
  rcases h.2 with ⟨rfl, _⟩ | ⟨g, c, _, rfl, _⟩
  · exact ⟨none, 0, 0, rfl⟩
  · exact ⟨some ⟨g, 0, none⟩, n, c, rfl⟩
def RCutPost (g j : Nat) (L : List Bd) (w : World) (e : Ending) (w' : World) : Prop :=
  ∃ (v : Value) (w9 : World), e = .returned (.tuple #[]) ∧ RfRow w.heap.size w9 v (L.eraseIdx j) ∧ Below w.heap.size w w9 ∧ w' = w9.setCell ⟨g, 5, none⟩ v
set_option maxHeartbeats 6400000 in
set_option maxRecDepth 100000 in
theorem rcut_any (g j : Nat) (m f ip hold : Int) (room : Nat) (v : Sl) (L : List Bd) (hj : j < L.length) (hl : L.length ≤ 64) (w : World) (hx : Cs g (bcells m f ip hold room v) w) (hr : RfRow 0 w v.v L) :
    Calls Try.prog 51 #[.pointer (some ⟨g, 0, none⟩), .int .i64 (j : Nat)] w (RCutPost g j L w) := by
  obtain ⟨gv, c, hv, hg⟩ : ∃ gv c, v.v = .slice (some ⟨gv, 0, none⟩) L.length c ∧ gv < w.heap.size := by
    rcases rrow_form hr with ⟨_, rfl⟩ | h
    · simp at hj
    · exact h
  obtain ⟨av, n, cv⟩ := v
  simp only [Sl.v, Value.slice.injEq] at hv
  obtain ⟨rfl, rfl, rfl⟩ := hv
  obtain ⟨i0, hi0, hz0, hz1, hz2⟩ := info_parts info_rbind
  have hjl : (j : Int) < L.length := by omega
  have hj0 : (0 : Int) ≤ j := by omega
  have hl2 : (L.length : Int) ≤ 64 := by omega
  obtain ⟨-, C, hC, hcap, ht, hlc, hm⟩ := rrow_open (cap := cv) hr
  have hcj : j ≤ cv := by omega
  have hcj2 : (j : Int) ≤ cv := by omega
  have hcj3 : (0 : Int) ≤ (j : Int) + 1 := by omega
  have hcj4 : (j : Int) + 1 ≤ L.length := by omega
  have hcj5 : j + 1 ≤ L.length := hj
  have f1 : Hid (((L.take j).map ch).flatten.length = j * 7) := by show _ = _; rw [chs_len, List.length_take]; congr 1; omega
  have o1 := Lib.hid (chs_one (L.take j))
  have f2 : Hid (((L.drop (j + 1)).map ch).flatten.length = (L.length - (j + 1)) * 7) := by show _ = _; rw [chs_len, List.length_drop]
  have o2 := Lib.hid (chs_one (L.drop (j + 1)))
  have n1 : Hid (∀ k u, ((L.take j).map ch).flatten[k]? = some u → w.cell? ((⟨gv, 0, none⟩ : Addr).add k) = some u) := fun k u hu => by
    have := rpart_cells (p := 0) (M := L.take j) hr (fun i x hx => take_get hx) k u hu
    rw [Nat.zero_mul] at this; exact this
  obtain ⟨ad, hadq, hadn⟩ : ∃ ad : Addr, some ad = (if cv = j + 1 then some ⟨gv, 0, none⟩ else some ⟨gv, (j + 1) * 7, none⟩) ∧ (¬ cv = j + 1 → ad = ⟨gv, (j + 1) * 7, none⟩) := by
    split
    · rename_i h0; exact ⟨_, rfl, fun h => absurd h0 h⟩
    · exact ⟨_, rfl, fun _ => rfl⟩
  have n2 : Hid (∀ w1, RfRow 0 w1 (.slice (some ⟨gv, 0, none⟩) L.length cv) L → ∀ k u, ((L.drop (j + 1)).map ch).flatten[k]? = some u → w1.cell? (ad.add k) = some u) := fun w1 hr k u hu => by
    by_cases hce : cv = j + 1
    · have : ((L.drop (j + 1)).map ch).flatten = [] := List.eq_nil_of_length_eq_zero (by rw [f2.out]; omega)
      rw [this] at hu; simp at hu
    · rw [hadn hce]
      exact rpart_cells (p := j + 1) (M := L.drop (j + 1)) hr (fun i x hx => by rwa [List.getElem?_drop] at hx) k u hu
  have HADQ := Lib.hid hadq
  have herL : Hid (((L.eraseIdx j).map ch).flatten = ((L.take j).map ch).flatten ++ ((L.drop (j + 1)).map ch).flatten) := by show _ = _; rw [List.eraseIdx_eq_take_drop_succ, List.map_append, List.flatten_append]
  have hel : Hid ((L.eraseIdx j).length = L.length - 1) := by show _ = _; rw [List.length_eraseIdx, if_pos hj]
  have hj9 := Lib.hid hj
  have HX := Lib.hid hx
  have HR := Lib.hid hr
  have x5 := hx.cell 5 _ rfl
  have gl := hx.lt
  simp only at x5
  clear hadq hadn hC ht hcap hr hx hg
  generalize ((L.take j).map ch).flatten = N1 at *
  generalize ((L.drop (j + 1)).map ch).flatten = M2 at *
  go_enter Try.func51, Try.ntmps51
  go_wp2_with (at_builtin; refine wpList_append_own _ rfl (.tmp 5) (.tmp 11) 62 rfl w.heap.size 73 i0 _ 7 56 Try.underlying62 hi0 hz0 hz1 hz2 rfl (by omega) (.slice none 0 0) 0 [] rfl (World.ownsRow_nil _ _ _ _) ⟨gv, 0, none⟩ j cv N1 rfl f1.out n1.out o1.out (by unfold maxLen; omega) (by omega) (Nat.le_refl _) ?_)
  intro v1 w1 hown hgrow _
  have t1 : Touch (fun _ => False) w w1 := Touch.of_grown hgrow (fun k hk => by simp [Value.ownBlock] at hk)
  have OWN := Lib.hid hown
  have X1 := HX.out.touch t1 (fun h => h)
  have N2 := Lib.hid (n2.out w1 (rrow_touch HR.out t1 (fun _ _ h => h)))
  have hs1 : Hid (w.heap.size ≤ w1.heap.size) := t1.size
  have B1 := Lib.hid (t1.below (B := w.heap.size) (Nat.le_refl _) (fun _ _ h => h.elim))
  clear x5 gl hown hgrow t1
  have x5 := X1.cell 5 _ rfl
  have gl := X1.lt
  simp only at x5
  clear X1
  go_wp2_with (at_builtin; refine wpList_append_own _ rfl (.tmp 14) (.tmp 21) 62 rfl w.heap.size 73 i0 _ 7 56 Try.underlying62 hi0 hz0 hz1 hz2 rfl (by omega) v1 j N1 rfl OWN.out ad (L.length - (j + 1)) (cv - (j + 1)) M2 (by simp [Act.eval]; exact HADQ.out.symm) f2.out N2.out o2.out (by unfold maxLen; omega) (by omega) hs1.out ?_)
  all_goals (
    intro v2 w2 hown hgrow _
    obtain ⟨sa, sn, sc, rfl⟩ := own_slice hown
    have B2 := Lib.hid (B1.out.grown hgrow hs1.out (fun k hk => (World.ownsRow.lt OWN.out k hk).1))
    have hrow : Hid (RfRow w.heap.size w2 (.slice sa sn sc) (L.eraseIdx j)) := by
      show World.ownsRow _ _ _ _ _ _ _
      rw [herL.out, hel.out]
      have e : j + (L.length - (j + 1)) = L.length - 1 := by have := hj9.out; omega
      have h := hown
      rw [e] at h
      exact h
    have X2 := HX.out.keep B2.out
    clear x5 gl hown hgrow
    have x5 := X2.cell 5 _ rfl
    have xf := X2.free 5 _ rfl
    have gl := X2.lt
    clear X2
    go_wp2_with fail
    refine bodyPost_ret (v := .tuple #[]) (by simp [results, Try.results51, go_sem]) rfl ⟨.slice sa sn sc, w2, rfl, hrow.out, B2.out, rfl⟩)
end Go.Proofs.Ytnemmnndaoaadaa
