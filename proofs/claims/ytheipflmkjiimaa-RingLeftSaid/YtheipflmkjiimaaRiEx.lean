/- The chapter's examples; a deed's list; rows that grow. -/
import Derived.Test.YtheipflmkjiimaaRiLaw
import Derived.OpenShut
namespace Go.Proofs.Ytheipflmkjiimaa
open Go.Sort Go.RowKit Go.BigFrame Go.ChangeShapes Go.WideShapes
set_option linter.unusedVariables false
set_option linter.unusedSimpArgs false

section
variable {w0 w w' : World} {H H1 H2 : List Hl} {u : Sl} {L : List Int}
theorem irow_form (h : IRow w u L) : w.ownsRow 0 3 1 (.slice u.a L.length u.c) L.length (L.map (Value.int .i64)) := by
  have hn := irow_n h
  obtain ⟨a, n, c⟩ := u
  simp only at hn
  subst hn
  exact h
theorem irow_lit (w : World) (xs : List Int) (hx : xs.length ≤ 1000) : IRow (w.alloc (.cells (xs.map (Value.int .i64)).toArray 3)) ⟨some ⟨w.heap.size, 0, none⟩, xs.length, xs.length⟩ xs :=
  ⟨by simp, .inr ⟨w.heap.size, xs.length, (xs.map (Value.int .i64)).toArray, rfl, Nat.zero_le _, heap_alloc_new _ _, Nat.le_refl _, by unfold maxLen; omega, by simp, by simp [List.take_of_length_le]⟩⟩
theorem St.lit (s : St w0 H w) (xs : List Int) (hx : xs.length ≤ 1000) : St w0 (hI ⟨some ⟨w.heap.size, 0, none⟩, xs.length, xs.length⟩ xs :: H) (w.alloc (.cells (xs.map (Value.int .i64)).toArray 3)) :=
  s.more (h := hI ⟨some ⟨w.heap.size, 0, none⟩, xs.length, xs.length⟩ xs) ((Below.refl _ w).alloc (Nat.le_refl _) _) (irow_lit w xs hx) (fun b hb => by
    have e : w.heap.size = b := Option.some.inj hb
    omega)
theorem St.emptyI (s : St w0 H w) : St w0 (hI ⟨none, 0, 0⟩ [] :: H) w := s.nil (h := hI ⟨none, 0, 0⟩ []) (irow_empty w) (fun b hb => by cases hb)
theorem St.ownI (s : St w0 H w) (hm : hI u L ∈ H) {n : Nat} (hn : L.length = n) : w.ownsRow 0 3 1 (.slice u.a n u.c) n (L.map (Value.int .i64)) := by
  subst hn; exact irow_form (s.get hm)
/-- one number is appended -/
theorem St.push (H1 H2 : List Hl) (s : St w0 (H1 ++ hI u L :: H2) w) {x : Int} {n g cap : Nat} (hn : L.length = n) (hown : w'.ownsRow 0 3 1 (.slice (some ⟨g, 0, none⟩) (n + 1) cap) (n + 1) (L.map (Value.int .i64) ++ [.int .i64 x])) (hgr : w.grownBy w' (Value.slice u.a n u.c).ownBlock) (hat : (Value.slice u.a n u.c).ownBlock = some g ∨ g = w.heap.size) :
    St w0 (H1 ++ hI ⟨some ⟨g, 0, none⟩, n + 1, cap⟩ (L ++ [x]) :: H2) w' := by
  subst hn
  refine s.aft (h' := hI ⟨some ⟨g, 0, none⟩, L.length + 1, cap⟩ (L ++ [x])) (Touch.of_grown hgr (fun k hk => own_eq hk)) ?_ (fun b hb => ?_)
  · show IRow _ _ _
    unfold IRow Sl.v
    simpa using hown
  · have e : g = b := Option.some.inj hb
    subst e
    rcases hat with h | h
    · exact .inl (own_eq h)
    · exact .inr (by omega)
end

theorem ex1 : idR 3 [] [7] = 7 ∧ leftR 3 [] [7] = [] ∧ stR 3 [] [7] = 3 := by decide +kernel
theorem ex2 : idR 3 [] [7, 8] = 7 ∧ leftR 3 [] [7, 8] = [8] ∧ stR 3 [] [7, 8] = 11400714819323198488 := by decide +kernel
theorem ex3 : idR 11400714819323198488 [8] [7, 8] = 8 ∧ leftR 11400714819323198488 [8] [7, 8] = [] ∧ stR 11400714819323198488 [8] [7, 8] = 11400714819323198488 := by decide +kernel
theorem ex4 : (someD 11400714819323198488 [1, 2, 3] 2).length = 2 ∧ (mixL 11400714819323198488 [1, 2, 3]).2 = 15755400384260043842 := by decide +kernel
set_option maxHeartbeats 1600000 in
set_option maxRecDepth 20000 in
theorem ex_any (w : World) : Calls Try.prog 8 #[] w fun e w' => e = .returned (.bool true) ∧ Below w.heap.size w w' := by
  have E1 := Lib.hid ex1
  have E2 := Lib.hid ex2
  have E3 := Lib.hid ex3
  have E4 := Lib.hid ex4
  have K0 := new_l 3 (St.start w w (Below.refl _ _))
  go_enter Try.func8, Try.ntmps8
  go_wp2_with fail
  refine K0.mono ?_; rintro e w1 ⟨g, rfl, s1⟩
  have K : Calls Try.prog 15 #[.pointer (some ⟨g, 0, none⟩), .slice none 0 0] w1 fun e w' => e = .returned (.tuple #[.int .i64 0, .bool false]) ∧ w1 = w' := next_none g 3 ⟨none, 0, 0⟩ [] none 0 w1 (s1.get (h := hR g 3 ⟨none, 0, 0⟩ []) (by simp))
  clear K0
  go_wp2_with fail
  refine K.mono ?_; rintro e w2 ⟨rfl, rfl⟩
  have S2 := Lib.hid (s1.lit [7] (by decide))
  clear K s1
  have K := next_l ⟨some ⟨w1.heap.size, 0, none⟩, 1, 1⟩ (l := [7]) (by decide) [hI ⟨some ⟨w1.heap.size, 0, none⟩, 1, 1⟩ [7]] [] (by simp) S2.out
  rw [E1.out.1, E1.out.2.1, E1.out.2.2] at K
  clear S2
  go_wp2_with fail
  refine K.mono ?_; rintro e w2 ⟨rfl, v2, s2⟩
  have S2 := Lib.hid (s2.lit [7, 8] (by decide))
  clear K s2
  have K := next_l ⟨some ⟨w2.heap.size, 0, none⟩, 2, 2⟩ (l := [7, 8]) (by decide) [hI ⟨some ⟨w2.heap.size, 0, none⟩, 2, 2⟩ [7, 8], _] [] (by simp) S2.out
  rw [E2.out.1, E2.out.2.1, E2.out.2.2] at K
  clear S2
  go_wp2_with fail
  refine K.mono ?_; rintro e w3 ⟨rfl, v3, s3⟩
  have S2 := Lib.hid (s3.lit [7, 8] (by decide))
  clear K s3
  have K := next_l ⟨some ⟨w3.heap.size, 0, none⟩, 2, 2⟩ (l := [7, 8]) (by decide) [hI ⟨some ⟨w3.heap.size, 0, none⟩, 2, 2⟩ [7, 8], _, _] [] (by simp) S2.out
  rw [E3.out.1, E3.out.2.1, E3.out.2.2] at K
  clear S2
  go_wp2_with fail
  refine K.mono ?_; rintro e w4 ⟨rfl, v4, s4⟩
  have K2 := left_l (g := g) (s := 11400714819323198488) (v := v4) (L := []) s4 (by simp)
  clear K s4
  go_wp2_with fail
  refine K2.mono ?_; rintro e w5 ⟨t5, rfl, s5⟩
  have S2 := Lib.hid (s5.lit [1, 2, 3] (by decide))
  clear K2 s5
  have K := some_l ⟨some ⟨w5.heap.size, 0, none⟩, 3, 3⟩ (l := [1, 2, 3]) 2 (by decide) [hI ⟨some ⟨w5.heap.size, 0, none⟩, 3, 3⟩ [1, 2, 3], _, _, _, _] [] (by simp) S2.out
  rw [E4.out.1, E4.out.2] at K
  clear S2
  go_wp2_with fail
  refine K.mono ?_; rintro e w6 ⟨t6, rfl, s6⟩
  have K2 := state_l (g := g) (s := 15755400384260043842) (v := v4) (L := []) s6 (by simp)
  have HB := Lib.hid s6.below
  clear K s6
  go_wp2_with fail
  refine K2.mono ?_; rintro e w7 ⟨rfl, rfl⟩
  clear K2
  go_wp2
  go_ret
  exact ⟨rfl, HB.out⟩
/-! a deed's list -/
def listD (zs : List Int) : List Int := (zs.take 12).map (· % 10)
theorem listD_len (zs : List Int) : (listD zs).length = min 12 zs.length := by simp [listD]
theorem listD_le (zs : List Int) : (listD zs).length ≤ 12 := by rw [listD_len]; omega
theorem listD_at {zs : List Int} {j : Nat} (h1 : j < zs.length) (h2 : j < 12) : (listD zs).take (j + 1) = (listD zs).take j ++ [zs.getD j 0 % 10] := by
  have hj : j < (listD zs).length := by rw [listD_len]; omega
  rw [List.take_succ_eq_append_getElem hj]
  congr 2
  simp [listD, List.getD_eq_getElem?_getD, h1]
def LJ (zs : List Int) (w : World) (b : Nat) (cs : List Value) (iv ov : Value) (wr : World) : Prop := ∃ (j : Nat) (u : Sl), iv = .int .i64 (j : Nat) ∧ j ≤ zs.length ∧ j ≤ 12 ∧ ov = .slice u.a j u.c ∧ St w [hI u ((listD zs).take j), hC b cs] wr
set_option maxHeartbeats 1600000 in
set_option maxRecDepth 20000 in
theorem list_any (so : Bool) (a : Option Addr) (n cap : Nat) (k : Int) (zs : List Int) (hn : Hid (zs.length = n)) (h8 : Hid (∀ z ∈ zs, 0 ≤ z ∧ z < 256)) (w : World) (hr : Rd .u8 w w.heap.size a zs) :
    Calls Try.prog 13 #[.agg #[.bool so, .slice a n cap, .int .i64 k]] w (fun e w' => ∃ u : Sl, e = .returned (.slice u.a (listD zs).length u.c) ∧ St w [hI u (listD zs)] w') := by
  have HR := Lib.hid hr
  obtain ⟨i1, hi1, hy0, hy1, hy2⟩ := info_parts info_int
  have S0 : Hid (St w [hI ⟨none, 0, 0⟩ [], hC w.heap.size [.bool so, .slice a n cap, .int .i64 k]] (w.alloc (.cells #[.bool so, .slice a n cap, .int .i64 k] 31))) := ((St.start w w (Below.refl _ _)).box [.bool so, .slice a n cap, .int .i64 k] 31).emptyI
  clear hr
  go_enter Try.func13, Try.ntmps13
  go_upto_region 2 with fail
  generalize (w.alloc (.cells #[.bool so, .slice a n cap, .int .i64 k] 31)) = w1 at *
  generalize w.heap.size = bx at S0 ⊢
  go_wp2_with fail
  go_loopw [3, 4] (fun ov iv wr => LJ zs w bx [.bool so, .slice a n cap, .int .i64 k] iv ov wr) (fun _ iv _ => 13 - (intOf iv).toNat)
  case atStart => exact ⟨0, _, rfl, Nat.zero_le _, by omega, rfl, S0.out⟩
  case round =>
    obtain ⟨j, u, rfl, hj, hj12, rfl, hs⟩ := hrel
    clear S0
    have HS := Lib.hid hs
    have x1 := (hs.cs (b := bx) (vs := [.bool so, .slice a n cap, .int .i64 k]) (by simp)).cell 1 _ rfl
    have xl := (hs.cs (b := bx) (vs := [.bool so, .slice a n cap, .int .i64 k]) (by simp)).lt
    have hjn : j ≤ n := by rw [← hn.out]; exact hj
    have hI0 : (0 : Int) ≤ j := by omega
    clear hs hj
    by_cases h1 : j < n
    · have h1' : (j : Int) < n := by omega
      have h1d : decide ((j : Int) < n) = true := decide_eq_true h1'
      by_cases h2 : j < 12
      · have h2' : (j : Int) < 12 := by omega
        have h2d : decide ((j : Int) < 12) = true := decide_eq_true h2'
        obtain ⟨b, o, rfl, hbl, hcc⟩ := (HR.out.keep HS.out.below) (by rw [hn.out]; omega)
        have c0 := hcc j (by rw [hn.out]; exact h1)
        have hx8 := h8.out (zs.getD j 0) (by rw [List.getD_eq_getElem?_getD, List.getElem?_eq_getElem (by rw [hn.out]; exact h1)]; exact List.getElem_mem _)
        have EQ := Lib.hid (listD_at (zs := zs) (j := j) (by rw [hn.out]; exact h1) h2)
        have hlen : Hid (((listD zs).take j).length = j) := by show _ = _; rw [List.length_take, listD_len, hn.out]; omega
        have hj1 : Hid (j + 1 ≤ zs.length) := by show _ ≤ _; rw [hn.out]; exact h1
        generalize zs.getD j 0 = x at *
        obtain ⟨q, hq⟩ : ∃ q, x % 10 = q := ⟨_, rfl⟩
        have hq2 : x.tmod 10 = q := by rw [tmod_pos _ _ hx8.1]; exact hq
        have q0 : 0 ≤ q ∧ q < 10 := by omega
        have cq := IntWalk.i64_in q ⟨by omega, by omega⟩
        have cq8 := IntWalk.u8_in q ⟨by omega, by omega⟩
        rw [hq] at EQ
        have OW : Hid (∀ o, (wr.alloc o).ownsRow 0 3 1 (.slice u.a j u.c) j (((listD zs).take j).map (Value.int .i64))) := fun o => (HS.out.alloc o).ownI (by simp) hlen.out
        clear hcc hq
        go_wp2_with (at_builtin; refine wpList_append_lies _ rfl (.tmp 16) (.tmp 24) 33 rfl 0 3 i1 (.int .i64 0) 1 8 Try.underlying33 hi1 hy0 hy1 hy2 rfl (by omega) (.slice u.a j u.c) j (((listD zs).take j).map (Value.int .i64)) rfl (OW.out _) ⟨_, 0, none⟩ 1 1 [.int .i64 q] rfl rfl (World.news_of_block (cs := #[.int .i64 q]) (t := 3) (fr := (0, 0)) (heap_alloc_new _ _)) (by simp [Value.oneCell']) (by omega) (by unfold maxLen; omega) (by omega) (by simp) _ rfl ?_)
        intro g1 cap1 w9 hown hgrow hat hlt9
        have FIN := Lib.hid ((HS.out.alloc (.cells #[.int .i64 q] 3)).push [] [_] hlen.out (x := q) (by simpa using hown) hgrow (hat.imp id (fun h => by simpa using h)))
        rw [← EQ.out] at FIN
        clear hown hgrow hat OW HS EQ
        go_wp2_with fail
        go_roundw
        case rel => exact ⟨j + 1, ⟨some ⟨g1, 0, none⟩, j + 1, cap1⟩, by go_num, hj1.out, h2, rfl, FIN.out⟩
        case measure => simp [intOf]; omega
      · obtain rfl : j = 12 := by omega
        have h2d : decide (((12 : Nat) : Int) < 12) = false := rfl
        have e : (listD zs).take 12 = listD zs := List.take_of_length_le (listD_le zs)
        rw [e] at HS
        have hlen : Hid ((listD zs).length = 12) := by show _ = _; rw [listD_len, hn.out]; omega
        have FIN := Lib.hid (HS.out.sub (H' := [hI u (listD zs)]) (by simp))
        clear HS e
        go_wp2
        go_ret
        exact ⟨u, by rw [hlen.out]; rfl, FIN.out⟩
    · obtain rfl : j = n := by omega
      have h1d : decide ((j : Int) < j) = false := decide_eq_false (by omega)
      have hlen : Hid ((listD zs).length = j) := by show _ = _; rw [listD_len, hn.out]; omega
      have e : (listD zs).take j = listD zs := List.take_of_length_le (by rw [hlen.out]; exact Nat.le_refl _)
      rw [e] at HS
      have FIN := Lib.hid (HS.out.sub (H' := [hI u (listD zs)]) (by simp))
      clear HS e
      go_wp2
      go_ret
      exact ⟨u, by rw [hlen.out]; rfl, FIN.out⟩
/-- the same within a law -/
theorem list_l {w0 w : World} {H : List Hl} (st : St w0 H w) (so : Bool) (a : Option Addr) (n cap : Nat) (k : Int) (zs : List Int) (hn : Hid (zs.length = n)) (h8 : Hid (∀ z ∈ zs, 0 ≤ z ∧ z < 256)) (hr : Rd .u8 w0 w0.heap.size a zs) :
    Calls Try.prog 13 #[.agg #[.bool so, .slice a n cap, .int .i64 k]] w (fun e w' => ∃ u : Sl, e = .returned (.slice u.a (listD zs).length u.c) ∧ St w0 (hI u (listD zs) :: H) w') :=
  (list_any so a n cap k zs hn h8 w (hr.keep st.below)).mono fun e w' ⟨u, he, s⟩ => ⟨u, he, st.more (h := hI u (listD zs)) s.below (s.get (h := hI u (listD zs)) (by simp)) (s.all (hI u (listD zs)) (by simp)).2⟩
theorem list_b (so : Bool) (a : Option Addr) (n cap : Nat) (k : Int) (zs : List Int) (hn : Hid (zs.length = n)) (h8 : Hid (∀ z ∈ zs, 0 ≤ z ∧ z < 256)) (w : World) (hr : Rd .u8 w w.heap.size a zs) :
    Calls Try.prog 13 #[.agg #[.bool so, .slice a n cap, .int .i64 k]] w (fun e w' => ∃ u : Sl, e = .returned (.slice u.a (listD zs).length u.c) ∧ Below w.heap.size w w') :=
  (list_any so a n cap k zs hn h8 w hr).mono fun e w' ⟨u, he, s⟩ => ⟨u, he, s.below⟩
/-- a slice of bytes that came in -/
theorem arg_u8 {w : World} {a : Option Addr} {len cap : Nat} {zs : List Int} (wz : ArgRow .u8 w a len cap zs) : ∃ ys : List Int, ys.length = len ∧ (∀ z ∈ ys, 0 ≤ z ∧ z < 256) ∧ Rd .u8 w w.heap.size a ys ∧ len ≤ 9223372036854775807 := by
  rcases wz with ⟨rfl, rfl, rfl, rfl⟩ | ⟨x, rfl, h1, h2, h3, h4, h5⟩
  · exact ⟨[], rfl, by simp, Rd.nil _ _ _ _, by omega⟩
  · have hl : (zs.take len).length = len := by rw [List.length_take]; omega
    refine ⟨zs.take len, hl, fun z hz => ?_, fun hp => ?_, by unfold maxLen at h2; omega⟩
    · have := bounds_u8 (h5 z (List.mem_of_mem_take hz)); omega
    · obtain ⟨b, off, spot⟩ := x
      have h0 := h4 0 (by omega)
      have hs : spot = none := by simpa [Addr.add] using World.cell?_spot h0
      subst hs
      refine ⟨b, off, rfl, by simpa [Addr.add] using World.block_lt_of_cell? _ _ h0, fun i hi => ?_⟩
      have := h4 i (by omega)
      rw [add_at] at this
      rw [this]
      have : i < len := by omega
      simp [List.getD_eq_getElem?_getD, List.getElem?_take, this]
end Go.Proofs.Ytheipflmkjiimaa
