/- slices.SortStableFunc over whole numbers that are ordered by a row that a closure reads: insertion (fewer than 20). -/
import Derived.Test.YtdehpiaokjihjaaPlFar
import Derived.Test.YtdehpiaokjihjaaERow
import Derived.Test.YtdehpiaokjihjaaSortK
import Derived.BigRegion
namespace Go.Proofs.Ytdehpiaokjihjaa
open Go.Sort Go.RowKit Go.BigFrame
set_option linter.unusedVariables false
set_option linter.unusedSimpArgs false

def cmpI (a b : Int) : Int := if a < b then -1 else if a > b then 1 else 0
theorem cmpI_lt {a b : Int} (h : a < b) : cmpI a b = -1 := if_pos h
theorem cmpI_ge {a b : Int} (h : ¬ a < b) : 0 ≤ cmpI a b := by unfold cmpI; rw [if_neg h]; split <;> omega
theorem nan_no (a : Int) (w : World) : Calls Try.prog 34 #[.int .u64 a] w fun e w' => e = .returned (.bool false) ∧ w = w' := by
  go_enter Try.func34, Try.ntmps34
  go_wp2
  go_ret
  exact ⟨by simp, rfl⟩
set_option maxHeartbeats 1000000 in
theorem cmp_any (a b : Int) (w : World) : Calls Try.prog 31 #[.int .u64 a, .int .u64 b] w fun e w' => e = .returned (.int .i64 (cmpI a b)) ∧ w = w' := by
  have K := nan_no
  unfold cmpI
  by_cases h1 : a < b
  · rw [if_pos h1]
    go_enter Try.func31, Try.ntmps31
    go_wp2_with fail
    refine (K _ _).mono ?_; rintro e w1 ⟨rfl, rfl⟩
    go_wp2_with fail
    refine (K _ _).mono ?_; rintro e w1 ⟨rfl, rfl⟩
    go_wp2
    go_ret
    exact ⟨rfl, rfl⟩
  · rw [if_neg h1]
    by_cases h2 : a > b
    · rw [if_pos h2]
      go_enter Try.func31, Try.ntmps31
      go_wp2_with fail
      refine (K _ _).mono ?_; rintro e w1 ⟨rfl, rfl⟩
      go_wp2_with fail
      refine (K _ _).mono ?_; rintro e w1 ⟨rfl, rfl⟩
      go_wp2
      go_ret
      exact ⟨rfl, rfl⟩
    · rw [if_neg h2]
      go_enter Try.func31, Try.ntmps31
      go_wp2_with fail
      refine (K _ _).mono ?_; rintro e w1 ⟨rfl, rfl⟩
      go_wp2_with fail
      refine (K _ _).mono ?_; rintro e w1 ⟨rfl, rfl⟩
      go_wp2
      go_ret
      exact ⟨rfl, rfl⟩

/-- the row that the order is told by, and the box of its slice -/
structure Env (fx fb : Nat) (F : List Int) (fc : Nat) (w : World) : Prop where
  box : w.cell? ⟨fx, 0, none⟩ = some (.slice (some ⟨fb, 0, none⟩) F.length fc)
  row : ∀ i d, F[i]? = some d → w.cell? ⟨fb, i, none⟩ = some (.int .u64 d)
  xl : fx < w.heap.size
  bl : fb < w.heap.size
theorem Env.touch {fx fb fc : Nat} {F : List Int} {w w' : World} {G : Nat → Prop} (h : Env fx fb F fc w) (ht : Touch G w w') (h1 : ¬ G fx) (h2 : ¬ G fb) : Env fx fb F fc w' :=
  ⟨(ht.cell (p := ⟨fx, 0, none⟩) h.xl h1).trans h.box, fun i d hd => (ht.cell (p := ⟨fb, i, none⟩) h.bl h2).trans (h.row i d hd), Nat.lt_of_lt_of_le h.xl ht.size, Nat.lt_of_lt_of_le h.bl ht.size⟩
theorem Env.keep {fx fb fc : Nat} {F : List Int} {w w' : World} (h : Env fx fb F fc w) (hb : Below w.heap.size w w') : Env fx fb F fc w' := h.touch (Touch.of_below (fun _ => False) hb) (fun h => h) (fun h => h)
theorem keyF_at {F : List Int} {x : Int} {n : Nat} (h : x = n) (hn : n < F.length) : F[n]? = some (keyF F x) := by
  subst h
  unfold keyF
  rw [Int.toNat_natCast, List.getD_eq_getElem?_getD, List.getElem?_eq_getElem hn]; rfl
set_option maxHeartbeats 1600000 in
theorem first_any (fx fb fc : Nat) (F : List Int) (hF : F.length ≤ 1000000) (x y : Int) (hx : 0 ≤ x ∧ x < F.length) (hy : 0 ≤ y ∧ y < F.length) (w : World) (h : Env fx fb F fc w) :
    Calls Try.prog 30 #[.int .i64 x, .int .i64 y, .pointer (some ⟨fx, 0, none⟩)] w fun e w' => e = .returned (.int .i64 (cmpI (keyF F x) (keyF F y))) ∧ Below w.heap.size w w' := by
  obtain ⟨n, rfl⟩ : ∃ n : Nat, x = n := ⟨x.toNat, by omega⟩
  obtain ⟨m, rfl⟩ : ∃ n : Nat, y = n := ⟨y.toNat, by omega⟩
  have hn : n < F.length := by omega
  have hm : m < F.length := by omega
  have c1 := h.row n _ (keyF_at rfl hn)
  have c2 := h.row m _ (keyF_at rfl hm)
  have c0 := h.box
  have xl := h.xl
  have bl := h.bl
  obtain ⟨x1, x2⟩ := hx
  obtain ⟨y1, y2⟩ := hy
  clear h
  generalize keyF F n = a at *
  generalize keyF F m = b at *
  generalize F.length = len at *
  go_enter Try.func30, Try.ntmps30
  go_upto_region 1 with fail
  have c0 := cell_regrown c0
  have c1 := cell_regrown c1
  have c2 := cell_regrown c2
  have C := fun d os => Calls.regrown_of ((cmp_any a b (grow (redrawn w d) os)).mono (R' := fun e w2 => e = .returned (.int .i64 (cmpI a b)) ∧ Below (grow (redrawn w d) os).heap.size (grow (redrawn w d) os) w2) (fun e w2 ⟨h1, h2⟩ => ⟨h1, by rw [← h2]; exact Below.refl _ _⟩))
  (refine wp_region_quiet_below (by kernel_rfl) (by kernel_rfl) ?_; (repeat (go_big_quiet_step (first | with_reducible exact C _ _))); refine wpQuiet_nil ?_; intro _ hw'; obtain ⟨⟨dq, osq⟩, hw''⟩ := hw'; subst hw'')
  go_wp2
  go_ret
  exact ⟨rfl, below_regrown w dq osq⟩

/-! a row of indexes that is sorted in place -/
structure SI (fx fb : Nat) (F : List Int) (fc g cap : Nat) (D : List Int) (w0 w : World) : Prop where
  row : ∃ C, Rw 1 g 3 C w ∧ C.length = cap ∧ C.take D.length = D.map c64 ∧ D.length ≤ cap
  touch : Touch (fun k => k = g) w0 w
  env : Env fx fb F fc w
  nx : fx ≠ g
  nb : fb ≠ g
  dom : ∀ x ∈ D, 0 ≤ x ∧ x < (F.length : Int)
section
variable {fx fb fc g cap : Nat} {F D : List Int} {w0 w w' : World}
theorem SI.cell (h : SI fx fb F fc g cap D w0 w) {i : Nat} {x : Int} (hx : D[i]? = some x) : w.cell? ⟨g, i, none⟩ = some (.int .i64 x) := by
  obtain ⟨C, hC, _, ht, _⟩ := h.row
  have := hC.cell i 0 _ _ (taken_at ht hx) (rfl : (c64 x)[0]? = some _)
  simpa using this
theorem SI.free (h : SI fx fb F fc g cap D w0 w) (o : Nat) : w.frozen? ⟨g, o, none⟩ = false := by
  obtain ⟨C, hC, _⟩ := h.row
  exact hC.free o
theorem SI.lt (h : SI fx fb F fc g cap D w0 w) : g < w.heap.size := by
  obtain ⟨C, hC, _⟩ := h.row
  exact hC.lt
theorem SI.keep (h : SI fx fb F fc g cap D w0 w) (hb : Below w.heap.size w w') : SI fx fb F fc g cap D w0 w' := by
  obtain ⟨C, hC, h2⟩ := h.row
  exact ⟨⟨C, hC.touch (Touch.of_below (fun _ => False) hb) (fun h => h), h2⟩, h.touch.trans (Touch.of_below (fun _ => False) hb) (fun _ _ h => h.elim), h.env.keep hb, h.nx, h.nb, h.dom⟩
theorem SI.put (h : SI fx fb F fc g cap D w0 w) (i : Nat) (x : Int) (hi : i < D.length) (hx : x ∈ D) : SI fx fb F fc g cap (D.set i x) w0 (w.setCell ⟨g, i, none⟩ (.int .i64 x)) := by
  obtain ⟨C, hC, hl, ht, hc⟩ := h.row
  have hp := hC.put i (c64 x) rfl (by omega)
  simp only [c64, World.setCells, Nat.mul_one] at hp
  have T := Touch.set (F := fun k => k = g) (Touch.refl _ w) (a := ⟨g, i, none⟩) (fun _ => rfl) (.int .i64 x)
  refine ⟨⟨C.set i (c64 x), hp, by rw [List.length_set]; exact hl, ?_, by rw [List.length_set]; exact hc⟩, h.touch.trans T (fun _ _ h => h), h.env.touch T h.nx h.nb, h.nx, h.nb, fun y hy => ?_⟩
  · rw [List.length_set, List.take_set, ht, List.map_set]
  · rcases List.mem_or_eq_of_mem_set hy with h1 | rfl
    · exact h.dom y h1
    · exact h.dom y hx
theorem SI.swap (h : SI fx fb F fc g cap D w0 w) (i j : Nat) (x y : Int) (hx : D[j]? = some x) (hy : D[i]? = some y) : SI fx fb F fc g cap (swp D i j x y) w0 ((w.setCell ⟨g, i, none⟩ (.int .i64 x)).setCell ⟨g, j, none⟩ (.int .i64 y)) := by
  have hi := (List.getElem?_eq_some_iff.1 hy).1
  have hj := (List.getElem?_eq_some_iff.1 hx).1
  have h1 := h.put i x hi (List.mem_of_getElem? hx)
  by_cases hxy : y ∈ D.set i x
  · exact h1.put j y (by rw [List.length_set]; exact hj) hxy
  · -- the place i held y alone: then j is not i, and what stands at j is not y
    have hd := h.dom y (List.mem_of_getElem? hy)
    obtain ⟨C, hC, hl, ht, hc⟩ := h1.row
    have hp := hC.put j (c64 y) rfl (by rw [List.length_set] at hc; omega)
    simp only [c64, World.setCells, Nat.mul_one] at hp
    have T := Touch.set (F := fun k => k = g) (Touch.refl _ (w.setCell ⟨g, i, none⟩ (.int .i64 x))) (a := ⟨g, j, none⟩) (fun _ => rfl) (.int .i64 y)
    refine ⟨⟨C.set j (c64 y), hp, by rw [List.length_set]; exact hl, ?_, by unfold swp; rw [List.length_set]; exact hc⟩, h1.touch.trans T (fun _ _ h => h), h1.env.touch T h.nx h.nb, h.nx, h.nb, fun z hz => ?_⟩
    · unfold swp; rw [List.length_set, List.take_set, ht, List.map_set, List.map_set, List.map_set]
    · rcases List.mem_or_eq_of_mem_set (show z ∈ (D.set i x).set j y from hz) with h3 | rfl
      · exact h1.dom z h3
      · exact hd
theorem SI.first (h : SI fx fb F fc g cap D w0 w) (hF : F.length ≤ 1000000) {i j : Nat} {x y : Int} (hx : D[i]? = some x) (hy : D[j]? = some y) (w1 : World) (hb : Below w.heap.size w w1) :
    Calls Try.prog 30 #[.int .i64 x, .int .i64 y, .pointer (some ⟨fx, 0, none⟩)] w1 fun e w' => e = .returned (.int .i64 (cmpI (keyF F x) (keyF F y))) ∧ Below w1.heap.size w1 w' :=
  first_any fx fb fc F hF x y (h.dom x (List.mem_of_getElem? hx)) (h.dom y (List.mem_of_getElem? hy)) w1 (h.env.keep hb)
end
def fvN (fx : Nat) : Value := .func (.func 30) #[] #[.pointer (some ⟨fx, 0, none⟩)]
def InsOJ (X M Z : List Int) (fx fb : Nat) (F : List Int) (fc g cap : Nat) (w0 : World) (iv : Value) (wr : World) : Prop := ∃ (i : Nat) (D : List Int), iv = .int .i64 (i : Nat) ∧ InsO (keyF F) X M Z i D ∧ SI fx fb F fc g cap D w0 wr
def InsNJ (X M Z : List Int) (i fx fb : Nat) (F : List Int) (fc g cap : Nat) (w0 : World) (jv : Value) (wr : World) : Prop := ∃ (j : Nat) (D : List Int), jv = .int .i64 (j : Nat) ∧ InsN (keyF F) X M Z i j D ∧ SI fx fb F fc g cap D w0 wr
def MergePost (fx fb : Nat) (F : List Int) (fc g cap : Nat) (X M Z : List Int) (w0 : World) (e : Ending) (w' : World) : Prop := e = .returned (.tuple #[]) ∧ ∃ D, Merged (keyF F) X M Z D ∧ SI fx fb F fc g cap D w0 w'
set_option maxHeartbeats 3200000 in
theorem ins_any (fx fb : Nat) (F : List Int) (fc : Nat) (hF : F.length ≤ 1000000) (X M Z : List Int) (n g cap : Nat) (hn : n = X.length + M.length + Z.length) (hl : n ≤ 1000000) (w0 w : World) (h : SI fx fb F fc g cap (X ++ M ++ Z) w0 w) (av bv : Int) (ha : av = (X.length : Nat)) (hb : bv = ((X.length + M.length : Nat) : Int)) :
    Calls Try.prog 36 #[.slice (some ⟨g, 0, none⟩) n cap, .int .i64 av, .int .i64 bv, .func (.func 30) #[] #[.pointer (some ⟨fx, 0, none⟩)]] w (MergePost fx fb F fc g cap X M Z w0) := by
  subst ha hb
  by_cases hm : M.length = 0
  · obtain rfl : M = [] := List.eq_nil_of_length_eq_zero hm
    have FF : Hid (∃ D, Merged (keyF F) X [] Z D ∧ SI fx fb F fc g cap D w0 w) := ⟨_, ⟨[], rfl, srt_nil, Eqv.refl _⟩, h⟩
    simp only [List.length_nil, Nat.add_zero] at hn ⊢
    have h0 : (0 : Int) ≤ X.length := by omega
    have h1 : (X.length : Int) ≤ 1000000 := by omega
    clear h hn
    generalize X.length = p at *
    go_enter Try.func36, Try.ntmps36
    go_wp2_with fail
    go_loopw [8] (fun iv wr => iv = .int .i64 ((p : Int) + 1) ∧ wr = w) (fun _ _ => 0)
    case atStart => exact ⟨by go_num, rfl⟩
    case round =>
      obtain ⟨rfl, rfl⟩ := hrel
      have h3 : decide ((p : Int) + 1 < p) = false := decide_eq_false (by omega)
      go_wp2_with fail
      refine bodyPost_ret (v := (.tuple #[])) (by simp [results, Try.results36, go_sem, *]) rfl ?_
      exact ⟨rfl, FF.out⟩
  · have S0 : Hid (InsOJ X M Z fx fb F fc g cap w0 (.int .i64 ((X.length + 1 : Nat) : Int)) w) := ⟨_, _, rfl, InsO.start (by omega), h⟩
    have HN2 : Hid (∀ i j D, InsN (keyF F) X M Z i j D → D.length = n) := fun i j D h => by rw [h.le.2.2.2, hn]
    have HI : Hid (∀ i D, InsO (keyF F) X M Z i D → i < X.length + M.length → InsN (keyF F) X M Z i i D) := fun i D h h2 => h.inner h2
    have HD : Hid (∀ i D, InsO (keyF F) X M Z i D → ¬ i < X.length + M.length → Merged (keyF F) X M Z D) := fun i D h h2 => h.done h2
    have HL : Hid (∀ i j D, InsN (keyF F) X M Z i j D → X.length ≤ j ∧ j ≤ i ∧ i < X.length + M.length) := fun i j D h => ⟨h.le.1, h.le.2.1, h.le.2.2.1⟩
    have HF : Hid (∀ i j D, InsN (keyF F) X M Z i j D → j ≤ X.length → InsO (keyF F) X M Z (i + 1) D) := fun i j D h h2 => by
      obtain rfl : j = X.length := by have := h.le.1; omega
      exact h.first
    have HK : Hid (∀ i j D, InsN (keyF F) X M Z i j D → X.length < j → ∃ x y, D[j]? = some x ∧ D[j - 1]? = some y ∧ (keyF F x < keyF F y → InsN (keyF F) X M Z i (j - 1) (swp D j (j - 1) y x)) ∧ (¬ keyF F x < keyF F y → InsO (keyF F) X M Z (i + 1) D)) := fun i j D h h2 => h.look h2
    have HFL := Lib.hid hF
    have h0 : (0 : Int) ≤ X.length := by omega
    have h1 : (X.length : Int) ≤ 1000000 := by omega
    have h2 : ((X.length + M.length : Nat) : Int) ≤ n := by omega
    have h3 : X.length + M.length ≤ n := by omega
    have h4 : (n : Int) ≤ 1000000 := by omega
    clear h hn hm hF
    generalize X.length + M.length = b at *
    generalize X.length = p at *
    go_enter Try.func36, Try.ntmps36
    go_wp2_with fail
    go_loopw [8] (fun iv wr => InsOJ X M Z fx fb F fc g cap w0 iv wr) (fun iv _ => b - (intOf iv).toNat)
    case atStart => exact S0.out
    case round =>
      obtain ⟨i, D, rfl, hI, hS⟩ := hrel
      clear S0
      have hi0 : (0 : Int) ≤ i := by omega
      by_cases hlt : i < b
      · have hlt' : (i : Int) < b := by omega
        have N0 : Hid (InsNJ X M Z i fx fb F fc g cap w0 (.int .i64 (i : Nat)) wr) := ⟨_, _, rfl, HI.out _ _ hI hlt, hS⟩
        clear hI hS
        go_wp2_with fail
        go_loopw [9] (fun jv wr => InsNJ X M Z i fx fb F fc g cap w0 jv wr) (fun jv _ => (intOf jv).toNat)
        case atStart => exact N0.out
        case round =>
          obtain ⟨j, D, rfl, hI, hS⟩ := hrel
          clear N0
          obtain ⟨l1, l2, -⟩ := HL.out _ _ _ hI
          have hj0 : (0 : Int) ≤ j := by omega
          by_cases hj : p < j
          · obtain ⟨x, y, hx, hy, k1, k2⟩ := HK.out _ _ _ hI hj
            have hDl := HN2.out _ _ _ hI
            have hgt : (p : Int) < j := by omega
            have hjn : (j : Int) < n := by omega
            have hjm : (j : Int) - 1 = ((j - 1 : Nat) : Int) := by omega
            have c0 := hS.cell hx
            have d0 := hS.cell hy
            have HS := Lib.hid hS
            have HX := Lib.hid hx
            have HY := Lib.hid hy
            have K1 := Lib.hid k1
            have K2 := Lib.hid k2
            have gl := hS.lt
            have hlj : j - 1 < j := by omega
            have hj1 : (0 : Int) ≤ ((j - 1 : Nat) : Int) := by omega
            have hj2 : ((j - 1 : Nat) : Int) < n := by omega
            have hj3 : j < n := by omega
            have hj4 : j - 1 < n := by omega
            have N1 := hS.first HFL.out hx hy
            clear hI hS hx hy k1 k2 hDl
            have hi1 : (i : Int) ≤ 1000000 := by omega
            have HIL := Lib.hid l2
            clear l1 l2 hj
            generalize j - 1 = jm at *
            go_wp2_with fail
            have hC := Lib.hid c0
            have c0 := cell_regrown c0
            have d0 := cell_regrown d0
            have KK := fun d os => Calls.regrown_of (N1 (grow (redrawn wr d) os) (below_regrown wr d os))
            clear N1 hC
            by_cases hxy : keyF F x < keyF F y
            · rw [cmpI_lt hxy] at KK
              have HO := Lib.hid (K1.out hxy)
              clear K1 K2 hxy
              (refine wp_region_quiet_below (by kernel_rfl) (by kernel_rfl) ?_; (repeat (go_big_quiet_step (first | with_reducible exact KK _ _))); refine wpQuiet_nil ?_; intro _ hw'; obtain ⟨⟨dq, osq⟩, hw''⟩ := hw'; subst hw'')
              have bq := below_regrown wr dq osq
              have c0 := c0 dq osq
              have d0 := d0 dq osq
              clear KK
              have SS := Lib.hid (HS.out.keep bq)
              have gl := Nat.lt_of_lt_of_le gl bq.size
              clear bq HS
              simp only at *
              generalize grow (redrawn wr dq) osq = w2 at *
              have hsw := Lib.hid (SS.out.swap j jm y x HY.out HX.out)
              have fr := fun o => SS.out.free o
              go_wp2_with fail
              go_region
              go_wp2_with fail
              go_roundw
              case rel => exact ⟨jm, _, by go_num, HO.out, hsw.out.keep ((Below.refl _ _).drew)⟩
              case measure => simp [intOf]; omega
            · have hge := cmpI_ge hxy
              generalize cmpI (keyF F x) (keyF F y) = cc at *
              have HO := Lib.hid (K2.out (by omega))
              clear K1 K2 hxy
              have hcc : decide (cc < 0) = false := decide_eq_false (by omega)
              (refine wp_region_quiet_below (by kernel_rfl) (by kernel_rfl) ?_; (repeat (go_big_quiet_step (first | with_reducible exact KK _ _))); refine wpQuiet_nil ?_; intro _ hw'; obtain ⟨⟨dq, osq⟩, hw''⟩ := hw'; subst hw'')
              have bq := below_regrown wr dq osq
              clear KK c0 d0
              have SS := Lib.hid (HS.out.keep bq)
              clear bq HS
              simp only at *
              generalize grow (redrawn wr dq) osq = w2 at *
              go_wp2_with fail
              go_roundw
              case rel => exact ⟨i + 1, D, by go_num, HO.out, SS.out⟩
              case measure => simp [intOf]; omega
          · have hge : decide ((p : Int) < j) = false := decide_eq_false (by omega)
            have hge2 : decide (p < j) = false := decide_eq_false (by omega)
            have HO := Lib.hid (HF.out _ _ _ hI (by omega))
            have hi1 : (i : Int) ≤ 1000000 := by omega
            clear hI l1 l2 hj
            have SS := Lib.hid hS
            clear hS
            go_wp2_with fail
            go_quiet (fail)
            have bq : Below wr.heap.size wr (wr.drewN nq) := below_drewN (Below.refl _ _) _
            have SS := Lib.hid (SS.out.keep bq)
            clear bq
            generalize wr.drewN nq = w2 at *
            go_wp2_with fail
            go_roundw
            case rel => exact ⟨i + 1, D, by go_num, HO.out, SS.out⟩
            case measure => simp [intOf]; omega
      · have HO := Lib.hid (HD.out _ _ hI hlt)
        have hge : decide ((i : Int) < b) = false := decide_eq_false (by omega)
        have hge2 : decide (i < b) = false := decide_eq_false (by omega)
        have hge3 : (b : Int) ≤ i := by omega
        have hge4 : b ≤ i := by omega
        have SS := Lib.hid hS
        clear hI hS hlt
        go_wp2_with fail
        refine bodyPost_ret (v := (.tuple #[])) (by simp [results, Try.results36, go_sem, *]) rfl ?_
        exact ⟨rfl, D, HO.out, SS.out⟩
end Go.Proofs.Ytdehpiaokjihjaa
