/- place.Nearest, at fewer than 20 places. -/
import Derived.Test.YtdehpiaokjihjaaSrtI
namespace Go.Proofs.Ytdehpiaokjihjaa
open Go.Sort Go.RowKit Go.BigFrame
set_option linter.unusedVariables false
set_option linter.unusedSimpArgs false

def StPost (fx fb : Nat) (F : List Int) (fc g cap : Nat) (D0 : List Int) (w0 : World) (e : Ending) (w' : World) : Prop := e = .returned (.tuple #[]) ∧ ∃ D, Srt (keyF F) D ∧ Eqv (keyF F) D0 D ∧ SI fx fb F fc g cap D w0 w'
set_option maxHeartbeats 3200000 in
theorem stable_any (fx fb : Nat) (F : List Int) (fc : Nat) (hF : F.length ≤ 1000000) (D0 : List Int) (n g cap : Nat) (hn : n = D0.length) (hl : n < 20) (w0 w : World) (h : SI fx fb F fc g cap D0 w0 w) :
    Calls Try.prog 33 #[.slice (some ⟨g, 0, none⟩) n cap, .int .i64 (n : Nat), .func (.func 30) #[] #[.pointer (some ⟨fx, 0, none⟩)]] w (StPost fx fb F fc g cap D0 w0) := by
  have C := ins_any fx fb F fc hF [] D0 [] n g cap (by simpa using hn) (by omega) w0 w (by simpa using h) 0 (n : Nat) rfl (by simp [hn])
  have hb : decide ((20 : Int) ≤ (n : Int)) = false := decide_eq_false (by omega)
  have hb2 : decide (20 ≤ n) = false := decide_eq_false (by omega)
  have hb3 : decide ((20 : Int) < (n : Int)) = false := decide_eq_false (by omega)
  have hb4 : decide (20 < n) = false := decide_eq_false (by omega)
  clear h hn hF hl
  go_enter Try.func33, Try.ntmps33
  go_wp2_with fail
  go_loopw [7, 8] (fun av bv wr => av = .int .i64 0 ∧ bv = .int .i64 20 ∧ wr = w) (fun _ _ _ => 0)
  case atStart => exact ⟨rfl, rfl, rfl⟩
  case round =>
    obtain ⟨rfl, rfl, rfl⟩ := hrel
    go_wp2_with fail
    refine C.mono ?_; rintro e w1 ⟨rfl, D, ⟨M, rfl, hs, he⟩, hS⟩
    have FF : Hid (Srt (keyF F) M ∧ Eqv (keyF F) D0 M ∧ SI fx fb F fc g cap M w0 w1) := ⟨hs, he, by simpa using hS⟩
    clear C hs he hS
    go_wp2_with fail
    go_loopw [6] (fun sv wr => sv = .int .i64 20 ∧ wr = w1) (fun _ _ => 0)
    case atStart => exact ⟨rfl, rfl⟩
    case round =>
      obtain ⟨rfl, rfl⟩ := hrel
      go_wp2_with fail
      refine bodyPost_ret (v := (.tuple #[])) (by simp [results, Try.results33, go_sem, *]) rfl ?_
      exact ⟨rfl, M, FF.out⟩
set_option maxHeartbeats 1600000 in
theorem sort_any (fx fb : Nat) (F : List Int) (fc : Nat) (hF : F.length ≤ 1000000) (D0 : List Int) (n g cap : Nat) (hn : n = D0.length) (hl : n < 20) (w0 w : World) (h : SI fx fb F fc g cap D0 w0 w) :
    Calls Try.prog 29 #[.slice (some ⟨g, 0, none⟩) n cap, .func (.func 30) #[] #[.pointer (some ⟨fx, 0, none⟩)]] w (StPost fx fb F fc g cap D0 w0) := by
  have C := stable_any fx fb F fc hF D0 n g cap hn hl w0 w h
  clear h hn hF hl
  go_enter Try.func29, Try.ntmps29
  go_wp2_with fail
  refine C.mono ?_; rintro e w1 ⟨rfl, hp⟩
  clear C
  go_wp2
  refine bodyPost_ret (v := (.tuple #[])) (by simp [results, Try.results29, go_sem, *]) rfl ?_
  exact ⟨rfl, hp⟩

/-! places -/
def cc (x : Nat × Nat) : List Value := [.complex .f64 x.1 x.2]
theorem cc_enc : Enc cc 1 := ⟨by decide, fun _ => rfl, fun x u hu => by
  simp only [cc, List.mem_cons, List.not_mem_nil, or_false] at hu
  rcases hu with rfl; rfl⟩
/-- how far each is -/
def FarB (x y : Nat) (L : List (Nat × Nat)) (F : List Int) : Prop := F.length = L.length ∧ ∀ (i : Nat) (u : Nat × Nat) (d : Int), L[i]? = some u → F[i]? = some d → ∀ w, Calls Try.prog 28 #[.complex .f64 x y, .complex .f64 u.1 u.2] w fun e w' => e = .returned (.int .u64 d) ∧ w = w'
theorem info_int2 : (Try.prog.info? 3).map (fun i => (i.zero, i.size, i.bytes)) = some (some (.int .i64 0), 1, 8) := by kernel_rfl
theorem info_u642 : (Try.prog.info? 24).map (fun i => (i.zero, i.size, i.bytes)) = some (some (.int .u64 0), 1, 8) := by kernel_rfl
def cu (x : Int) : List Value := [.int .u64 x]
/-- the two rows and the box, as far as place i -/
structure Nr (F : List Int) (n fx fb g i : Nat) (w wr : World) : Prop where
  box : Cs fx [.slice (some ⟨fb, 0, none⟩) n n] wr
  far : ∃ C, Rw 1 fb 24 C wr ∧ C.length = n ∧ C.take i = (F.take i).map cu
  ord : ∃ C, Rw 1 g 3 C wr ∧ C.length = n ∧ C.take i = (idxL i).map c64
  ne : fx ≠ fb ∧ fx ≠ g ∧ fb ≠ g
  ge : w.heap.size ≤ fx ∧ w.heap.size ≤ fb ∧ w.heap.size ≤ g
  bel : Below w.heap.size w wr
theorem made_flat (l : List Value) : (l.map fun v => [v]).flatten = l := by
  induction l with
  | nil => rfl
  | cons a r ih => rw [List.map_cons, List.flatten_cons, ih]; rfl
theorem rw_made {w : World} {g : Nat} {T : TypeId} {z : Value} {n : Nat} (h : w.heap[g]? = some (.cells (madeCells #[z] n) T (0, 0))) : ∃ C, Rw 1 g T C w ∧ C.length = n := by
  refine ⟨(madeCells #[z] n).toList.map fun v => [v], ⟨fun c hc => ?_, ?_⟩, by simp [size_madeCells]⟩
  · obtain ⟨v, _, rfl⟩ := List.mem_map.1 hc; rfl
  · rw [h, made_flat]
theorem al3 (w : World) (a b c : Array Value) (A B C : TypeId) : ∃ W, (((w.alloc (.cells a A)).alloc (.cells b B)).alloc (.cells c C)).drew = W ∧ W.heap[w.heap.size]? = some (.cells a A (0, 0)) ∧ W.heap[w.heap.size + 1]? = some (.cells b B (0, 0)) ∧ W.heap[w.heap.size + 1 + 1]? = some (.cells c C (0, 0)) ∧ Below w.heap.size w W := by
  refine ⟨_, rfl, ?_, ?_, ?_, ?_⟩
  · show (((w.alloc (.cells a A)).alloc (.cells b B)).alloc (.cells c C)).heap[w.heap.size]? = _
    rw [Below.heap_alloc _ _ _ (by simp; omega), Below.heap_alloc _ _ _ (by simp)]; exact heap_alloc_new _ _
  · show (((w.alloc (.cells a A)).alloc (.cells b B)).alloc (.cells c C)).heap[w.heap.size + 1]? = _
    rw [Below.heap_alloc _ _ _ (by simp)]
    have := heap_alloc_new (w.alloc (.cells a A)) (.cells b B)
    simpa using this
  · show (((w.alloc (.cells a A)).alloc (.cells b B)).alloc (.cells c C)).heap[w.heap.size + 1 + 1]? = _
    have := heap_alloc_new ((w.alloc (.cells a A)).alloc (.cells b B)) (.cells c C)
    simpa using this
  · exact ((((Below.refl _ w).alloc (Nat.le_refl _) _).alloc (by simp) _).alloc (by simp; omega) _).drew
theorem Rw.al {z g : Nat} {t : TypeId} {C : List (List Value)} {w : World} (h : Rw z g t C w) (o : Obj) : Rw z g t C (w.alloc o) := h.touch (Touch.of_below (fun _ => False) ((Below.refl _ w).alloc (Nat.le_refl _) o)) (fun h => h)
theorem Rw.dr {z g : Nat} {t : TypeId} {C : List (List Value)} {w : World} (h : Rw z g t C w) : Rw z g t C w.drew := h.touch (Touch.of_below (fun _ => False) (Below.refl _ w).drew) (fun h => h)
section
variable {F : List Int} {n fx fb g i : Nat} {w wr w' : World}
theorem Nr.keep (h : Nr F n fx fb g i w wr) (hb : Below wr.heap.size wr w') : Nr F n fx fb g i w w' := by
  have T := Touch.of_below (fun _ => False) hb
  obtain ⟨C, h1, h2, h3⟩ := h.far
  obtain ⟨E, g1, g2, g3⟩ := h.ord
  exact ⟨h.box.keep hb, ⟨C, h1.touch T (fun h => h), h2, h3⟩, ⟨E, g1.touch T (fun h => h), g2, g3⟩, h.ne, h.ge, h.bel.trans (hb.mono h.bel.size)⟩
theorem nr_made {W : World} (hb : Below w.heap.size w W) (h1 : W.heap[fx]? = some (.cells #[.slice (some ⟨fb, 0, none⟩) n n] 71 (0, 0))) (h2 : W.heap[fb]? = some (.cells (madeCells #[.int .u64 0] n) 24 (0, 0))) (h3 : W.heap[g]? = some (.cells (madeCells #[.int .i64 0] n) 3 (0, 0))) (ne : fx ≠ fb ∧ fx ≠ g ∧ fb ≠ g) (ge : w.heap.size ≤ fx ∧ w.heap.size ≤ fb ∧ w.heap.size ≤ g) : Nr F n fx fb g 0 w W := by
  obtain ⟨C, c1, c2⟩ := rw_made h2
  obtain ⟨E, e1, e2⟩ := rw_made h3
  have B : Bk fx 71 [.slice (some ⟨fb, 0, none⟩) n n] W := ⟨h1⟩
  exact ⟨⟨fun i v hv => B.at_ hv, fun i v hv => B.free i, B.lt⟩, ⟨C, c1, c2, rfl⟩, ⟨E, e1, e2, rfl⟩, ne, ge, hb⟩
/-- one place more: both stores, either one first -/
theorem Nr.step (h : Nr F n fx fb g i w wr) (hi : i < n) (hF : F.length = n) {d : Int} (hd : F[i]? = some d) : Nr F n fx fb g (i + 1) w ((wr.setCell ⟨fb, i, none⟩ (.int .u64 d)).setCell ⟨g, i, none⟩ (.int .i64 i)) := by
  obtain ⟨C, h1, h2, h3⟩ := h.far
  obtain ⟨E, g1, g2, g3⟩ := h.ord
  obtain ⟨n1, n2, n3⟩ := h.ne
  have p1 := h1.put i (cu d) rfl (by omega)
  simp only [cu, World.setCells, Nat.mul_one] at p1
  have T1 := Touch.set (F := fun k => k = fb) (Touch.refl _ wr) (a := ⟨fb, i, none⟩) (fun _ => rfl) (.int .u64 d)
  have q1 := (g1.touch T1 (fun e => n3 e.symm)).put i (c64 (i : Int)) rfl (by omega)
  simp only [c64, World.setCells, Nat.mul_one] at q1
  have T2 := Touch.set (F := fun k => k = g) (Touch.refl _ (wr.setCell ⟨fb, i, none⟩ (.int .u64 d))) (a := ⟨g, i, none⟩) (fun _ => rfl) (.int .i64 i)
  refine ⟨(h.box.touch T1 n1).touch T2 n2, ⟨_, p1.touch T2 n3, by rw [List.length_set]; exact h2, ?_⟩, ⟨_, q1, by rw [List.length_set]; exact g2, ?_⟩, h.ne, h.ge, ?_⟩
  · rw [List.take_succ_eq_append_getElem (by rw [List.length_set]; omega), List.getElem_set_self, List.take_set_of_le (Nat.le_refl _), h3, List.take_add_one, hd]
    simp [cu]
  · rw [List.take_succ_eq_append_getElem (by rw [List.length_set]; omega), List.getElem_set_self, List.take_set_of_le (Nat.le_refl _), g3, idxL_succ]
    simp [c64]
  · refine (h.bel.setCell ?_ _).setCell ?_ _
    · exact h.ge.2.1
    · exact h.ge.2.2
/-- all places: the state that the sort begins with -/
theorem Nr.si (h : Nr F n fx fb g n w wr) (hF : F.length = n) : SI fx fb F n g n (idxL n) wr wr := by
  obtain ⟨C, h1, h2, h3⟩ := h.far
  obtain ⟨E, g1, g2, g3⟩ := h.ord
  refine ⟨⟨E, g1, g2, by rw [idxL_len]; exact g3, by rw [idxL_len]; exact Nat.le_refl _⟩, Touch.refl _ _, ⟨by rw [hF]; exact h.box.cell 0 _ rfl, fun i d hd => ?_, h.box.lt, h1.lt⟩, h.ne.2.1, h.ne.2.2, fun x hx => by rw [hF]; exact idxL_mem hx⟩
  have hi : i < n := by rw [← hF]; exact (List.getElem?_eq_some_iff.1 hd).1
  have hc : C[i]? = some (cu d) := by
    have := congrArg (fun l => l[i]?) h3
    simp only [List.getElem?_take, hi, if_true, List.getElem?_map, hd, Option.map_some] at this
    exact this
  have := h1.cell i 0 _ _ hc (rfl : (cu d)[0]? = some _)
  simpa using this
end
def NearPost (F : List Int) (k : Int) (w : World) (e : Ending) (w' : World) : Prop := ∃ g, e = .returned (.slice (some ⟨g, 0, none⟩) (nearL F k).length (nearL F k).length) ∧ RdE c64 1 w' (some ⟨g, 0, none⟩) (nearL F k) ∧ w.heap.size ≤ g ∧ Below w.heap.size w w'
def NJ (F : List Int) (n fx fb g : Nat) (w : World) (iv : Value) (wr : World) : Prop := ∃ i : Nat, i ≤ n ∧ iv = .int .i64 (i : Nat) ∧ Nr F n fx fb g i w wr
theorem near_fin {F : List Int} {k : Int} {n fx fb g : Nat} {w w1 w2 : World} (hF : F.length = n) (hN : Nr F n fx fb g n w w1) {D : List Int} (hs : Srt (keyF F) D) (he : Eqv (keyF F) (idxL n) D) (hS : SI fx fb F n g n D w1 w2) : RdE c64 1 w2 (some ⟨g, 0, none⟩) (nearL F k) ∧ Below w.heap.size w w2 := by
  constructor
  · intro hp
    refine ⟨g, 0, rfl, hS.lt, fun i x hx j u hu => ?_⟩
    have hD : D = sortK (keyF F) (idxL F.length) := by rw [hF]; exact sortK_uniq hs he
    unfold nearL at hx
    rw [← hD, List.getElem?_take] at hx
    split at hx
    · have := hS.cell hx
      match j, hu with
      | 0, hu =>
        simp only [c64, List.getElem?_cons_zero, Option.some.injEq] at hu
        subst hu
        simpa using this
    · cases hx
  · have hg := hN.ge.2.2
    exact hN.bel.trans (hS.touch.below hN.bel.size (fun b _ hb => by rw [show b = g from hb]; exact hg))
set_option maxHeartbeats 6400000 in
set_option maxRecDepth 20000 in
theorem nearest_any (x y : Nat) (L : List (Nat × Nat)) (F : List Int) (hF : FarB x y L F) (hl : L.length < 20) (k : Int) (a : Option Addr) (cap : Nat) (w : World) (hr : RdE cc 1 w a L) :
    Calls Try.prog 24 #[.complex .f64 x y, .slice a L.length cap, .int .i64 k] w (NearPost F k w) := by
  obtain ⟨hFl, hFar⟩ := hF
  have HR := Lib.hid hr
  have HFL := Lib.hid hFl
  have HFR := Lib.hid hFar
  have HLL : Hid (L.length = L.length) := rfl
  clear hr hFl hFar
  obtain ⟨n, hn⟩ : ∃ n, L.length = n := ⟨_, rfl⟩
  have HN := Lib.hid hn
  rw [hn] at hl HFL ⊢
  clear hn HLL
  have hmk1 := run_make_row' (P := Try.prog) 35 3 (.int .i64 0) 8 Try.underlying35 info_int2 rfl .i64 .i64 n (by omega) (by omega)
  have hmk2 := run_make_row' (P := Try.prog) 71 24 (.int .u64 0) 8 Try.underlying71 info_u642 rfl .i64 .i64 n (by omega) (by omega)
  have hn0 : (0 : Int) ≤ n := by omega
  have hn1 : (n : Int) < 20 := by omega
  go_enter Try.func24, Try.ntmps24
  go_upto_region 1 with fail
  go_cut [7, 8] (fun fv ov wx => ∃ fx fb g, fv = .pointer (some ⟨fx, 0, none⟩) ∧ ov = .slice (some ⟨g, 0, none⟩) n n ∧ Nr F n fx fb g 0 w wx)
  case first =>
    go_region
    all_goals go_wp2_with fail
    all_goals go_meet
    all_goals (obtain ⟨W, e, h1, h2, h3, hb⟩ := al3 w _ _ _ _ _ _; rw [e])
    all_goals first
      | exact ⟨_, _, _, rfl, rfl, nr_made hb h3 h1 h2 ⟨by omega, by omega, by omega⟩ ⟨by omega, by omega, by omega⟩⟩
      | exact ⟨_, _, _, rfl, rfl, nr_made hb h3 h2 h1 ⟨by omega, by omega, by omega⟩ ⟨by omega, by omega, by omega⟩⟩
      | exact ⟨_, _, _, rfl, rfl, nr_made hb h2 h1 h3 ⟨by omega, by omega, by omega⟩ ⟨by omega, by omega, by omega⟩⟩
      | exact ⟨_, _, _, rfl, rfl, nr_made hb h2 h3 h1 ⟨by omega, by omega, by omega⟩ ⟨by omega, by omega, by omega⟩⟩
      | exact ⟨_, _, _, rfl, rfl, nr_made hb h1 h2 h3 ⟨by omega, by omega, by omega⟩ ⟨by omega, by omega, by omega⟩⟩
      | exact ⟨_, _, _, rfl, rfl, nr_made hb h1 h3 h2 ⟨by omega, by omega, by omega⟩ ⟨by omega, by omega, by omega⟩⟩
  case rest =>
    obtain ⟨fx, fb, g, rfl, rfl, hN⟩ := hcut
    generalize wc = w1 at *
    have N0 : Hid (NJ F n fx fb g w (.int .i64 (0 : Nat)) w1) := ⟨0, Nat.zero_le _, rfl, hN⟩
    clear hN hmk1 hmk2
    have HNn := HN.out
    go_wp2_with fail
    go_loopw [9, 10, 19] (fun v9 v10 iv wr => NJ F n fx fb g w iv wr) (fun _ _ iv _ => n - (intOf iv).toNat)
    case atStart => exact N0.out
    case round =>
      obtain ⟨i, hi, rfl, hS⟩ := hrel
      clear N0
      have HS := Lib.hid hS
      clear hS
      have hi0 : (0 : Int) ≤ i := by omega
      by_cases hlt : i < n
      · have hlt2 : (i : Int) < n := by omega
        have hu : L[i]? = some L[i] := List.getElem?_eq_getElem (by rw [HN.out]; exact hlt)
        obtain ⟨d, hd⟩ : ∃ d, F[i]? = some d := ⟨_, List.getElem?_eq_getElem (by rw [HFL.out]; exact hlt)⟩
        obtain ⟨b, off, hab, hbl, hcc⟩ := HR.out (by rw [HN.out]; omega)
        subst hab
        have hbw : b < w.heap.size := hbl
        have c0 := hcc i _ hu 0 _ rfl
        have c0 := (HS.out.bel.cell (p := ⟨b, off + i * 1 + 0, none⟩) hbw).trans c0
        simp only [Nat.mul_one, Nat.add_zero] at c0
        have KF := HFR.out i _ _ hu hd
        have ST := Lib.hid (HS.out.step hlt HFL.out hd)
        have hbl2 := Nat.lt_of_lt_of_le hbw HS.out.bel.size
        have HI1 : Hid (i + 1 ≤ n) := hlt
        clear hcc hu hd
        generalize L[i] = u at *
        obtain ⟨ux, uy⟩ := u
        simp only at c0 KF
        have HX := HS.out.box
        have x0 := HX.cell 0 _ rfl
        have xl := HX.lt
        obtain ⟨C, f1, f2, f3⟩ := HS.out.far
        obtain ⟨E, g1, g2, g3⟩ := HS.out.ord
        have ff := fun o => f1.free o
        have gf := fun o => g1.free o
        have fl := f1.lt
        have ggl := g1.lt
        have fo : ∃ v, wr.cell? ⟨fb, i, none⟩ = some v := by
          obtain ⟨c, hc⟩ : ∃ c, C[i]? = some c := ⟨_, List.getElem?_eq_getElem (by omega)⟩
          have hcl := f1.all c (List.mem_of_getElem? hc)
          obtain ⟨v, hv⟩ : ∃ v, c[0]? = some v := ⟨_, List.getElem?_eq_getElem (by omega)⟩
          exact ⟨v, by simpa using f1.cell i 0 c v hc hv⟩
        have go : ∃ v, wr.cell? ⟨g, i, none⟩ = some v := by
          obtain ⟨c, hc⟩ : ∃ c, E[i]? = some c := ⟨_, List.getElem?_eq_getElem (by omega)⟩
          have hcl := g1.all c (List.mem_of_getElem? hc)
          obtain ⟨v, hv⟩ : ∃ v, c[0]? = some v := ⟨_, List.getElem?_eq_getElem (by omega)⟩
          exact ⟨v, by simpa using g1.cell i 0 c v hc hv⟩
        obtain ⟨fv, fo⟩ := fo
        obtain ⟨gv, go⟩ := go
        obtain ⟨n1, n2, n3⟩ := HS.out.ne
        have n4 := n3.symm
        clear f1 f2 f3 g1 g2 g3 HX HNn HS HR
        go_upto_region 5 with fail
        go_region_with (first | (go_at_call 28; refine (KF _).mono ?_; rintro e wA ⟨rfl, rfl⟩) | fail)
        all_goals go_wp2_with fail
        all_goals exact ⟨⟨i + 1, HI1.out, by go_num, ST.out.keep (Below.refl _ _).drew⟩, by simp [intOf]; omega⟩
      · obtain rfl : n = i := by omega
        have hFl2 := HFL.out
        have C := sort_any fx fb F n (by omega) (idxL n) n g n (by rw [idxL_len]) hl wr wr (HS.out.si HFL.out)
        have HNE := nearL_len F k
        rw [hFl2] at HNE
        have FIN := Lib.hid (fun w2 D (h : Srt (keyF F) D ∧ Eqv (keyF F) (idxL n) D ∧ SI fx fb F n g n D wr w2) => near_fin (k := k) HFL.out HS.out h.1 h.2.1 h.2.2)
        have HGE := Lib.hid HS.out.ge.2.2
        clear hFl2 HS HR HNn
        unfold NearPost
        obtain ⟨c, hc⟩ : ∃ c, cntN k n = c := ⟨_, rfl⟩
        rw [hc] at HNE
        have hcn : c ≤ n := by rw [← hc]; unfold cntN; omega
        have hcn2 : (c : Int) ≤ n := by omega
        have hc0 : (0 : Int) ≤ c := by omega
        have HE := Lib.hid HNE
        clear HNE
        go_wp2_with fail
        refine C.mono ?_; rintro e w2 ⟨rfl, hp⟩
        obtain ⟨D, hD⟩ := hp
        have FF := Lib.hid (FIN.out _ D hD)
        clear C FIN hD
        by_cases hk : k < 0
        · obtain rfl : c = 0 := by unfold cntN at hc; omega
          clear hc hcn hcn2 hc0
          go_wp2
          refine bodyPost_ret (v := (.slice (some ⟨g, 0, none⟩) 0 0)) (by simp [results, Try.results24, go_sem, *]) rfl ?_
          exact ⟨g, by rw [HE.out], FF.out.1, HGE.out, FF.out.2⟩
        · obtain ⟨m, rfl⟩ : ∃ m : Nat, k = m := ⟨k.toNat, by omega⟩
          have hm0 : (0 : Int) ≤ m := by omega
          clear hk
          by_cases hk2 : m ≤ n
          · obtain rfl : m = c := by unfold cntN at hc; omega
            clear hc
            go_wp2
            refine bodyPost_ret (v := (.slice (some ⟨g, 0, none⟩) m m)) (by simp [results, Try.results24, go_sem, *]) rfl ?_
            exact ⟨g, by rw [HE.out], FF.out.1, HGE.out, FF.out.2⟩
          · obtain rfl : n = c := by unfold cntN at hc; omega
            have hk3 : ¬ (m : Int) ≤ n := by omega
            have hk4 : (n : Int) ≤ m := by omega
            have hk5 : (n : Int) < m := by omega
            clear hc
            go_wp2
            refine bodyPost_ret (v := (.slice (some ⟨g, 0, none⟩) n n)) (by simp [results, Try.results24, go_sem, *]) rfl ?_
            exact ⟨g, by rw [HE.out], FF.out.1, HGE.out, FF.out.2⟩
end Go.Proofs.Ytdehpiaokjihjaa
