/- The program's view: New, Seen, Of, note, Take. -/
import Derived.Test.YtchhbhoikkdmeaaViRow
import Derived.BigRegion
namespace Go.Proofs.Ytchhbhoikkdmeaa
open Go.Sort Go.RowKit Go.BigFrame
set_option linter.unusedVariables false
set_option linter.unusedSimpArgs false

theorem new_any (w : World) : Calls Try.prog 10 #[] w fun e w' => ∃ g, e = .returned (.pointer (some ⟨g, 0, none⟩)) ∧ w.heap.size ≤ g ∧ Vs g newV w' ∧ Below w.heap.size w w' := by
  obtain ⟨hz, hs⟩ := zero_of_info z_info
  have hc := z_cells
  have F := Lib.hid (Vs.new w)
  obtain ⟨zc, hzc⟩ : ∃ zc, zCells.toArray = zc := ⟨_, rfl⟩
  rw [hzc] at hz hc F
  clear hzc hs
  go_enter Try.func10, Try.ntmps10
  go_wp2
  go_ret
  exact ⟨w.heap.size, rfl, Nat.le_refl _, F.out, (Below.refl _ _).alloc (Nat.le_refl _) _⟩
theorem seen_any (g : Nat) (v : Vw) (w : World) (h : Vs g v w) :
    Calls Try.prog 27 #[.pointer (some ⟨g, 0, none⟩)] w fun e w' => e = .returned (.int .u64 (v.E.length : Nat)) ∧ w' = w := by
  have x0 := h.seen
  have gl := h.lt
  clear h
  go_enter Try.func27, Try.ntmps27
  go_wp2
  go_ret
  exact ⟨rfl, rfl⟩
def OfPost (v : Vw) (i : Int) (w : World) (e : Ending) (w' : World) : Prop := e = .returned (.tuple #[.agg #[.int .i64 (ofV v i).id, .int .i64 (ofV v i).st, .int .u32 (ofV v i).n, .int .u32 (ofV v i).ip, .int .u16 (ofV v i).port], .bool (knows v i)]) ∧ Below w.heap.size w w'
theorem of_no {v : Vw} {i : Int} (h : knows v i = false) : ofV v i = zRec := by unfold ofV; rw [if_neg (by simp [h])]
theorem of_yes {v : Vw} {i : Int} (h : knows v i = true) : ofV v i = v.k i.toNat := by unfold ofV; rw [if_pos h]
set_option maxHeartbeats 1600000 in
theorem of_any (i : Int) (g : Nat) (v : Vw) (w : World) (h : Vs g v w) :
    Calls Try.prog 15 #[.pointer (some ⟨g, 0, none⟩), .int .i64 i] w (OfPost v i w) := by
  unfold OfPost
  by_cases c1 : i < 1
  · have hk : knows v i = false := by
      cases hk : knows v i with
      | false => rfl
      | true => rw [knows_iff] at hk; omega
    rw [of_no hk, hk]
    clear h hk
    go_enter Try.func15, Try.ntmps15
    go_wp2
    refine bodyPost_ret (v := (.tuple #[.agg #[.int .i64 0, .int .i64 0, .int .u32 0, .int .u32 0, .int .u16 0], .bool false])) (by simp [results, Try.results15, go_sem, *]) rfl ?_
    exact ⟨rfl, by (repeat (first | with_reducible exact Below.refl _ _ | with_reducible refine Below.drew ?_ | with_reducible refine below_drewN ?_ _ | with_reducible refine Below.alloc ?_ (by first | omega | (simp; done) | (simp; omega)) _ | with_reducible refine Below.setCell ?_ (by first | omega | (simp; done) | (simp; omega)) _))⟩
  · by_cases c2 : 32 < i
    · have hk : knows v i = false := by
        cases hk : knows v i with
        | false => rfl
        | true => rw [knows_iff] at hk; omega
      rw [of_no hk, hk]
      clear h hk
      go_enter Try.func15, Try.ntmps15
      go_wp2
      refine bodyPost_ret (v := (.tuple #[.agg #[.int .i64 0, .int .i64 0, .int .u32 0, .int .u32 0, .int .u16 0], .bool false])) (by simp [results, Try.results15, go_sem, *]) rfl ?_
      exact ⟨rfl, by (repeat (first | with_reducible exact Below.refl _ _ | with_reducible refine Below.drew ?_ | with_reducible refine below_drewN ?_ _ | with_reducible refine Below.alloc ?_ (by first | omega | (simp; done) | (simp; omega)) _ | with_reducible refine Below.setCell ?_ (by first | omega | (simp; done) | (simp; omega)) _))⟩
    · obtain ⟨n, rfl⟩ : ∃ n : Nat, i = n := ⟨i.toNat, by omega⟩
      have hn : n < 33 := by omega
      have hn' : (n : Int) < 33 := by omega
      have hn0 : (0 : Int) ≤ n := by omega
      have hb : Below w.heap.size w (w.alloc (.cells #[.int .i64 0, .int .i64 0, .int .u32 0, .int .u32 0, .int .u16 0] 37)) := (Below.refl _ w).alloc (Nat.le_refl _) _
      have h1 := h.keep hb
      have ok := h.ok.ok n
      have K := right_any (v.k n).id (v.k n).st (v.k n).n (v.k n).ip (v.k n).port ok.ip ok.port
      have c0 := h1.rec_ n hn 0 _ rfl
      have c1' := h1.rec_ n hn 1 _ rfl
      have c2' := h1.rec_ n hn 2 _ rfl
      have c3 := h1.rec_ n hn 3 _ rfl
      have c4 := h1.rec_ n hn 4 _ rfl
      have gl := h1.lt
      have gl0 := h.lt
      have HV := Lib.hid h1
      have hq : rightI (v.k n).id (v.k n).st (v.k n).ip (v.k n).port = knows v n := by
        unfold knows inI
        rw [decide_eq_true (show (1 : Int) ≤ n by omega), decide_eq_true (show (n : Int) ≤ 32 by omega), Int.toNat_natCast]; rfl
      rw [hq] at K
      have HO := Lib.hid (of_yes (v := v) (i := n))
      have HN := Lib.hid (of_no (v := v) (i := n))
      simp only [Int.toNat_natCast] at HO
      have HW : Hid (∀ w', Below (w.alloc (.cells #[.int .i64 0, .int .i64 0, .int .u32 0, .int .u32 0, .int .u16 0] 37)).heap.size (w.alloc (.cells #[.int .i64 0, .int .i64 0, .int .u32 0, .int .u32 0, .int .u16 0] 37)) w' → Vs g v w') := fun w' hb' => h1.keep hb'
      clear h h1 hb hq ok
      simp only [Nat.add_zero] at c0
      generalize hr : v.k n = r at *
      generalize knows v n = q at *
      generalize ofV v n = o at *
      have HR := Lib.hid hr
      clear hr
      cases q with
      | false =>
        obtain rfl := HN.out rfl
        go_enter Try.func15, Try.ntmps15
        go_wp2_with fail
        refine (K _).mono ?_; rintro e w1 ⟨rfl, b1⟩; obtain ⟨hc1, hf1, hz1⟩ := bcell b1; (try simp at hz1); have kc1_0 := fun o => hc1 (w.heap.size) o (by first | omega | (simp; done) | (simp; omega)); have kf1_0 := fun o => hf1 (w.heap.size) o (by first | omega | (simp; done) | (simp; omega)); have kl1_0 : w.heap.size < w1.heap.size := (by omega); clear hc1 hf1
        go_wp2
        refine bodyPost_ret (v := (.tuple #[.agg #[.int .i64 0, .int .i64 0, .int .u32 0, .int .u32 0, .int .u16 0], .bool false])) (by simp [results, Try.results15, go_sem, *]) rfl ?_
        exact ⟨rfl, by (have zz0 := Below.size b1; (try simp at zz0); repeat (first | with_reducible exact Below.refl _ _ | with_reducible refine Below.drew ?_ | with_reducible refine below_drewN ?_ _ | with_reducible refine Below.alloc ?_ (by first | omega | (simp; done) | (simp; omega)) _ | with_reducible refine Below.setCell ?_ (by first | omega | (simp; done) | (simp; omega)) _ | (with_reducible refine Below.trans ?_ (Below.mono b1 (by first | omega | (simp; done) | (simp; omega))))))⟩
      | true =>
        obtain rfl := HO.out rfl
        go_enter Try.func15, Try.ntmps15
        go_wp2_with fail
        refine (K _).mono ?_; rintro e w1 ⟨rfl, b1⟩; obtain ⟨hc1, hf1, hz1⟩ := bcell b1; (try simp at hz1); have kc1_0 := fun o => hc1 (w.heap.size) o (by first | omega | (simp; done) | (simp; omega)); have kf1_0 := fun o => hf1 (w.heap.size) o (by first | omega | (simp; done) | (simp; omega)); have kl1_0 : w.heap.size < w1.heap.size := (by omega); clear hc1 hf1
        have h2 := HW.out w1 b1
        clear c0 c1' c2' c3 c4
        have c0 := h2.rec_ n hn 0 _ rfl
        have c1' := h2.rec_ n hn 1 _ rfl
        have c2' := h2.rec_ n hn 2 _ rfl
        have c3 := h2.rec_ n hn 3 _ rfl
        have c4 := h2.rec_ n hn 4 _ rfl
        rw [HR.out] at c0 c1' c2' c3 c4
        simp only [Nat.add_zero] at c0
        clear h2
        go_wp2
        refine bodyPost_ret (v := (.tuple #[.agg #[.int .i64 o.id, .int .i64 o.st, .int .u32 o.n, .int .u32 o.ip, .int .u16 o.port], .bool true])) (by simp [results, Try.results15, go_sem, *]) rfl ?_
        exact ⟨rfl, by (have zz0 := Below.size b1; (try simp at zz0); repeat (first | with_reducible exact Below.refl _ _ | with_reducible refine Below.drew ?_ | with_reducible refine below_drewN ?_ _ | with_reducible refine Below.alloc ?_ (by first | omega | (simp; done) | (simp; omega)) _ | with_reducible refine Below.setCell ?_ (by first | omega | (simp; done) | (simp; omega)) _ | (with_reducible refine Below.trans ?_ (Below.mono b1 (by first | omega | (simp; done) | (simp; omega))))))⟩
def NotePost (g : Nat) (v' : Vw) (w : World) (e : Ending) (w' : World) : Prop := e = .returned (.tuple #[]) ∧ VAft g v' w w'
set_option maxHeartbeats 1600000 in
theorem note_any (x : Ev) (g : Nat) (v : Vw) (w : World) (h : Vs g v w) (hl : v.E.length < 1000000) :
    Calls Try.prog 31 #[.pointer (some ⟨g, 0, none⟩), .agg #[.int .i64 x.id, .int .i64 x.was, .int .i64 x.is, .int .u32 x.n]] w (NotePost g ⟨v.k, v.E ++ [x]⟩ w) := by
  have hb : Below w.heap.size w (w.alloc (.cells (ce x).toArray 74)) := (Below.refl _ w).alloc (Nat.le_refl _) _
  have h1 := h.keep hb
  have F := Lib.hid (h1.note x)
  have HB := Lib.hid hb
  have fr := fun o => h1.free o
  have x0 := h1.seen
  have gl := h.lt
  have gne : g ≠ w.heap.size := by omega
  obtain ⟨m, hm⟩ : ∃ m, m = v.E.length % 128 := ⟨_, rfl⟩
  have hm1 : m < 128 := by omega
  have hm2 : (m : Int) < 128 := by omega
  have hm0 : (0 : Int) ≤ m := by omega
  obtain ⟨n, hn⟩ : ∃ n, v.E.length = n := ⟨_, rfl⟩
  rw [hn] at hl hm x0
  have hmod : (n : Int) % 128 = m := by omega
  have hmod2 : (n : Int).tmod 128 = m := by rw [tmod_pos _ _ (by omega)]; exact hmod
  rw [hn, ← hm] at F
  have hn0 : (0 : Int) ≤ n := by omega
  have hn1 : (n : Int) < 1000000 := by omega
  have y0 := h1.has (165 + m * 4) (by omega)
  have y1 := h1.has (165 + m * 4 + 1) (by omega)
  have y2 := h1.has (165 + m * 4 + 2) (by omega)
  have y3 := h1.has (165 + m * 4 + 3) (by omega)
  obtain ⟨u0, y0⟩ := y0
  obtain ⟨u1, y1⟩ := y1
  obtain ⟨u2, y2⟩ := y2
  obtain ⟨u3, y3⟩ := y3
  have hne : ∀ k, k < 4 → ¬ 165 + m * 4 + k = 677 := by intro k hk; omega
  clear h h1 hb hm hn
  have p0 : (w.alloc (.cells (ce x).toArray 74)).cell? ⟨w.heap.size, 0, none⟩ = some (.int .i64 x.id) := by rw [World.cell?_alloc_mark]; rfl
  have p1 : (w.alloc (.cells (ce x).toArray 74)).cell? ⟨w.heap.size, 1, none⟩ = some (.int .i64 x.was) := by rw [World.cell?_alloc_mark]; rfl
  have p2 : (w.alloc (.cells (ce x).toArray 74)).cell? ⟨w.heap.size, 2, none⟩ = some (.int .i64 x.is) := by rw [World.cell?_alloc_mark]; rfl
  have p3 : (w.alloc (.cells (ce x).toArray 74)).cell? ⟨w.heap.size, 3, none⟩ = some (.int .u32 x.n) := by rw [World.cell?_alloc_mark]; rfl
  have HT : Hid (Touch (fun k => k = g) w (((w.alloc (.cells (ce x).toArray 74)).setCells g (165 + m * 4) (ce x)).drew.setCell ⟨g, 677, none⟩ (.int .u64 ((n : Int) + 1)))) :=
    Touch.set (F := fun k => k = g) (Touch.drew (Touch.sets (F := fun k => k = g) ((Touch.refl _ w).alloc _) g (fun _ => rfl) _ _)) (fun _ => rfl) _
  have x0' : ∀ u0 u1 u2 u3 : Value, True := fun _ _ _ _ => trivial
  go_enter Try.func31, Try.ntmps31
  go_upto_region 1 with fail
  change Hid (Vs g ⟨v.k, v.E ++ [x]⟩ (((w.alloc (.cells #[.int .i64 x.id, .int .i64 x.was, .int .i64 x.is, .int .u32 x.n] 74)).setCells g (165 + m * 4) (ce x)).drew.setCell ⟨g, 677, none⟩ (.int .u64 ((n : Int) + 1)))) at F
  change Hid (Touch (fun k => k = g) w (((w.alloc (.cells #[.int .i64 x.id, .int .i64 x.was, .int .i64 x.is, .int .u32 x.n] 74)).setCells g (165 + m * 4) (ce x)).drew.setCell ⟨g, 677, none⟩ (.int .u64 ((n : Int) + 1)))) at HT
  simp only [ce] at x0 y0 y1 y2 y3 p0 p1 p2 p3 fr HB
  clear HB
  generalize (w.alloc (.cells #[.int .i64 x.id, .int .i64 x.was, .int .i64 x.is, .int .u32 x.n] 74)) = wb at *
  clear x0' gl
  obtain ⟨e1, e2, e3, e4⟩ := x
  simp only at p0 p1 p2 p3
  go_region
  go_wp2
  refine bodyPost_ret (v := (.tuple #[])) (by simp [results, Try.results31, go_sem, *]) rfl ?_
  exact ⟨rfl, F.out, HT.out⟩
end Go.Proofs.Ytchhbhoikkdmeaa
