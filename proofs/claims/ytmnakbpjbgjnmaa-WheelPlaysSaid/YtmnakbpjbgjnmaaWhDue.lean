/- The program's wheel: upTo, Due, All. -/
import Derived.Test.YtmnakbpjbgjnmaaWhDelF
import Derived.Test.YtmnakbpjbgjnmaaSrtStable
namespace Go.Proofs.Ytmnakbpjbgjnmaa
open Go.Sort Go.RowKit Go.BigFrame
set_option linter.unusedVariables false
set_option linter.unusedSimpArgs false

def isP (now : Int) (x : Tm) : Bool := decide (x.t ≤ now)
theorem isDue_any (x : Tm) (now : Int) (w : World) :
    Calls Try.prog 27 #[.agg #[.int .i64 x.k, .int .i64 x.i, .int .u64 x.t], .int .u64 now] w fun e w' => e = .returned (.bool (isP now x)) ∧ Below w.heap.size w w' := by
  obtain ⟨r1, r2, r3⟩ := x
  unfold isP
  go_enter Try.func27, Try.ntmps27
  go_wp2
  go_ret
  exact ⟨rfl, by (repeat (first | with_reducible exact Below.refl _ _ | with_reducible refine Below.drew ?_ | with_reducible refine below_drewN ?_ _ | with_reducible refine Below.alloc ?_ (by first | omega | (simp; done) | (simp; omega)) _ | with_reducible refine Below.setCell ?_ (by first | omega | (simp; done) | (simp; omega)) _))⟩
theorem enters_due : Enters 26 := fun args w => by kernel_rfl
theorem dueC_any (x : Tm) (now : Int) (g : Nat) (w : World) (h0 : Cs g [.int .u64 now] w) :
    Calls Try.prog 26 #[.agg #[.int .i64 x.k, .int .i64 x.i, .int .u64 x.t], .pointer (some ⟨g, 0, none⟩)] w fun e w' => e = .returned (.bool (isP now x)) ∧ Below w.heap.size w w' := by
  have K := isDue_any x now
  obtain ⟨r1, r2, r3⟩ := x
  simp only at K
  simp only
  have x0 := h0.cell 0 _ rfl
  have gl := h0.lt
  clear h0
  generalize isP now ⟨r1, r2, r3⟩ = q at *
  go_enter Try.func26, Try.ntmps26
  go_wp2_with fail
  refine (K _).mono ?_; rintro e w1 ⟨rfl, b1⟩
  go_wp2
  go_ret
  exact ⟨rfl, by (have zz0 := Below.size b1; (try simp at zz0); repeat (first | with_reducible exact Below.refl _ _ | with_reducible refine Below.drew ?_ | with_reducible refine below_drewN ?_ _ | with_reducible refine Below.alloc ?_ (by first | omega | (simp; done) | (simp; omega)) _ | with_reducible refine Below.setCell ?_ (by first | omega | (simp; done) | (simp; omega)) _ | (with_reducible refine Below.trans ?_ (Below.mono b1 (by first | omega | (simp; done) | (simp; omega))))))⟩
/-- a slice of new memory that holds D -/
def NewT (T : TypeId) (D : List Tm) (w : World) (v : Sl) (w' : World) : Prop := TRow T w' v.v D ∧ v.n = D.length ∧ ∀ b, v.v.ownBlock = some b → w.heap.size ≤ b
theorem trow_n {T : TypeId} {w : World} {v : Sl} {D : List Tm} (h : TRow T w v.v D) : v.n = D.length := by
  obtain ⟨a, n, c⟩ := v
  rcases trow_form h with ⟨h1, h2⟩ | ⟨b, cap, h1, h2⟩
  · simp [Sl.v] at h1
    obtain ⟨rfl, rfl, rfl⟩ := h1
    rw [h2]; rfl
  · simp [Sl.v] at h1
    exact h1.2.1
def UpJ2 (now : Int) (L : List Tm) (w : World) (v iv : Value) (wr : World) : Prop :=
  ∃ i : Nat, i ≤ L.length ∧ iv = .int .i64 (i : Nat) ∧ TRow 39 wr v (dueL now (L.take i)) ∧ Below w.heap.size w wr ∧ ∀ k, v.ownBlock = some k → w.heap.size ≤ k
def UpPost (T : TypeId) (D : List Tm) (w : World) (e : Ending) (w' : World) : Prop := ∃ v : Sl, e = .returned (.slice v.a v.n v.c) ∧ NewT T D w v w' ∧ Below w.heap.size w w'
set_option maxHeartbeats 1600000 in
set_option maxRecDepth 100000 in
theorem upTo_any (now : Int) (g : Nat) (v : Sl) (L : List Tm) (w : World) (h : Ws true g v L w) :
    Calls Try.prog 24 #[.pointer (some ⟨g, 0, none⟩), .int .u64 now] w (UpPost 39 (sortT (dueL now L)) w) := by
  obtain ⟨i0, hi0, hz0, hz1, hz2⟩ := info_parts info_timer
  have hn := h.n
  obtain ⟨av, n, c⟩ := v
  simp only at hn
  subst hn
  have hl := h.ok.len
  have hl2 : (L.length : Int) ≤ 256 := by omega
  have x0 := h.box.cell 0 _ rfl
  have gl := h.box.lt
  have HR := Lib.hid h.rd
  clear h
  simp only at HR
  go_enter Try.func24, Try.ntmps24
  go_wp2_with fail
  go_loopw [5, 14] (fun v iv wr => UpJ2 now L w v iv wr) (fun _ i _ => L.length - (intOf i).toNat)
  case atStart => exact ⟨0, Nat.zero_le _, rfl, World.ownsRow_nil _ _ _ _, Below.refl _ _, fun k hk => by simp [Value.ownBlock] at hk⟩
  case round =>
    obtain ⟨i, hi, rfl, hrow, hb, hov⟩ := hrel
    have HOV := Lib.hid hov
    clear hov x0 gl
    generalize u5 = v at *
    have HROW := Lib.hid hrow
    have HB := Lib.hid hb
    have hi0' : (0 : Int) ≤ i := by omega
    have hkl := due_len now (L.take i)
    rw [List.length_take, Nat.min_eq_left hi] at hkl
    clear hrow
    by_cases hlt : i < L.length
    · have hlt' : (i : Int) < L.length := by omega
      obtain ⟨b, off, rfl, hbl, hcc⟩ := (HR.out.keep hb) (by omega)
      have hx : L[i]? = some L[i] := List.getElem?_eq_getElem hlt
      have HI1 : Hid (i + 1 ≤ L.length) := hlt
      have KY := fun h => due_take_yes (now := now) hlt h
      have KN := fun h => due_take_no (now := now) hlt h
      have c0 := hcc i _ hx 0 _ rfl
      have c1 := hcc i _ hx 1 _ rfl
      have c2 := hcc i _ hx 2 _ rfl
      have ho := ct_one L[i]
      have K := isDue_any L[i] now
      clear hcc hx
      generalize L[i] = y at *
      have X := Lib.hid (Cs.new wr (ct y) 39)
      by_cases hk : y.t ≤ now
      · have EQ := Lib.hid (KY hk)
        have hq : isP now y = true := decide_eq_true hk
        rw [hq] at K
        obtain ⟨y1, y2, y3⟩ := y
        simp only [Nat.add_zero] at c0 c1 c2 K
        clear KY KN hk hq
        go_wp2_with fail
        refine (K _).mono ?_; rintro e w1 ⟨rfl, b1⟩
        have hb1 := (hb.alloc hb.size (.cells #[.int .i64 y1, .int .i64 y2, .int .u64 y3] 39)).trans (b1.mono (by have := hb.size; simp; omega))
        have R1 := Lib.hid (trow_touch HROW.out (((Touch.refl (fun _ => False) wr).alloc (.cells #[.int .i64 y1, .int .i64 y2, .int .u64 y3] 39)).trans (Touch.of_below (fun _ => False) b1) (fun _ _ h => h)) (fun _ _ h => h))
        have X1 := X.out.keep b1
        have z0 := X1.cell 0 _ rfl
        have z1 := X1.cell 1 _ rfl
        have z2 := X1.cell 2 _ rfl
        have zl := X1.lt
        replace HB := Lib.hid hb1
        clear hb hb1 K b1 X X1 c0 c1 c2 HROW
        go_wp2_with (at_builtin; refine wpList_append_lies _ rfl (.tmp 21) (.tmp 23) 35 rfl 0 39 i0 _ 3 24 Try.underlying35 hi0 hz0 hz1 hz2 rfl (by omega) v (dueL now (L.take i)).length ((dueL now (L.take i)).map ct).flatten rfl (trow_touch (F := fun _ => False) R1.out ((Touch.refl _ _).alloc _) (fun _ _ h => h)) ⟨_, 0, none⟩ 1 1 (ct ⟨y1, y2, y3⟩) rfl rfl (World.news_of_block (cs := (ct ⟨y1, y2, y3⟩).toArray) (t := 39) (fr := (0, 0)) (heap_alloc_new _ _)) ho (by omega) ?c2 ?c3 ?c4 _ rfl ?_)
        case c2 => unfold maxLen; omega
        case c3 => omega
        case c4 => exact Nat.zero_le _
        intro g1 cap1 w9 hown hgrow hat hlt9
        have fin : Hid (TRow 39 w9 (.slice (some ⟨g1, 0, none⟩) ((dueL now (L.take i)).length + 1) cap1) (dueL now (L.take (i + 1)))) := by
          rw [EQ.out]
          show World.ownsRow _ _ _ _ _ _ _
          rw [List.map_append, List.flatten_append, List.length_append]
          exact hown
        have QB := HB.out.alloc HB.out.size (.cells (ct ⟨y1, y2, y3⟩).toArray 39)
        have bin := Lib.hid (QB.grown hgrow QB.size (fun k hk => HOV.out k hk))
        have hov : Hid (∀ k, (Value.slice (some ⟨g1, 0, none⟩) ((dueL now (L.take i)).length + 1) cap1).ownBlock = some k → w.heap.size ≤ k) := fun k hk => by
          obtain rfl : g1 = k := by injection hk
          rcases hat with h | h
          · exact HOV.out _ h
          · rw [h]; have := HB.out.size; omega
        clear hown hgrow hat QB
        go_wp2
        go_roundw
        case rel => exact ⟨i + 1, HI1.out, by go_num, fin.out, bin.out, hov.out⟩
        case measure => simp [intOf]; omega
      · have EQ := Lib.hid (KN hk)
        have hq : isP now y = false := decide_eq_false hk
        rw [hq] at K
        obtain ⟨y1, y2, y3⟩ := y
        simp only [Nat.add_zero] at c0 c1 c2 K
        clear KY KN hk hq
        go_wp2_with fail
        refine (K _).mono ?_; rintro e w1 ⟨rfl, b1⟩
        have hb1 := (hb.alloc hb.size (.cells #[.int .i64 y1, .int .i64 y2, .int .u64 y3] 39)).trans (b1.mono (by have := hb.size; simp; omega))
        have R1 := Lib.hid (trow_touch HROW.out (((Touch.refl (fun _ => False) wr).alloc (.cells #[.int .i64 y1, .int .i64 y2, .int .u64 y3] 39)).trans (Touch.of_below (fun _ => False) b1) (fun _ _ h => h)) (fun _ _ h => h))
        replace HB := Lib.hid hb1
        clear hb hb1 K b1 X c0 c1 c2 HROW
        go_wp2
        go_roundw
        case rel => exact ⟨i + 1, HI1.out, by go_num, by rw [EQ.out]; exact R1.out, HB.out, HOV.out⟩
        case measure => simp [intOf]; omega
    · obtain rfl : i = L.length := by omega
      rw [List.take_length] at HROW hkl
      have hsl : ∃ a cap, v = .slice a (dueL now L).length cap := by
        rcases trow_form HROW.out with ⟨h1, h2⟩ | ⟨g2, cap2, h1, _⟩
        · exact ⟨none, 0, by rw [h1, h2]; rfl⟩
        · exact ⟨_, _, h1⟩
      obtain ⟨a, cap, rfl⟩ := hsl
      have K := sort_any a cap (dueL now L) (by omega) wr HROW.out
      have hdl : ((dueL now L).length : Int) ≤ 256 := by omega
      have HSL := Lib.hid (sortT_len (dueL now L))
      clear HR hb HROW hkl
      generalize dueL now L = L2 at *
      go_wp2_with fail
      refine K.mono ?_; rintro e w1 ⟨rfl, hr1, ht1⟩
      have F : Hid (NewT 39 (sortT L2) w ⟨a, L2.length, cap⟩ w1) := ⟨hr1, HSL.out.symm, fun b hb => HOV.out b (own_eq hb)⟩
      have F2 := Lib.hid (HB.out.trans (ht1.below (B := w.heap.size) HB.out.size (fun k _ hk => HOV.out k (own_eq hk))))
      clear K hr1 ht1
      go_wp2
      go_ret
      exact ⟨⟨a, L2.length, cap⟩, rfl, F.out, F2.out⟩
def EverT : Int := 18446744073709551615
theorem all_any (g : Nat) (v : Sl) (L : List Tm) (w : World) (h : Ws true g v L w) :
    Calls Try.prog 18 #[.pointer (some ⟨g, 0, none⟩)] w (UpPost 39 (sortT L) w) := by
  have K := upTo_any 18446744073709551615 g v L w h
  rw [due_all (fun x hx => (h.ok.ok x hx).t1)] at K
  clear h
  go_enter Try.func18, Try.ntmps18
  go_wp2_with fail
  refine K.mono ?_; rintro e w1 ⟨v1, rfl, h1, h2⟩
  clear K
  have F := Lib.hid h1
  have F2 := Lib.hid h2
  clear h1 h2
  go_wp2
  go_ret
  exact ⟨v1, rfl, F.out, F2.out⟩
theorem keep_rest (now : Int) (L : List Tm) : keepL (isP now) L = restL now L := rfl
/-- behind Due: the wheel holds what stays, in blocks that were its own; who fell due stand in new memory -/
def DuePost (k : Bool) (g : Nat) (v : Sl) (D L' : List Tm) (w : World) (e : Ending) (w' : World) : Prop :=
  ∃ vd v' : Sl, e = .returned (.slice vd.a vd.n vd.c) ∧ NewT (tT k) D w vd w' ∧ Ws k g v' L' w' ∧ Touch (OwnS g v) w w' ∧ (∀ b, OwnS g v' b → OwnS g v b ∨ w.heap.size ≤ b) ∧ ∀ b, vd.v.ownBlock = some b → ¬ OwnS g v' b
set_option maxHeartbeats 1600000 in
set_option maxRecDepth 100000 in
theorem due_any (now : Int) (g : Nat) (v : Sl) (L : List Tm) (w : World) (h : Ws true g v L w) :
    Calls Try.prog 12 #[.pointer (some ⟨g, 0, none⟩), .int .u64 now] w (DuePost true g v (sortT (dueL now L)) (restL now L) w) := by
  have hB : Hid (Below w.heap.size w (w.alloc (.cells #[.int .u64 now] 30))) := (Below.refl _ w).alloc (Nat.le_refl _) _
  have X := Lib.hid (Cs.new w [.int .u64 now] 30)
  have K := upTo_any now g v L _ (h.keep hB.out)
  have x0 := X.out.cell 0 _ rfl
  have xl := X.out.lt
  have HW := Lib.hid h
  have HLT := Lib.hid h.lt
  have hn := h.n
  obtain ⟨a, n, c⟩ := v
  simp only at hn
  subst hn
  have hl := h.ok.len
  clear h
  generalize sortT (dueL now L) = D at *
  go_enter Try.func12, Try.ntmps12
  go_wp2_with fail
  refine K.mono ?_; rintro e w1 ⟨vd, rfl, hd, b1⟩
  have HB1 := Lib.hid (hB.out.trans (b1.mono hB.out.size))
  have W1 := HW.out.keep HB1.out
  have X1 := Lib.hid (X.out.keep b1)
  have g0 := W1.box.cell 0 _ rfl
  have gl := W1.box.lt
  have KD := delF_any 26 enters_due #[.pointer (some ⟨w.heap.size, 0, none⟩)] (isP now) a c L (by omega) w1 W1.row (fun x hx w' ht => dueC_any x now w.heap.size w' (X1.out.touch ht (fun e => by have := HLT.out _ (.inr (own_eq e)); omega)))
  have FIN : Hid (∀ w2, TRow 39 w2 (.slice a (keepL (isP now) L).length c) (keepL (isP now) L) → Touch (fun k => (Value.slice a 0 0).ownBlock = some k) w1 w2 → DuePost true g ⟨a, L.length, c⟩ D (restL now L) w (.returned (.slice vd.a vd.n vd.c)) (w2.setCell ⟨g, 0, none⟩ (.slice a (keepL (isP now) L).length c)) ∧ Cs g [.slice a L.length c] w2) := fun w2 hr ht => by
    have ht2 : Touch (fun b => (Sl.v ⟨a, L.length, c⟩).ownBlock = some b) w1 w2 := ht.mono (fun b _ hb => own_eq hb)
    obtain ⟨v', a1, a2, a3⟩ := W1.put (v' := ⟨a, (keepL (isP now) L).length, c⟩) hr ht2 (fun b hb => .inl (own_eq hb)) (HW.out.ok.rest now)
    refine ⟨?_, W1.box.touch ht2 W1.ne⟩
    have hg := W1.box.lt
    have t3 : Touch (OwnS g ⟨a, L.length, c⟩) w1 (w2.setCell ⟨g, 0, none⟩ (.slice a (keepL (isP now) L).length c)) := a2
    have q1 : ∀ b, OwnS g ⟨a, (keepL (isP now) L).length, c⟩ b → OwnS g ⟨a, L.length, c⟩ b := fun b hb => hb.imp id (fun hb => own_eq hb)
    have W3 : Ws true g ⟨a, (keepL (isP now) L).length, c⟩ (restL now L) (w2.setCell ⟨g, 0, none⟩ (.slice a (keepL (isP now) L).length c)) := by
      refine ⟨(W1.box.touch ht2 W1.ne).set 0 _ (by simp), ?_, fun e => W1.ne (own_eq e), HW.out.ok.rest now⟩
      exact trow_touch (v := Sl.v ⟨a, (keepL (isP now) L).length, c⟩) hr (Touch.set (F := fun b => b = g) (Touch.refl _ w2) (fun _ => rfl) _) (fun b hb e => W1.ne (by rw [← e]; exact own_eq hb))
    have q2 : ∀ b, vd.v.ownBlock = some b → ¬ OwnS g ⟨a, L.length, c⟩ b := fun b hb ho => by
      have e1 := hd.2.2 b hb
      have e2 := HLT.out b ho
      simp at e1; omega
    refine ⟨vd, ⟨a, (keepL (isP now) L).length, c⟩, rfl, ⟨trow_touch hd.1 t3 q2, hd.2.1, fun b hb => by have := hd.2.2 b hb; simp at this; omega⟩, W3, ((Touch.of_below (OwnS g ⟨a, L.length, c⟩) HB1.out).trans t3 (fun _ _ h => h)), fun b hb => .inl (q1 b hb), fun b hb ho => q2 b hb (q1 b ho)⟩
  have hkl : ((keepL (isP now) L).length : Int) ≤ 256 := by have := keep_len (isP now) L; omega
  clear K hd b1 W1
  go_wp2_with fail
  refine KD.mono ?_; rintro e w2 ⟨rfl, hr2, ht2⟩
  obtain ⟨f1, f2⟩ := FIN.out w2 hr2 ht2
  have F := Lib.hid f1
  clear g0 gl x0 xl
  have g0 := f2.cell 0 _ rfl
  have gf := f2.free 0 _ rfl
  have gl := f2.lt
  clear KD FIN hr2 ht2 f1 f2
  go_wp2
  go_ret
  exact F.out
end Go.Proofs.Ytmnakbpjbgjnmaa
