/- The reference's Due on its way: the list gone through as far as a place, the table as far as a peer. -/
import Derived.Test.YtpeoallhbbleaaaPaRefHeard
import Derived.Deep.AppendLies
namespace Go.Proofs.Ytpeoallhbbleaaa
open Go.Sort Go.RowKit Go.BigFrame
set_option linter.unusedVariables false
set_option linter.unusedSimpArgs false

theorem lo_mono (f : Nat → Pt) (n d : Nat) (h : ∀ j, n ≤ j → j < n + d → isS (f j) = false) : loP f (n + d) = loP f n := by
  induction d with
  | zero => rfl
  | succ d ih =>
    rw [← Nat.add_assoc, lo_no (h _ (by omega) (by omega)), ih (fun j h1 h2 => h j h1 (by omega))]
/-- the next one that is there -/
theorem lo_next (f : Nat → Pt) : ∀ (d n : Nat), n + d = 33 → (loP f n).length < (allP f).length → ∃ n', n ≤ n' ∧ n' < 33 ∧ isS (f n') = true ∧ loP f n' = loP f n ∧ ∀ j, n ≤ j → j < n' → isS (f j) = false
  | 0, n, e, h => by
    obtain rfl : n = 33 := by omega
    exact absurd h (by unfold allP; omega)
  | d + 1, n, e, h => by
    cases hs : isS (f n) with
    | true => exact ⟨n, Nat.le_refl _, by omega, hs, rfl, fun j h1 h2 => by omega⟩
    | false =>
      have e1 := lo_no hs
      obtain ⟨n', h1, h2, h3, h4, h5⟩ := lo_next f d (n + 1) (by omega) (by rw [e1]; exact h)
      refine ⟨n', by omega, h2, h3, h4.trans e1, fun j h6 h7 => ?_⟩
      by_cases ej : j = n
      · subst ej; exact hs
      · exact h5 j (by omega) h7
theorem mid_skip {k : Tk} {now : Int} {n : Nat} : ∀ d, (∀ j, n ≤ j → j < n + d → isS (k.p j) = false) → midD k now (n + d) = midD k now n ∧ loD k now (n + d) = loD k now n
  | 0, _ => ⟨rfl, rfl⟩
  | d + 1, h => by
    have ih := mid_skip (k := k) (now := now) (n := n) d (fun j h1 h2 => h j h1 (by omega))
    have hd : isD (k.p (n + d)) now = false := by unfold isD; rw [h (n + d) (by omega) (by omega)]; rfl
    rw [← Nat.add_assoc, mid_same hd, loD_no (by unfold dueK; rw [hd, if_neg (by decide)])]
    exact ih
/-- where the next one stands, in the list of those gone through so far -/
theorem mid_lo (k : Tk) (now : Int) (h : OkK k) : ∀ n, (loP (midD k now n).p n).length = (loP k.p n).length := by
  have key : ∀ m n, m ≤ n → (loP (midD k now n).p m).length = (loP k.p m).length := by
    intro m
    induction m with
    | zero => intro n _; rfl
    | succ m ih =>
      intro n hn
      have i1 := ih n (by omega)
      have e : isS ((midD k now n).p m) = isS (k.p m) := by
        show isS (if m < n then dueX k (k.p m) now else k.p m) = _
        rw [if_pos (by omega)]
        unfold dueX
        split
        · rename_i hd
          unfold isD at hd
          rw [Bool.and_eq_true] at hd
          rw [hd.1]
          have hx := h.yes m hd.1
          unfold stepX
          have ts : ∀ y : Pt, y.st = 2 → isS (tryX k y now) = true := fun y hy => by
            unfold tryX; split
            · rfl
            · unfold isS; show (!(y.st == 0)) = true; rw [hy]; rfl
          split
          · exact ts _ (by assumption)
          · split
            · exact hd.1
            · exact ts _ rfl
        · rfl
      cases hs : isS (k.p m) with
      | true => rw [lo_yes (by rw [e]; exact hs), lo_yes hs, List.length_append, List.length_append, i1]; rfl
      | false => rw [lo_no (by rw [e]; exact hs), lo_no hs, i1]
  exact fun n => key n n (Nat.le_refl _)
theorem mid_all (k : Tk) (now : Int) (h : OkK k) (n0 : 0 ≤ now) (n1 : now ≤ 4611686018427387904) {n : Nat} (hn : n < 33) (hs : isS (k.p n) = true) : atL n (allP (midD k now n).p) = (loP k.p n).length ∧ (allP (midD k now n).p)[(loP k.p n).length]? = some (k.p n) := by
  have ok := mid_ok h now n0 n1 n
  have e := at_all ok hn
  rw [mid_lo k now h] at e
  have g := get_all ok hn (by rw [mid_at]; exact hs)
  rw [e, mid_at] at g
  exact ⟨e, g⟩
/-- what a step makes of one -/
structure DuF (k : Tk) (x z : Pt) (now : Int) : Prop where
  dx : dueX k x now = tryX k z now
  dk : dueK k x now = tryK k z
  pe : z.peer = x.peer
  s2 : z.st = 2
  no : z.ip = 0 ∧ z.pt = 0 ∧ z.un = 0
  tr : (z.tr : Int) ≤ k.tries
theorem du_two {k : Tk} {i : Nat} {x : Pt} {now : Int} (hx : OkP k.tries i x) (hd : x.nx ≤ now) (h2 : x.st = 2) : DuF k x x now := by
  have d : isD x now = true := by unfold isD; rw [hx.is, decide_eq_true hd]; rfl
  refine ⟨?_, ?_, rfl, h2, hx.no (by omega), hx.tr⟩
  · unfold dueX stepX; rw [d, if_pos rfl, if_pos h2]
  · unfold dueK stepK; rw [d, if_pos rfl, if_pos h2]
theorem du_fresh {k : Tk} {i : Nat} {x : Pt} {now : Int} (ok : OkK k) (hx : OkP k.tries i x) (hd : x.nx ≤ now) (h2 : ¬ x.st = 2) (h3 : ¬ (x.st = 3 ∧ now < x.un)) : DuF k x (freshX x) now := by
  have d : isD x now = true := by unfold isD; rw [hx.is, decide_eq_true hd]; rfl
  have := ok.t0
  refine ⟨?_, ?_, rfl, rfl, ⟨rfl, rfl, rfl⟩, by show ((0 : Nat) : Int) ≤ _; omega⟩
  · unfold dueX stepX; rw [d, if_pos rfl, if_neg h2, if_neg h3]
  · unfold dueK stepK; rw [d, if_pos rfl, if_neg h2, if_neg h3]
theorem du_keep {k : Tk} {i : Nat} {x : Pt} {now : Int} (hx : OkP k.tries i x) (hd : x.nx ≤ now) (h3 : x.st = 3 ∧ now < x.un) : dueX k x now = { x with nx := now + k.keep } ∧ dueK k x now = 2 := by
  have d : isD x now = true := by unfold isD; rw [hx.is, decide_eq_true hd]; rfl
  have h2 : ¬ x.st = 2 := by omega
  refine ⟨?_, ?_⟩
  · unfold dueX stepX; rw [d, if_pos rfl, if_neg h2, if_pos h3]
  · unfold dueK stepK; rw [d, if_pos rfl, if_neg h2, if_pos h3]
theorem du_wait {k : Tk} {x : Pt} {now : Int} (hd : now < x.nx) : dueX k x now = x ∧ dueK k x now = 0 ∧ isD x now = false := by
  have d : isD x now = false := by unfold isD; rw [decide_eq_false (by omega), Bool.and_false]
  refine ⟨?_, ?_, d⟩
  · unfold dueX; rw [d, if_neg (by decide)]
  · unfold dueK; rw [d, if_neg (by decide)]
/-- on the way -/
structure RdS (g : Nat) (u : Sl) (k' : Tk) (E : List (Int × Int)) (w : World) (sv : Value) (wr : World) : Prop where
  q : Qs g u k' wr
  t : Touch (QOwn g u) w wr
  row : ERow ck 2 53 wr sv E
  own : ∀ b, sv.ownBlock = some b → w.heap.size ≤ b
  lt : ∀ b, QOwn g u b → b < w.heap.size
section
variable {g : Nat} {u : Sl} {k1 k' : Tk} {E E' : List (Int × Int)} {w wr w' : World} {sv sv' : Value}
theorem RdS.keep (h : RdS g u k' E w sv wr) (hb : Below wr.heap.size wr w') : RdS g u k' E w sv w' :=
  ⟨h.q.keep hb, h.t.trans (Touch.of_below (QOwn g u) hb) (fun _ _ h => h), erow_keep h.row hb, h.own, h.lt⟩
theorem RdS.app (h : RdS g u k' E w sv wr) (hg : wr.grownBy w' sv.ownBlock) (hr : ERow ck 2 53 w' sv' E') (ho : ∀ b, sv'.ownBlock = some b → w.heap.size ≤ b) : RdS g u k' E' w sv' w' := by
  have T : Touch (fun b => sv.ownBlock = some b) wr w' := Touch.of_grown hg (fun _ h => h)
  refine ⟨h.q.touch T (fun b hb e => ?_), h.t.trans T (fun b hb e => ?_), hr, ho, h.lt⟩
  · have h1 := h.own b e; have h2 := h.lt b hb; omega
  · have h1 := h.own b e; omega
theorem RdS.qown (h : RdS g u k' E w sv wr) {gv : Nat} (ha : u.a = some ⟨gv, 0, none⟩) : QOwn g u gv := by
  rcases erow_form h.q.row with ⟨h1, _⟩ | ⟨g2, cap, h1, _⟩
  · simp only [Sl.v, Value.slice.injEq] at h1; rw [ha] at h1; exact absurd h1.1 (by simp)
  · refine .inr ?_
    rw [h1]; simp only [Sl.v, Value.slice.injEq] at h1
    have := h1.1; rw [ha] at this; simp only [Option.some.injEq, Addr.mk.injEq, and_true] at this
    rw [← this]; rfl
theorem RdS.gne (h : RdS g u k' E w sv wr) {gv : Nat} (ha : u.a = some ⟨gv, 0, none⟩) : gv ≠ g := by
  rcases erow_form h.q.row with ⟨h1, _⟩ | ⟨g2, cap, h1, _⟩
  · simp only [Sl.v, Value.slice.injEq] at h1; rw [ha] at h1; exact absurd h1.1 (by simp)
  · refine h.q.ne gv ?_
    rw [h1]; simp only [Sl.v, Value.slice.injEq] at h1
    have := h1.1; rw [ha] at this; simp only [Option.some.injEq, Addr.mk.injEq, and_true] at this
    rw [← this]; rfl
theorem RdS.turn (h : RdS g u k1 E w sv wr) {gv n j : Nat} {y : Pt} (hn : n < 33) (hs : isS (k1.p n) = true) (hy : isS y = true) (hok : OkK (setP k1 n y)) (ha : u.a = some ⟨gv, 0, none⟩) (hj : atL n (allP k1.p) = j)
    (ht : Touch (fun b => b = gv) wr w') (hr : ERow cp 7 63 w' u.v ((allP k1.p).set j y)) : RdS g u (setP k1 n y) E w sv w' := by
  have q := h.q.setp hn hs hy hok ha ht (by rw [hj]; exact hr)
  have hl := h.lt gv (h.qown ha)
  refine ⟨q.1, h.t.trans q.2 (fun _ _ h => h), erow_touch h.row ht (fun b hb e => ?_), h.own, h.lt⟩
  have h1 := h.own b hb; have e' : b = gv := e; omega
theorem RdS.setp (h : RdS g u k1 E w sv wr) {gv n j : Nat} {y : Pt} (hn : n < 33) (hs : isS (k1.p n) = true) (hy : isS y = true) (hok : OkK (setP k1 n y)) (ha : u.a = some ⟨gv, 0, none⟩) (hj : atL n (allP k1.p) = j) (hl : j < (allP k1.p).length) :
    RdS g u (setP k1 n y) E w sv (wr.setCells gv (j * 7) (cp y)) := by
  have hr := h.q.row
  have hn' := h.q.n
  obtain ⟨a, un, uc⟩ := u
  simp only at ha hn'
  subst ha hn'
  exact h.turn hn hs hy hok rfl hj (Touch.sets (F := fun b => b = gv) (Touch.refl _ wr) gv (fun _ => rfl) (cp y) (j * 7)) (erow_put (y := y) hr hl)
theorem RdS.setf (h : RdS g u k1 E w sv wr) {gv n j t : Nat} {y : Pt} {v : Value} (hn : n < 33) (hs : isS (k1.p n) = true) (hy : isS y = true) (hok : OkK (setP k1 n y)) (ha : u.a = some ⟨gv, 0, none⟩) (hj : atL n (allP k1.p) = j) (hx : (allP k1.p)[j]? = some (k1.p n)) (ht : t < 7) (hv : (cp (k1.p n)).set t v = cp y) :
    RdS g u (setP k1 n y) E w sv (wr.setCell ⟨gv, j * 7 + t, none⟩ v) := by
  have hr := h.q.row
  have hn' := h.q.n
  obtain ⟨a, un, uc⟩ := u
  simp only at ha hn'
  subst ha hn'
  exact h.turn hn hs hy hok rfl hj (Touch.set (F := fun b => b = gv) (Touch.refl _ wr) (fun _ => rfl) _) (erow_field (x := k1.p n) (y := y) hr hx ht hv)
/-- a box of the call's own is written -/
theorem RdS.far (h : RdS g u k' E w sv wr) {xb : Nat} (hx : ∀ b, (QOwn g u b ∨ sv.ownBlock = some b) → b ≠ xb) (hw : w.heap.size ≤ xb) (o : Nat) (v : Value) : RdS g u k' E w sv (wr.setCell ⟨xb, o, none⟩ v) := by
  have T : Touch (fun b => b = xb) wr (wr.setCell ⟨xb, o, none⟩ v) := Touch.set (F := fun b => b = xb) (Touch.refl _ wr) (a := ⟨xb, o, none⟩) (fun _ => rfl) v
  exact ⟨h.q.touch T (fun b hb e => hx b (.inl hb) e), h.t.trans T (fun b hb e => by have e' : b = xb := e; omega), erow_touch h.row T (fun b hb e => hx b (.inr hb) e), h.own, h.lt⟩
/-- a box of the call's own is as it was behind an append -/
theorem RdS.pend {W : World} {b : Nat} {vs : List Value} (h : RdS g u k' E w sv wr) (hc : Cs b vs W) (hb : wr.heap.size ≤ b) (hg : W.grownBy w' sv.ownBlock) : Cs b vs w' :=
  hc.touch (Touch.of_grown hg (F := fun b => sv.ownBlock = some b) (fun _ h => h)) (fun e => by have := erow_lt h.row e; omega)
end
end Go.Proofs.Ytpeoallhbbleaaa
