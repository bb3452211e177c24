/- The reference: votes by who, rounds the last one at the end; in memory. -/
import Derived.Test.YtnkjepemliccpaaRcEx
import Derived.BigQuiet
import Derived.BigRegion
namespace Go.Proofs.Ytnkjepemliccpaa
open Go.Sort Go.RowKit Go.BigFrame
set_option linter.unusedVariables false
set_option linter.unusedSimpArgs false

def cB (b : Bool) : List Value := [.bool b]
theorem cB_enc : Enc cB 1 := ⟨by decide, fun _ => rfl, fun x u hu => by
  simp only [cB, List.mem_cons, List.not_mem_nil, or_false] at hu
  subst hu; rfl⟩
def qC (k : Rc) (v p : Sl) (sq : Int) (gt : Bool) : List Value := [.int .i64 k.rounds, .int .u64 k.hold, .slice v.a v.n v.c, .slice p.a p.n p.c, .bool k.on, .int .u32 sq, .bool gt]
/-- a slice of the rounds that are over -/
structure PRow (w : World) (p : Sl) (L : List Bool) : Prop where
  n : p.n = L.length
  cap : p.n ≤ p.c ∧ p.c ≤ maxLen
  nil : p.a = .none → p.n = 0 ∧ p.c = 0
  pos : ∀ a, p.a = some a → 0 < p.n
  rd : RdE cB 1 w p.a L
  lt : ∀ a, p.a = some a → a.spot = none ∧ a.block < w.heap.size
structure Qs (g : Nat) (v p : Sl) (sq : Int) (gt : Bool) (k : Rc) (w : World) : Prop where
  box : Cs g (qC k v p sq gt) w
  row : ERow cv 4 59 w v.v (allV k.vote)
  past : PRow w p k.past.reverse
  vne : ∀ b, v.v.ownBlock = some b → b ≠ g
  pne : ∀ a, p.a = some a → a.block ≠ g
  rel : k.on = true → sq = k.seq ∧ gt = k.got
  ok : OkR k
def QOwn (g : Nat) (v p : Sl) (b : Nat) : Prop := b = g ∨ v.v.ownBlock = some b ∨ ∃ a, p.a = some a ∧ a.block = b
section
variable {g : Nat} {v v' p p' : Sl} {sq sq' : Int} {gt gt' : Bool} {k k' : Rc} {w w1 w2 w' : World} {F : Nat → Prop} {L : List Bool}
theorem PRow.touch (h : PRow w p L) (ht : Touch F w w') (hF : ∀ a, p.a = some a → ¬ F a.block) : PRow w' p L :=
  ⟨h.n, h.cap, h.nil, h.pos, h.rd.touch ht (fun b off e => hF _ e), fun a e => ⟨(h.lt a e).1, Nat.lt_of_lt_of_le (h.lt a e).2 ht.size⟩⟩
theorem PRow.keep (h : PRow w p L) (hb : Below w.heap.size w w') : PRow w' p L := h.touch (Touch.of_below (fun _ => False) hb) (fun _ _ h => h)
theorem prow_nil : PRow w nilS [] := ⟨rfl, ⟨Nat.zero_le _, Nat.zero_le _⟩, fun _ => ⟨rfl, rfl⟩, fun a h => by simp [nilS] at h, fun h => absurd h (by simp), fun a h => by simp [nilS] at h⟩
theorem Qs.lt (h : Qs g v p sq gt k w) : ∀ b, QOwn g v p b → b < w.heap.size := by
  rintro b (rfl | hb | ⟨a, ha, rfl⟩)
  · exact h.box.lt
  · exact erow_lt h.row hb
  · exact (h.past.lt a ha).2
theorem Qs.touch (h : Qs g v p sq gt k w) (ht : Touch F w w') (hF : ∀ b, QOwn g v p b → ¬ F b) : Qs g v p sq gt k w' :=
  ⟨h.box.touch ht (hF g (.inl rfl)), erow_touch h.row ht (fun b hb => hF b (.inr (.inl hb))), h.past.touch ht (fun a ha => hF _ (.inr (.inr ⟨a, ha, rfl⟩))), h.vne, h.pne, h.rel, h.ok⟩
theorem Qs.keep (h : Qs g v p sq gt k w) (hb : Below w.heap.size w w') : Qs g v p sq gt k w' := h.touch (Touch.of_below (fun _ => False) hb) (fun _ _ h => h)
theorem Qs.n (h : Qs g v p sq gt k w) : v.n = (allV k.vote).length := erow_n h.row
theorem Qs.n33 (h : Qs g v p sq gt k w) : v.n ≤ 33 := by rw [h.n]; exact all_len _
theorem Qs.pn (h : Qs g v p sq gt k w) : p.n = k.past.length := by rw [h.past.n, List.length_reverse]
theorem Qs.p8 (h : Qs g v p sq gt k w) : p.n ≤ 8 := by rw [h.pn]; exact Nat.le_trans h.ok.len h.ok.r1
/-- behind a call: it holds k', nothing turned but its box -/
def QAft (g : Nat) (v p : Sl) (k' : Rc) (w w' : World) : Prop := ∃ v' p' sq' gt', Qs g v' p' sq' gt' k' w' ∧ Touch (fun b => b = g) w w' ∧ ∀ b, QOwn g v' p' b → QOwn g v p b ∨ w.heap.size ≤ b
theorem Qs.same (h : Qs g v p sq gt k w) (hb : Below w.heap.size w w') : QAft g v p k w w' := ⟨v, p, sq, gt, h.keep hb, Touch.of_below _ hb, fun _ hb => .inl hb⟩
/-- the box alone is written, behind whatever new memory: what it holds then -/
theorem Qs.put (h : Qs g v p sq gt k w) (hb : Below w.heap.size w w2) (ht : Touch (fun b => b = g) w2 w') (hx : Cs g (qC k' v' p' sq' gt') w') (hr : ERow cv 4 59 w2 v'.v (allV k'.vote)) (hp : PRow w2 p' k'.past.reverse)
    (hv : ∀ b, v'.v.ownBlock = some b → v.v.ownBlock = some b ∨ w.heap.size ≤ b) (hq : ∀ a, p'.a = some a → (p.a = some a) ∨ w.heap.size ≤ a.block) (hrel : k'.on = true → sq' = k'.seq ∧ gt' = k'.got) (hok : OkR k') : QAft g v p k' w w' := by
  have gl := h.box.lt
  have v1 : ∀ b, v'.v.ownBlock = some b → b ≠ g := fun b hb e => by
    rcases hv b hb with h1 | h1
    · exact h.vne b h1 e
    · omega
  have p1 : ∀ a, p'.a = some a → a.block ≠ g := fun a ha e => by
    rcases hq a ha with h1 | h1
    · exact h.pne a h1 e
    · omega
  refine ⟨v', p', sq', gt', ⟨hx, erow_touch hr ht v1, hp.touch ht p1, v1, p1, hrel, hok⟩, (Touch.of_below (fun b => b = g) hb).trans ht (fun _ _ h => h), ?_⟩
  rintro b (rfl | hb | ⟨a, ha, rfl⟩)
  · exact .inl (.inl rfl)
  · exact (hv b hb).imp (fun h => .inr (.inl h)) id
  · exact (hq a ha).imp (fun h => .inr (.inr ⟨a, h, rfl⟩)) id
end
/-! where one stands -/
def atL (i : Int) (L : List Vt) : Nat := L.findIdx fun y => !decide (y.who < i)
theorem atL_le (i : Int) (L : List Vt) : atL i L ≤ L.length := List.findIdx_le_length
theorem atL_on {i : Int} {L : List Vt} {j : Nat} {y : Vt} (hx : L[j]? = some y) (hj : j ≤ atL i L) (h : y.who < i) : j + 1 ≤ atL i L := by
  rcases Nat.lt_or_ge j (atL i L) with h1 | h1
  · exact h1
  · have e : atL i L = j := by omega
    obtain ⟨h2, h3⟩ := List.getElem?_eq_some_iff.1 hx
    have := List.findIdx_getElem (p := fun y : Vt => !decide (y.who < i)) (xs := L) (w := by show atL i L < _; omega)
    have h4 : L[List.findIdx (fun y : Vt => !decide (y.who < i)) L]? = some y := by show L[atL i L]? = some y; rw [e]; exact hx
    obtain ⟨h5, h6⟩ := List.getElem?_eq_some_iff.1 h4
    rw [h6] at this
    simp [h] at this
theorem atL_here {i : Int} {L : List Vt} {j : Nat} {y : Vt} (hx : L[j]? = some y) (hj : j ≤ atL i L) (h : ¬ y.who < i) : atL i L = j := by
  refine Nat.le_antisymm ?_ hj
  rcases Nat.lt_or_ge j (atL i L) with h1 | h1
  · have := List.not_of_lt_findIdx h1
    obtain ⟨h2, h3⟩ := List.getElem?_eq_some_iff.1 hx
    rw [h3] at this
    simp [h] at this
  · exact h1
theorem atL_app {i : Int} : ∀ {A B : List Vt}, (∀ y ∈ A, y.who < i) → (∀ y, B.head? = some y → ¬ y.who < i) → atL i (A ++ B) = A.length
  | [], [], _, _ => rfl
  | [], y :: B, _, h => by
    have := h y rfl
    unfold atL
    rw [List.nil_append, List.findIdx_cons]
    simp [this]
  | a :: A, B, h1, h2 => by
    have ih := atL_app (A := A) (B := B) (fun y hy => h1 y (by simp [hy])) h2
    have ha := h1 a (by simp)
    unfold atL at *
    rw [List.cons_append, List.findIdx_cons]
    simp [ha, ih]
def midV (f : Nat → Vt) (n : Nat) : List Vt := if isV (f n) = true then [f n] else []
theorem all_cut (f : Nat → Vt) {n : Nat} (h : n < 33) : allV f = loV f n ++ (midV f n ++ hiV f n) := by
  unfold midV
  rw [cut_at f h, List.append_assoc]
theorem lo_id {k : Rc} (h : OkR k) {n : Nat} : ∀ y ∈ loV k.vote n, y.who < n := by
  intro y hy
  obtain ⟨j, hj, rfl, hs⟩ := mem_lo hy
  rw [(h.yes j hs).who]; omega
theorem hi_id {k : Rc} (h : OkR k) {n : Nat} : ∀ y ∈ hiV k.vote n, (n : Int) < y.who := by
  intro y hy
  obtain ⟨j, hj, _, rfl, hs⟩ := mem_hi hy
  rw [(h.yes j hs).who]; omega
theorem mid_id {k : Rc} (h : OkR k) {n : Nat} : ∀ y ∈ midV k.vote n, y.who = n := by
  intro y hy
  unfold midV at hy
  split at hy
  · rename_i hs
    simp only [List.mem_singleton] at hy
    subst hy
    exact (h.yes n hs).who
  · simp at hy
theorem mid_hi {k : Rc} (h : OkR k) {n : Nat} : ∀ y, (midV k.vote n ++ hiV k.vote n).head? = some y → ¬ y.who < n := by
  intro y hy
  have hm : y ∈ midV k.vote n ++ hiV k.vote n := List.mem_of_mem_head? hy
  rcases List.mem_append.1 hm with hm | hm
  · rw [mid_id h y hm]; omega
  · have := hi_id h y hm; omega
theorem at_all {k : Rc} (h : OkR k) {n : Nat} (hn : n < 33) : atL n (allV k.vote) = (loV k.vote n).length := by
  rw [all_cut k.vote hn]
  exact atL_app (lo_id h) (mid_hi h)
/-- whose vote is put: those ahead of it, it, those behind it -/
theorem all_put (k : Rc) {n : Nat} (hn : n < 33) {x : Vt} (hx : isV x = true) : allV (updV k.vote n x) = loV k.vote n ++ x :: hiV k.vote n := by
  rw [all_cut _ hn, lo_upd, hi_upd]
  unfold midV
  rw [updV_same, if_pos hx]; rfl
/-- what stands where one's own vote would stand -/
theorem at_take {k : Rc} (h : OkR k) {n : Nat} (hn : n < 33) : (allV k.vote).take (atL n (allV k.vote)) = loV k.vote n := by
  rw [at_all h hn, all_cut k.vote hn, List.take_left']
  rfl
theorem at_yes {k : Rc} (h : OkR k) {n : Nat} (hn : n < 33) (hs : isV (k.vote n) = true) : (allV k.vote)[atL n (allV k.vote)]? = some (k.vote n) ∧ (allV k.vote).drop (atL n (allV k.vote) + 1) = hiV k.vote n := by
  rw [at_all h hn, all_cut k.vote hn]
  unfold midV
  rw [if_pos hs]
  refine ⟨by rw [List.getElem?_append_right (Nat.le_refl _), Nat.sub_self]; rfl, ?_⟩
  rw [List.drop_append, List.drop_eq_nil_of_le (by omega), show (loV k.vote n).length + 1 - (loV k.vote n).length = 1 by omega]
  rfl
theorem at_no {k : Rc} (h : OkR k) {n : Nat} (hn : n < 33) (hs : isV (k.vote n) = false) : (∀ y, (allV k.vote)[atL n (allV k.vote)]? = some y → (n : Int) < y.who) ∧ (allV k.vote).drop (atL n (allV k.vote)) = hiV k.vote n := by
  rw [at_all h hn, all_cut k.vote hn]
  unfold midV
  rw [hs]
  simp only [Bool.false_eq_true, if_false, List.nil_append]
  refine ⟨fun y hy => ?_, List.drop_left' rfl⟩
  rw [List.getElem?_append_right (Nat.le_refl _), Nat.sub_self] at hy
  exact hi_id h y (List.mem_of_getElem? hy)
end Go.Proofs.Ytnkjepemliccpaa
