/- Plain mathematics of Go's symMerge, and of the blocks that stable sorting merges. -/
import Derived.Test.YtdehpiaokjihjaaSortMath
namespace Go.Proofs.Ytdehpiaokjihjaa
set_option linter.unusedVariables false
set_option linter.unusedSimpArgs false
section
variable {α : Type} {key : α → Int}
/-- what a merge answers -/
def Merged (key : α → Int) (X M Z D : List α) : Prop := ∃ M', D = X ++ M' ++ Z ∧ Srt key M' ∧ Eqv key M M'
/-! one ahead of many: the place of it, by halving -/
/-- i to j is left: whoever stands ahead of i is less, whoever stands from j on is not -/
def Lo (p : α → Bool) (m : Nat) (B : List α) (i j : Nat) : Prop := m ≤ i ∧ i ≤ j ∧ j ≤ m + B.length ∧ (∀ t y, B[t]? = some y → m + t < i → p y = true) ∧ (∀ t y, B[t]? = some y → j ≤ m + t → p y = false)
theorem Lo.start (p : α → Bool) (m : Nat) (B : List α) : Lo p m B m (m + B.length) := by
  refine ⟨Nat.le_refl _, by omega, Nat.le_refl _, fun t y _ h => by omega, fun t y h h2 => ?_⟩
  have := (List.getElem?_eq_some_iff.1 h).1
  omega
/-- p holds of all ahead of one of which it holds -/
def Mono (p : α → Bool) (B : List α) : Prop := ∀ (s t : Nat) (x y : α), s ≤ t → B[s]? = some x → B[t]? = some y → p y = true → p x = true
theorem Lo.up {p : α → Bool} {m : Nat} {B : List α} {i j h : Nat} {y : α} (l : Lo p m B i j) (hm : Mono p B) (h1 : i ≤ h) (h2 : h < j) (hy : B[h - m]? = some y) (hp : p y = true) : Lo p m B (h + 1) j := by
  obtain ⟨l1, l2, l3, l4, l5⟩ := l
  exact ⟨by omega, by omega, l3, fun t z hz ht => hm t (h - m) z y (by omega) hz hy hp, l5⟩
theorem Lo.down {p : α → Bool} {m : Nat} {B : List α} {i j h : Nat} {y : α} (l : Lo p m B i j) (hm : Mono p B) (h1 : i ≤ h) (h2 : h < j) (hy : B[h - m]? = some y) (hp : p y = false) : Lo p m B i h := by
  obtain ⟨l1, l2, l3, l4, l5⟩ := l
  refine ⟨by omega, by omega, by omega, l4, fun t z hz ht => ?_⟩
  cases hq : p z with
  | false => rfl
  | true => have := hm (h - m) t y z (by omega) hy hz hq; simp [this] at hp
theorem Lo.split {p : α → Bool} {m : Nat} {B : List α} {i : Nat} (l : Lo p m B i i) : ∃ B1 B2, B = B1 ++ B2 ∧ m + B1.length = i ∧ (∀ y ∈ B1, p y = true) ∧ ∀ y ∈ B2, p y = false := by
  obtain ⟨l1, l2, l3, l4, l5⟩ := l
  obtain ⟨B1, B2, rfl, hb⟩ := part_of (l := B) (k := i - m) (by omega)
  refine ⟨B1, B2, rfl, by omega, fun y hy => ?_, fun y hy => ?_⟩
  · obtain ⟨t, ht, rfl⟩ := List.getElem_of_mem hy
    exact l4 t _ (by rw [List.getElem?_append_left ht]; exact List.getElem?_eq_getElem ht) (by omega)
  · obtain ⟨t, ht, rfl⟩ := List.getElem_of_mem hy
    exact l5 (B1.length + t) _ (by rw [List.getElem?_append_right (by omega)]; simp [ht]) (by omega)
theorem srt_get {B : List α} (h : Srt key B) {s t : Nat} {x y : α} (hst : s ≤ t) (hx : B[s]? = some x) (hy : B[t]? = some y) : key x ≤ key y := by
  obtain ⟨hs, rfl⟩ := List.getElem?_eq_some_iff.1 hx
  obtain ⟨ht, rfl⟩ := List.getElem?_eq_some_iff.1 hy
  rcases Nat.lt_or_ge s t with h1 | h1
  · exact (List.pairwise_iff_getElem.1 h) s t hs ht h1
  · obtain rfl : s = t := by omega
    exact Int.le_refl _
/-- who is less than x; who is not over y -/
def ltP (key : α → Int) (x y : α) : Bool := decide (key y < key x)
def leP (key : α → Int) (x y : α) : Bool := !decide (key x < key y)
theorem ltP_mono {B : List α} (h : Srt key B) (x : α) : Mono (ltP key x) B := fun s t u v hst hu hv hp => by
  have := srt_get h hst hu hv
  simp only [ltP, decide_eq_true_eq] at hp ⊢; omega
theorem leP_mono {B : List α} (h : Srt key B) (x : α) : Mono (leP key x) B := fun s t u v hst hu hv hp => by
  have := srt_get h hst hu hv
  simp only [leP, Bool.not_eq_true', decide_eq_false_iff_not] at hp ⊢; omega
/-- it goes up to its place -/
def Up (X B1 T : List α) (x : α) (k : Nat) (D : List α) : Prop := ∃ B3 B4, B1 = B3 ++ B4 ∧ X.length + B3.length = k ∧ D = X ++ B3 ++ x :: B4 ++ T
theorem Up.start (X B1 T : List α) (x : α) : Up X B1 T x X.length (X ++ x :: B1 ++ T) := ⟨[], B1, rfl, by simp, by simp⟩
theorem Up.len {X B1 T D : List α} {x : α} {k : Nat} (h : Up X B1 T x k D) : D.length = X.length + B1.length + 1 + T.length ∧ k ≤ X.length + B1.length := by
  obtain ⟨B3, B4, rfl, hk, rfl⟩ := h
  simp only [List.length_append, List.length_cons]; omega
theorem Up.step {X B1 T D : List α} {x : α} {k : Nat} (h : Up X B1 T x k D) (hk : k < X.length + B1.length) : ∃ y, D[k]? = some x ∧ D[k + 1]? = some y ∧ Up X B1 T x (k + 1) (swp D k (k + 1) y x) := by
  obtain ⟨B3, B4, rfl, hl, rfl⟩ := h
  simp only [List.length_append] at hk
  obtain ⟨y, r, rfl⟩ := cons_of (l := B4) (by omega)
  have e : X ++ B3 ++ x :: (y :: r) ++ T = (X ++ B3) ++ x :: y :: (r ++ T) := by simp
  have e2 : X ++ B3 ++ x :: (y :: r) ++ T = (X ++ B3 ++ [x]) ++ y :: (r ++ T) := by simp
  refine ⟨y, by rw [e]; exact at_mid _ _ _ (by simp; omega), by rw [e2]; exact at_mid _ _ _ (by simp; omega), B3 ++ [y], r, by simp, by simp; omega, ?_⟩
  rw [e, swp_next' _ _ _ _ (by simp; omega)]; simp
theorem Up.done {X B1 B2 Z D : List α} {x : α} (h : Up X B1 (B2 ++ Z) x (X.length + B1.length) D) (hs : Srt key (B1 ++ B2)) (h1 : ∀ y ∈ B1, ltP key x y = true) (h2 : ∀ y ∈ B2, ltP key x y = false) : Merged key X ([x] ++ (B1 ++ B2)) Z D := by
  obtain ⟨B3, B4, rfl, hl, rfl⟩ := h
  obtain rfl : B4 = [] := List.eq_nil_of_length_eq_zero (by simp only [List.length_append] at hl; omega)
  simp only [ltP, decide_eq_true_eq, decide_eq_false_iff_not] at h1 h2
  have hs' := srt_app.1 hs
  refine ⟨B3 ++ [x] ++ B2, by simp, ?_, ?_⟩
  · simp only [List.append_nil] at hs' h1 ⊢
    rw [List.append_assoc, srt_app]
    refine ⟨hs'.1, ?_, fun u hu v hv => ?_⟩
    · rw [List.singleton_append, srt_cons]
      exact ⟨fun z hz => by have := h2 z hz; omega, hs'.2.1⟩
    · rcases List.mem_cons.1 hv with rfl | hv
      · have := h1 u hu; omega
      · exact hs'.2.2 u hu v hv
  · have := (Eqv.swap (key := key) (X := [x]) (Y := B3) (fun z hz y hy => by simp at hz; subst hz; exact h1 y (by simpa using hy))).app (Eqv.refl B2)
    simpa using this
/-- it goes down to its place -/
def Dn (X A2 T : List α) (y : α) (k : Nat) (D : List α) : Prop := ∃ A3 A4, A2 = A3 ++ A4 ∧ X.length + A3.length = k ∧ D = X ++ A3 ++ y :: A4 ++ T
theorem Dn.start (X A2 T : List α) (y : α) : Dn X A2 T y (X.length + A2.length) (X ++ A2 ++ y :: T) := ⟨A2, [], by simp, rfl, by simp⟩
theorem Dn.len {X A2 T D : List α} {y : α} {k : Nat} (h : Dn X A2 T y k D) : D.length = X.length + A2.length + 1 + T.length ∧ k ≤ X.length + A2.length ∧ X.length ≤ k := by
  obtain ⟨A3, A4, rfl, hk, rfl⟩ := h
  simp only [List.length_append, List.length_cons]; omega
theorem Dn.step {X A2 T D : List α} {y : α} {k : Nat} (h : Dn X A2 T y k D) (hk : X.length < k) : ∃ x, D[k]? = some y ∧ D[k - 1]? = some x ∧ Dn X A2 T y (k - 1) (swp D k (k - 1) x y) := by
  obtain ⟨A3, A4, rfl, hl, rfl⟩ := h
  obtain ⟨r, x, rfl⟩ := snoc_of (l := A3) (by omega)
  have e : X ++ (r ++ [x]) ++ y :: A4 ++ T = (X ++ r) ++ x :: y :: (A4 ++ T) := by simp
  have e2 : X ++ (r ++ [x]) ++ y :: A4 ++ T = (X ++ r ++ [x]) ++ y :: (A4 ++ T) := by simp
  have hk1 : k = (k - 1) + 1 := by omega
  have hl1 : k - 1 = (X ++ r).length := by simp at hl ⊢; omega
  refine ⟨x, by rw [e2]; exact at_mid _ _ _ (by simp at hl ⊢; omega), by rw [e]; exact at_mid _ _ _ hl1, r, x :: A4, by simp, by simp at hl ⊢; omega, ?_⟩
  rw [hk1, Nat.add_sub_cancel, e, swp_next _ _ _ _ hl1]; simp
theorem Dn.done {X A1 A2 Z D : List α} {y : α} (h : Dn (X ++ A1) A2 Z y (X.length + A1.length) D) (hs : Srt key (A1 ++ A2)) (h1 : ∀ x ∈ A1, leP key y x = true) (h2 : ∀ x ∈ A2, leP key y x = false) : Merged key X ((A1 ++ A2) ++ [y]) Z D := by
  obtain ⟨A3, A4, rfl, hl, rfl⟩ := h
  obtain rfl : A3 = [] := List.eq_nil_of_length_eq_zero (by simp only [List.length_append] at hl; omega)
  simp only [leP, Bool.not_eq_true', Bool.not_eq_false', decide_eq_true_eq, decide_eq_false_iff_not] at h1 h2
  simp only [List.nil_append] at hs h2 ⊢
  have hs' := srt_app.1 hs
  refine ⟨A1 ++ y :: A4, by simp, ?_, ?_⟩
  · rw [srt_app]
    refine ⟨hs'.1, srt_cons.2 ⟨fun z hz => by have := h2 z hz; omega, hs'.2.1⟩, fun u hu v hv => ?_⟩
    rcases List.mem_cons.1 hv with rfl | hv
    · have := h1 u hu; omega
    · exact hs'.2.2 u hu v hv
  · have := (Eqv.refl (key := key) A1).app (Eqv.swap (key := key) (X := A4) (Y := [y]) (fun x hx z hz => by simp at hz; subst hz; exact h2 x hx))
    simpa using this
/-! the general case -/
/-- what halving has found between s and r: D[n-1-c] < D[c] is asked -/
def Mid (key : α → Int) (D : List α) (n s0 r0 s r : Nat) : Prop := s0 ≤ s ∧ s ≤ r ∧ r ≤ r0 ∧ (s = s0 ∨ ∃ x y, D[s - 1]? = some x ∧ D[n - s]? = some y ∧ ¬ key y < key x) ∧ (r = r0 ∨ ∃ x y, D[r]? = some x ∧ D[n - 1 - r]? = some y ∧ key y < key x)
theorem Mid.start {D : List α} {n s0 r0 : Nat} (h : s0 ≤ r0) : Mid key D n s0 r0 s0 r0 := ⟨Nat.le_refl _, h, Nat.le_refl _, .inl rfl, .inl rfl⟩
theorem Mid.up {D : List α} {n s0 r0 s r c : Nat} (h : Mid key D n s0 r0 s r) (h1 : s ≤ c) (h2 : c < r) {x y : α} (hx : D[c]? = some x) (hy : D[n - 1 - c]? = some y) (hn : ¬ key y < key x) : Mid key D n s0 r0 (c + 1) r := by
  obtain ⟨a1, a2, a3, a4, a5⟩ := h
  exact ⟨by omega, by omega, a3, .inr ⟨x, y, by simpa using hx, by rw [show n - (c + 1) = n - 1 - c by omega]; exact hy, hn⟩, a5⟩
theorem Mid.down {D : List α} {n s0 r0 s r c : Nat} (h : Mid key D n s0 r0 s r) (h1 : s ≤ c) (h2 : c < r) {x y : α} (hx : D[c]? = some x) (hy : D[n - 1 - c]? = some y) (hn : key y < key x) : Mid key D n s0 r0 s c := by
  obtain ⟨a1, a2, a3, a4, a5⟩ := h
  exact ⟨a1, h1, by omega, a4, .inr ⟨x, y, hx, hy, hn⟩⟩
/-- both runs fall in two; all of the first of each are at most all of the second of each -/
structure Halves (key : α → Int) (X A B Z : List α) (s e : Nat) (A1 A2 B1 B2 : List α) : Prop where
  a : A = A1 ++ A2
  b : B = B1 ++ B2
  la : X.length + A1.length = s
  lb : X.length + A.length + B1.length = e
  aa : ∀ x ∈ A1, ∀ y ∈ A2, key x ≤ key y
  ab : ∀ x ∈ A1, ∀ y ∈ B2, key x ≤ key y
  ba : ∀ y ∈ B1, ∀ x ∈ A2, key y < key x
  bb : ∀ x ∈ B1, ∀ y ∈ B2, key x ≤ key y
/-- the bounds from which is halved -/
def lo0 (a m b mid : Nat) : Nat := if m > mid then mid + m - b else a
def hi0 (m mid : Nat) : Nat := if m > mid then mid else m
theorem at_right {X A Q : List α} {i : Nat} (h : X.length ≤ i) (h2 : i < X.length + A.length) : (X ++ A ++ Q)[i]? = A[i - X.length]? := by
  rw [List.append_assoc, List.getElem?_append_right h, List.getElem?_append_left (by omega)]
theorem mid_bounds {a m b mid s r : Nat} (h1 : a < m) (h2 : m < b) (hm : mid = (a + b) / 2) (h3 : lo0 a m b mid ≤ s) (h4 : s ≤ r) (h5 : r ≤ hi0 m mid) : a ≤ s ∧ r ≤ m ∧ m ≤ mid + m - r ∧ mid + m - s ≤ b ∧ a < mid ∧ mid < b ∧ r ≤ mid ∧ mid ≤ mid + m - r := by
  unfold lo0 at h3
  unfold hi0 at h5
  split at h3 <;> split at h5 <;> omega
theorem lo_le_hi {a m b mid : Nat} (h1 : a < m) (h2 : m < b) (hm : mid = (a + b) / 2) : lo0 a m b mid ≤ hi0 m mid := by
  unfold lo0 hi0
  split <;> omega
theorem Mid.halves {X A B Z : List α} {mid s : Nat} (h : Mid key (X ++ A ++ B ++ Z) (mid + (X.length + A.length)) (lo0 X.length (X.length + A.length) (X.length + A.length + B.length) mid) (hi0 (X.length + A.length) mid) s s)
    (ha : 0 < A.length) (hb : 0 < B.length) (hm : mid = (X.length + (X.length + A.length + B.length)) / 2) (sa : Srt key A) (sb : Srt key B) :
    ∃ A1 A2 B1 B2, Halves key X A B Z s (mid + (X.length + A.length) - s) A1 A2 B1 B2 := by
  obtain ⟨b1, _, b3, b4, b5⟩ := h
  have bd := mid_bounds (a := X.length) (m := X.length + A.length) (b := X.length + A.length + B.length) (by omega) (by omega) hm b1 (Nat.le_refl s) b3
  have q1 : s - X.length ≤ A.length := by clear b4 b5; omega
  have q2 : mid - s ≤ B.length := by clear b4 b5; omega
  obtain ⟨A1, A2, rfl, e1⟩ := part_of q1
  obtain ⟨B1, B2, rfl, e2⟩ := part_of q2
  simp only [List.length_append] at *
  have sa' := srt_app.1 sa
  have sb' := srt_app.1 sb
  refine ⟨A1, A2, B1, B2, ⟨rfl, rfl, by clear b4 b5; omega, by clear b4 b5; simp only [List.length_append]; omega, sa'.2.2, fun x hx y hy => ?_, fun y hy x hx => ?_, sb'.2.2⟩⟩
  · clear b5
    rcases b4 with hs | ⟨u, v, hu, hv, huv⟩
    · exfalso
      have l1 := List.length_pos_of_mem hx
      have l2 := List.length_pos_of_mem hy
      unfold lo0 at hs
      clear b1 b3
      split at hs <;> omega
    · have l1 := List.length_pos_of_mem hx
      have l2 := List.length_pos_of_mem hy
      obtain ⟨r, u', rfl⟩ := snoc_of l1
      obtain ⟨v', t, rfl⟩ := cons_of l2
      simp only [List.length_append, List.length_cons, List.length_nil] at *
      have e3 : X ++ (r ++ [u'] ++ A2) ++ (B1 ++ v' :: t) ++ Z = (X ++ r) ++ u' :: (A2 ++ B1 ++ v' :: t ++ Z) := by simp
      have e4 : X ++ (r ++ [u'] ++ A2) ++ (B1 ++ v' :: t) ++ Z = (X ++ r ++ [u'] ++ A2 ++ B1) ++ v' :: (t ++ Z) := by simp
      rw [e3, at_mid _ _ _ (by simp; omega)] at hu
      rw [e4, at_mid _ _ _ (by simp; omega)] at hv
      injection hu with hu
      injection hv with hv
      subst hu hv
      have h1 := srt_le_last sa'.1 x hx
      have h2 := srt_ge_head sb'.2.1 y hy
      omega
  · clear b4
    rcases b5 with hs | ⟨u, v, hu, hv, huv⟩
    · exfalso
      have l1 := List.length_pos_of_mem hx
      have l2 := List.length_pos_of_mem hy
      unfold hi0 at hs
      clear b1 b3
      split at hs <;> omega
    · have l1 := List.length_pos_of_mem hx
      have l2 := List.length_pos_of_mem hy
      obtain ⟨r, v', rfl⟩ := snoc_of l2
      obtain ⟨u', t, rfl⟩ := cons_of l1
      simp only [List.length_append, List.length_cons, List.length_nil] at *
      have e3 : X ++ (A1 ++ u' :: t) ++ (r ++ [v'] ++ B2) ++ Z = (X ++ A1) ++ u' :: (t ++ (r ++ [v'] ++ B2) ++ Z) := by simp
      have e4 : X ++ (A1 ++ u' :: t) ++ (r ++ [v'] ++ B2) ++ Z = (X ++ (A1 ++ u' :: t) ++ r) ++ v' :: (B2 ++ Z) := by simp
      rw [e3, at_mid _ _ _ (by simp; omega)] at hu
      rw [e4, at_mid _ _ _ (by simp; omega)] at hv
      injection hu with hu
      injection hv with hv
      subst hu hv
      have h1 := srt_le_last sb'.1 y hy
      have h2 := srt_ge_head sa'.2.1 x hx
      omega
theorem Halves.rot {X A B Z A1 A2 B1 B2 : List α} {s e : Nat} (h : Halves key X A B Z s e A1 A2 B1 B2) (hno : A2 = [] ∨ B1 = []) : X ++ A ++ B ++ Z = X ++ A1 ++ B1 ++ A2 ++ B2 ++ Z := by
  obtain ⟨rfl, rfl, _, _, _, _, _, _⟩ := h
  rcases hno with rfl | rfl <;> simp
theorem Halves.done {X A B Z A1 A2 B1 B2 L R : List α} {s e : Nat} (h : Halves key X A B Z s e A1 A2 B1 B2) (hL : Srt key L) (hR : Srt key R) (eL : Eqv key (A1 ++ B1) L) (eR : Eqv key (A2 ++ B2) R) : Merged key X (A ++ B) Z (X ++ L ++ R ++ Z) := by
  obtain ⟨rfl, rfl, _, _, aa, ab, ba, bb⟩ := h
  refine ⟨L ++ R, by simp, ?_, ?_⟩
  · rw [srt_app]
    refine ⟨hL, hR, fun x hx y hy => ?_⟩
    have hx := eL.symm.mem hx
    have hy := eR.symm.mem hy
    rcases List.mem_append.1 hx with hx | hx <;> rcases List.mem_append.1 hy with hy | hy
    · exact aa x hx y hy
    · exact ab x hx y hy
    · have := ba x hx y hy; omega
    · exact bb x hx y hy
  · refine Eqv.trans ?_ (eL.app eR)
    have := (Eqv.refl (key := key) A1).app ((Eqv.swap (key := key) (X := A2) (Y := B1) (fun x hx y hy => ba y hy x hx)).app (Eqv.refl B2))
    simpa using this
/-! blocks -/
/-- sorted block by block -/
def Blk (key : α → Int) (n : Nat) (D : List α) : Prop := ∀ c, Srt key ((D.drop (c * n)).take n)
theorem blk_nil (n : Nat) : Blk key n ([] : List α) := fun c => by simp; exact srt_nil
theorem Blk.first {n : Nat} {A Q : List α} (h : Blk key n (A ++ Q)) (ha : A.length = n) : Srt key A := by
  have := h 0
  simpa [ha] using this
theorem Blk.all {n : Nat} {A : List α} (h : Blk key n A) (ha : A.length ≤ n) : Srt key A := by
  have := h 0
  rw [Nat.zero_mul, List.drop_zero, List.take_of_length_le ha] at this; exact this
theorem Blk.rest {n : Nat} {A Q : List α} (h : Blk key n (A ++ Q)) (ha : A.length = n) : Blk key n Q := fun c => by
  have := h (c + 1)
  rw [Nat.add_mul, Nat.one_mul, Nat.add_comm, ← List.drop_drop, List.drop_left' ha] at this
  exact this
theorem Blk.snoc {n c : Nat} {S M : List α} (h : Blk key n S) (hs : S.length = c * n) (hM : Srt key M) (hl : M.length ≤ n) : Blk key n (S ++ M) := fun d => by
  rcases Nat.lt_trichotomy d c with h1 | rfl | h1
  · have h2 : (d + 1) * n ≤ c * n := Nat.mul_le_mul_right _ h1
    rw [Nat.add_mul] at h2
    rw [List.drop_append_of_le_length (by omega), List.take_append_of_le_length (by rw [List.length_drop]; omega)]
    exact h d
  · rw [← hs, List.drop_left, List.take_of_length_le hl]; exact hM
  · have h2 : (c + 1) * n ≤ d * n := Nat.mul_le_mul_right _ h1
    rw [Nat.add_mul] at h2
    rw [List.drop_eq_nil_of_le (by rw [List.length_append]; omega)]
    simp; exact srt_nil
end
end Go.Proofs.Ytdehpiaokjihjaa
