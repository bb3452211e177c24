/- Mathematics of QueueTimes: how often each is to be told still, and was told. -/
import Derived.Test.YthebcaielbnhjaaQuFresh
namespace Go.Proofs.Ythebcaielbnhjaa
open Go.Sort Go.RowKit Go.BigFrame
set_option linter.unusedVariables false
set_option linter.unusedSimpArgs false

def ofId (S : List Im) (d : Int) : List Im := S.filter fun y => decide (y.r.id = d)
/-- how often the node d is to be told still -/
def leftS (S : List Im) (d : Int) : Int := sumI (ofId S d)
/-- how often the node d is in a list -/
def cntR (D : List Rec) (d : Int) : Int := ((D.filter fun r => decide (r.id = d)).length : Nat)
theorem left_nil (d : Int) : leftS [] d = 0 := rfl
theorem left_app (A B : List Im) (d : Int) : leftS (A ++ B) d = leftS A d + leftS B d := by unfold leftS ofId; rw [List.filter_append, sum_app]
theorem left_perm {A B : List Im} (h : A.Perm B) (d : Int) : leftS A d = leftS B d := sum_perm (h.filter _)
theorem left_cons (x : Im) (S : List Im) (d : Int) : leftS (x :: S) d = (if x.r.id = d then x.left else 0) + leftS S d := by
  unfold leftS ofId
  rw [List.filter_cons]
  by_cases h : x.r.id = d
  · simp [h, sumI]
  · simp [h]
theorem cnt_cons (r : Rec) (D : List Rec) (d : Int) : cntR (r :: D) d = (if r.id = d then 1 else 0) + cntR D d := by
  unfold cntR
  rw [List.filter_cons]
  by_cases h : r.id = d
  · simp [h]; omega
  · simp [h]
theorem cnt_app : ∀ (A B : List Rec) (d : Int), cntR (A ++ B) d = cntR A d + cntR B d
  | [], B, d => by simp [cntR]
  | r :: A, B, d => by rw [List.cons_append, cnt_cons, cnt_cons, cnt_app A B d]; omega
theorem left_down : ∀ {T : List Im}, (∀ x ∈ T, 1 ≤ x.left) → ∀ d, leftS (downL T) d = leftS T d - cntR (T.map Im.r) d
  | [], _, d => rfl
  | x :: T, h, d => by
    have h1 := h x (by simp)
    have h2 := left_down (T := T) (fun y hy => h y (by simp [hy])) d
    rw [left_cons, List.map_cons, cnt_cons]
    by_cases c : 1 < x.left
    · have e : downL (x :: T) = decI x :: downL T := by unfold downL; rw [List.filter_cons]; simp [c]
      rw [e, left_cons, h2]
      show (if x.r.id = d then x.left - 1 else 0) + _ = _
      by_cases hd : x.r.id = d
      · rw [if_pos hd, if_pos hd, if_pos hd]; omega
      · rw [if_neg hd, if_neg hd, if_neg hd]; omega
    · have e : downL (x :: T) = downL T := by unfold downL; rw [List.filter_cons]; simp [c]
      rw [e, h2]
      by_cases hd : x.r.id = d
      · rw [if_pos hd, if_pos hd]; omega
      · rw [if_neg hd, if_neg hd]; omega
theorem sum_down : ∀ {T : List Im}, (∀ x ∈ T, 1 ≤ x.left) → sumI (downL T) = sumI T - T.length
  | [], _ => rfl
  | x :: T, h => by
    have h1 := h x (by simp)
    have h2 := sum_down (T := T) (fun y hy => h y (by simp [hy]))
    show _ = x.left + sumI T - ((T.length + 1 : Nat) : Int)
    by_cases c : 1 < x.left
    · have e : downL (x :: T) = decI x :: downL T := by unfold downL; rw [List.filter_cons]; simp [c]
      rw [e]
      show (x.left - 1) + sumI (downL T) = _
      rw [h2]; omega
    · have e : downL (x :: T) = downL T := by unfold downL; rw [List.filter_cons]; simp [c]
      rw [e, h2]; omega
theorem some_left {room : Nat} {S : List Im} (h : OkS room S) (k d : Int) : leftS (someS S k) d = leftS S d - cntR (toldS S k) d := by
  have e : leftS S d = leftS (S.take (cutS S k)) d + leftS (S.drop (cutS S k)) d := by rw [← left_app, List.take_append_drop]
  rw [left_perm (some_perm S k), left_app, left_down (fun x hx => (h.ok x (List.mem_of_mem_take hx)).l1), e]
  unfold toldS
  omega
theorem some_sum {room : Nat} {S : List Im} (h : OkS room S) (k : Int) : sumI (someS S k) = sumI S - (cutS S k : Nat) := by
  have e : sumI S = sumI (S.take (cutS S k)) + sumI (S.drop (cutS S k)) := by rw [← sum_app, List.take_append_drop]
  rw [sum_perm (some_perm S k), sum_app, sum_down (fun x hx => (h.ok x (List.mem_of_mem_take hx)).l1), e, List.length_take, Nat.min_eq_left (cut_le S k)]
  omega
theorem sum_len {room : Nat} {S : List Im} (h : OkS room S) : (S.length : Int) ≤ sumI S := by
  have : ∀ (L : List Im), (∀ x ∈ L, 1 ≤ x.left) → (L.length : Int) ≤ sumI L := by
    intro L
    induction L with
    | nil => intro _; simp [sumI]
    | cons x L ih =>
      intro hL
      have h1 := hL x (by simp)
      have h2 := ih (fun y hy => hL y (by simp [hy]))
      show ((L.length + 1 : Nat) : Int) ≤ x.left + sumI L
      omega
  exact this S (fun x hx => (h.ok x hx).l1)
theorem some_ids {S : List Im} {k : Int} {y : Im} (hy : y ∈ someS S k) : ∃ x ∈ S, x.r.id = y.r.id := by
  rcases List.mem_append.1 ((some_perm S k).subset hy) with h | h
  · obtain ⟨x, hx, _, rfl⟩ := down_mem h
    exact ⟨x, List.mem_of_mem_take hx, rfl⟩
  · exact ⟨y, List.mem_of_mem_drop h, rfl⟩
theorem told_mem {S : List Im} {k : Int} {r : Rec} (h : r ∈ toldS S k) : ∃ x ∈ S, x.r = r := by
  unfold toldS at h
  obtain ⟨x, hx, e⟩ := List.mem_map.1 h
  exact ⟨x, List.mem_of_mem_take hx, e⟩
theorem told_nodup {room : Nat} {S : List Im} (h : OkS room S) (k : Int) : ((toldS S k).map Rec.id).Nodup := by
  have e : (toldS S k).map Rec.id = idsI (S.take (cutS S k)) := by unfold toldS idsI; rw [List.map_map]; rfl
  rw [e]
  exact h.ids.sublist ((List.take_sublist _ _).map _)
/-- as many nodes were added -/
structure AdS (Z : List Int) (i : Nat) (S : List Im) : Prop where
  ok : OkS 12 S
  len : S.length = i
  ids : ∀ x ∈ S, 1 ≤ x.r.id ∧ x.r.id ≤ i
  lefts : ∀ d, d < i → leftS S ((d : Int) + 1) = 1 + Z.getD d 0 % 9
  sum : sumI S ≤ 9 * i
theorem ad_nil (Z : List Int) : AdS Z 0 [] := ⟨ok_nil 12, rfl, by simp, fun d h => by omega, by simp [sumI]⟩
theorem ad_step {Z : List Int} {i : Nat} {S : List Im} (h : AdS Z i S) (hi : i < 12) {n : Int} (hn : n = 1 + Z.getD i 0 % 9) : errA S (nR i) n = 0 ∧ AdS Z (i + 1) (addS 12 S (nR i) n) := by
  have hn2 : 1 ≤ n ∧ n ≤ 9 := by omega
  have hid : ∀ y ∈ S, y.r.id ≠ (nR i).id := fun y hy e => by
    have := h.ids y hy; rw [e] at this; simp [nR] at this; omega
  obtain ⟨e0, e⟩ := add_room (room := 12) (S := S) (r := nR i) (n := n) (nR_right (by omega)) ⟨by omega, by omega⟩ hid (by rw [h.len]; omega)
  have hp := put_perm ⟨nR i, n⟩ S
  have hm : ∀ x ∈ putS ⟨nR i, n⟩ S, x = ⟨nR i, n⟩ ∨ x ∈ S := fun x hx => List.mem_cons.1 (hp.subset hx)
  refine ⟨e0, add_ok h.ok (nR_ok i) n, by rw [e, put_len, h.len], fun x hx => ?_, fun d hd => ?_, ?_⟩
  · rw [e] at hx
    rcases hm x hx with rfl | hx
    · simp [nR]; omega
    · have := h.ids x hx; omega
  · rw [e, left_perm hp, left_cons]
    show (if (i : Int) + 1 = (d : Int) + 1 then n else 0) + _ = _
    by_cases hdi : d = i
    · subst hdi
      have hz : leftS S ((d : Int) + 1) = 0 := by
        have : ofId S ((d : Int) + 1) = [] := by
          unfold ofId
          rw [List.filter_eq_nil_iff]
          intro y hy
          have := h.ids y hy
          simp; omega
        unfold leftS; rw [this]; rfl
      rw [if_pos rfl, hz, hn]; omega
    · rw [if_neg (by omega), h.lefts d (by omega)]; omega
  · rw [e, sum_perm hp]
    show n + sumI S ≤ _
    have := h.sum
    omega
/-! rows of thirteen -/
def tC (f : Nat → Int) : List Value := (List.range 13).map fun d => .int .i64 (f d)
def mC (f : Nat → Bool) : List Value := (List.range 13).map fun d => .bool (f d)
theorem row_set {α : Type} (c : α → Value) (f : Nat → α) (i : Nat) (v : α) : ((List.range 13).map fun d => c (f d)).set i (c v) = (List.range 13).map fun d => c (if d = i then v else f d) := by
  apply List.ext_getElem?
  intro j
  rw [List.getElem?_set, List.getElem?_map, List.getElem?_map]
  by_cases hj : i = j
  · subst hj
    rw [if_pos rfl]
    by_cases h2 : i < 13
    · rw [List.getElem?_range h2, if_pos (by simpa using h2)]; simp
    · rw [List.getElem?_eq_none (by simpa using h2), if_neg (by simpa using h2)]; rfl
  · rw [if_neg hj]
    by_cases h2 : j < 13
    · rw [List.getElem?_range h2]; show some (c (f j)) = some (c (if j = i then v else f j)); rw [if_neg (fun e => hj e.symm)]
    · rw [List.getElem?_eq_none (by simpa using h2)]; rfl
theorem tC_at (f : Nat → Int) {i : Nat} (h : i < 13) : (tC f)[i]? = some (.int .i64 (f i)) := by unfold tC; rw [List.getElem?_map, List.getElem?_range h]; rfl
theorem mC_at (f : Nat → Bool) {i : Nat} (h : i < 13) : (mC f)[i]? = some (.bool (f i)) := by unfold mC; rw [List.getElem?_map, List.getElem?_range h]; rfl
theorem tC_len (f : Nat → Int) : (tC f).length = 13 := by simp [tC]
theorem mC_len (f : Nat → Bool) : (mC f).length = 13 := by simp [mC]
/-- what was told, with the first j of D more; who is among them -/
def tvJ (tv : Nat → Int) (D : List Rec) (j : Nat) (d : Nat) : Int := tv d + cntR (D.take j) d
def mvJ (D : List Rec) (j : Nat) (d : Nat) : Bool := decide ((d : Int) ∈ (D.take j).map Rec.id)
theorem tv_zero (tv : Nat → Int) (D : List Rec) : tvJ tv D 0 = tv := by funext d; unfold tvJ; simp [cntR]
theorem tv_step {tv : Nat → Int} {D : List Rec} {j : Nat} {x : Rec} {p : Nat} (hx : D[j]? = some x) (hp : x.id = p) : (tC (tvJ tv D j)).set p (.int .i64 (tvJ tv D j p + 1)) = tC (tvJ tv D (j + 1)) := by
  obtain ⟨hj, rfl⟩ := List.getElem?_eq_some_iff.1 hx
  unfold tC
  rw [row_set (c := Value.int .i64) (f := tvJ tv D j)]
  refine List.map_congr_left fun d _ => ?_
  congr 1
  unfold tvJ
  rw [List.take_succ_eq_append_getElem hj, cnt_app, cnt_cons, hp]
  by_cases h : d = p
  · subst h; rw [if_pos rfl, if_pos rfl]; simp [cntR]; omega
  · rw [if_neg h, if_neg (by omega)]; simp [cntR]
theorem mv_step {D : List Rec} {j : Nat} {x : Rec} {p : Nat} (hx : D[j]? = some x) (hp : x.id = p) : (mC (mvJ D j)).set p (.bool true) = mC (mvJ D (j + 1)) := by
  obtain ⟨hj, rfl⟩ := List.getElem?_eq_some_iff.1 hx
  unfold mC
  rw [row_set (c := Value.bool) (f := mvJ D j)]
  refine List.map_congr_left fun d _ => ?_
  congr 1
  unfold mvJ
  rw [List.take_succ_eq_append_getElem hj, List.map_append]
  by_cases h : d = p
  · subst h; rw [if_pos rfl]; simp [hp]
  · rw [if_neg h, decide_eq_decide]
    simp only [List.mem_append, List.map_cons, List.map_nil, List.mem_singleton, hp]
    constructor
    · exact fun h1 => .inl h1
    · rintro (h1 | h1)
      · exact h1
      · omega
theorem mv_new {D : List Rec} (hn : (D.map Rec.id).Nodup) {j : Nat} {x : Rec} {p : Nat} (hx : D[j]? = some x) (hp : x.id = p) : mvJ D j p = false := by
  obtain ⟨hj, rfl⟩ := List.getElem?_eq_some_iff.1 hx
  unfold mvJ
  rw [decide_eq_false_iff_not]
  intro hm
  have e : D.map Rec.id = (D.take j).map Rec.id ++ (D.drop j).map Rec.id := by rw [← List.map_append, List.take_append_drop]
  rw [e, List.nodup_append] at hn
  refine hn.2.2 _ hm (p : Int) ?_ rfl
  rw [List.drop_eq_getElem_cons hj, List.map_cons, hp]; simp
theorem mv_zero (D : List Rec) : mC (mvJ D 0) = List.replicate 13 (.bool false) := by
  have : mvJ D 0 = fun _ => false := by funext d; unfold mvJ; simp
  rw [this]; rfl
theorem tC_zero : tC (fun _ => 0) = List.replicate 13 (.int .i64 0) := rfl
theorem info_int : (Try.prog.info? 3).map (fun i => (i.zero, i.size, i.bytes)) = some (some (.int .i64 0), 1, 8) := by kernel_rfl
theorem info_bool : (Try.prog.info? 4).map (fun i => (i.zero, i.size, i.bytes)) = some (some (.bool false), 1, 1) := by kernel_rfl
theorem cs_made (w : World) (z : Value) (n : Nat) (t : TypeId) : Cs w.heap.size (List.replicate n z) (w.alloc (.cells (madeCells #[z] n) t)) := by
  have h := World.rowIs_made w z n t
  refine ⟨fun i v hv => ?_, fun i v hv => World.frozen?_alloc_at _ _ _ _ rfl, by simp⟩
  have hi : i < n := by have := (List.getElem?_eq_some_iff.1 hv).1; simpa using this
  have e : v = z := by rw [List.getElem?_replicate, if_pos hi] at hv; exact (Option.some.inj hv).symm
  rw [e]; exact h.cell hi
theorem St.made {w0 w : World} {H : List Hl} (s : St w0 H w) (z : Value) (n : Nat) (T : TypeId) : St w0 (hC w.heap.size (List.replicate n z) :: H) (w.alloc (.cells (madeCells #[z] n) T)) :=
  s.more (h := hC w.heap.size (List.replicate n z)) ((Below.refl _ w).alloc (Nat.le_refl _) _) (cs_made w z n T) (fun b hb => by rw [show b = w.heap.size from hb]; exact Nat.le_refl _)
theorem St.setc {w0 w : World} {b : Nat} {vs : List Value} (H1 H2 : List Hl) (s : St w0 (H1 ++ hC b vs :: H2) w) (i : Nat) (v : Value) (hi : i < vs.length) : St w0 (H1 ++ hC b (vs.set i v) :: H2) (w.setCell ⟨b, i, none⟩ v) :=
  s.aft (h' := hC b (vs.set i v)) (Touch.set (F := fun k => k = b) (Touch.refl _ _) (fun _ => rfl) _) ((s.cs (by simp)).set i v hi) (fun k hk => .inl hk)
end Go.Proofs.Ythebcaielbnhjaa
