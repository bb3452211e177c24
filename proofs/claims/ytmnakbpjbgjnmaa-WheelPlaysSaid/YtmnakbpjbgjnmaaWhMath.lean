/- A wheel as plain data: the place of a timer, set, stop, all, due. -/
import Derived.Test.YtmnakbpjbgjnmaaTmRow
import Derived.Test.YtmnakbpjbgjnmaaSrtSwap
namespace Go.Proofs.Ytmnakbpjbgjnmaa
set_option linter.unusedVariables false
set_option linter.unusedSimpArgs false

/-- is it the timer of that kind and id? -/
def isT (k i : Int) (x : Tm) : Bool := decide (x.k = k) && decide (x.i = i)
/-- its place; as many as there are: none -/
def findT (k i : Int) (L : List Tm) : Nat := L.findIdx (isT k i)
def hasT (k i : Int) (L : List Tm) : Bool := decide (findT k i L < L.length)
def stopL (k i : Int) (L : List Tm) : List Tm := L.eraseIdx (findT k i L)
def atT (k i : Int) (L : List Tm) : Int := match L[findT k i L]? with | some x => x.t | none => 0
def badT (k i : Int) : Bool := decide (k < 0) || decide (15 < k) || decide (i < 0) || decide (1023 < i)
def setE (k i : Int) (L : List Tm) : Int := if badT k i = true then 1 else if hasT k i L = false ∧ L.length = 256 then 4 else 0
def setL (k i t : Int) (L : List Tm) : List Tm := if setE k i L = 0 then stopL k i L ++ [⟨k, i, t⟩] else L
/-- x at its place in out, behind those of its time -/
def insT (out : List Tm) (x : Tm) : List Tm := out.takeWhile (fun y => decide (y.t ≤ x.t)) ++ x :: out.dropWhile (fun y => decide (y.t ≤ x.t))
def sortT (L : List Tm) : List Tm := L.foldl insT []
def dueL (now : Int) (L : List Tm) : List Tm := L.filter fun x => decide (x.t ≤ now)
def restL (now : Int) (L : List Tm) : List Tm := L.filter fun x => !decide (x.t ≤ now)
theorem mem_take_while {α : Type} {p : α → Bool} : ∀ {l : List α} {x : α}, x ∈ l.takeWhile p → p x = true
  | [], x, h => by simp at h
  | y :: r, x, h => by
    rw [List.takeWhile_cons] at h
    split at h
    · rcases List.mem_cons.1 h with rfl | h
      · assumption
      · exact mem_take_while h
    · simp at h
theorem srt_drop {x : Tm} : ∀ {l : List Tm}, Srt kt l → ∀ y ∈ l.dropWhile (fun y => decide (y.t ≤ x.t)), x.t < y.t
  | [], _, y, h => by simp at h
  | z :: r, hs, y, h => by
    have h2 := srt_cons.1 hs
    rw [List.dropWhile_cons] at h
    split at h
    · exact srt_drop h2.2 y h
    · rename_i h3
      simp only [decide_eq_true_eq] at h3
      rcases List.mem_cons.1 h with rfl | h
      · omega
      · have := h2.1 y h
        unfold kt at this; omega
theorem insT_srt {out : List Tm} (x : Tm) (h : Srt kt out) : Srt kt (insT out x) := by
  have e : out.takeWhile (fun y => decide (y.t ≤ x.t)) ++ out.dropWhile (fun y => decide (y.t ≤ x.t)) = out := List.takeWhile_append_dropWhile
  have h2 : Srt kt (out.takeWhile (fun y => decide (y.t ≤ x.t)) ++ out.dropWhile (fun y => decide (y.t ≤ x.t))) := by rw [e]; exact h
  have h3 := srt_app.1 h2
  unfold insT
  rw [srt_app]
  refine ⟨h3.1, srt_cons.2 ⟨fun y hy => Int.le_of_lt (srt_drop h y hy), h3.2.1⟩, fun u hu v hv => ?_⟩
  rcases List.mem_cons.1 hv with rfl | hv
  · have := mem_take_while hu
    simp only [decide_eq_true_eq] at this; exact this
  · exact h3.2.2 u hu v hv
theorem insT_eqv {out : List Tm} (x : Tm) (h : Srt kt out) : Eqv kt (out ++ [x]) (insT out x) := by
  have e : out.takeWhile (fun y => decide (y.t ≤ x.t)) ++ out.dropWhile (fun y => decide (y.t ≤ x.t)) = out := List.takeWhile_append_dropWhile
  have h1 : Eqv kt (out.dropWhile (fun y => decide (y.t ≤ x.t)) ++ [x]) ([x] ++ out.dropWhile (fun y => decide (y.t ≤ x.t))) := Eqv.swap fun y hy z hz => by
    simp only [List.mem_singleton] at hz
    subst hz
    exact srt_drop h y hy
  have h2 := (Eqv.refl (key := kt) (out.takeWhile (fun y => decide (y.t ≤ x.t)))).app h1
  rw [← List.append_assoc, e] at h2
  exact h2
theorem foldT : ∀ (L out : List Tm), Srt kt out → Srt kt (L.foldl insT out) ∧ Eqv kt (out ++ L) (L.foldl insT out)
  | [], out, h => ⟨h, by simpa using Eqv.refl out⟩
  | x :: r, out, h => by
    obtain ⟨h1, h2⟩ := foldT r (insT out x) (insT_srt x h)
    refine ⟨h1, Eqv.trans ?_ h2⟩
    have := (insT_eqv x h).app (Eqv.refl r)
    simpa using this
theorem sortT_srt (L : List Tm) : Srt kt (sortT L) := (foldT L [] srt_nil).1
theorem sortT_eqv (L : List Tm) : Eqv kt L (sortT L) := (foldT L [] srt_nil).2
theorem sortT_uniq {L M : List Tm} (hs : Srt kt M) (he : Eqv kt L M) : M = sortT L := srt_uniq hs (sortT_srt L) (he.symm.trans (sortT_eqv L))
theorem sortT_len (L : List Tm) : (sortT L).length = L.length := (sortT_eqv L).1.symm
theorem sortT_mem {L : List Tm} {x : Tm} : x ∈ sortT L ↔ x ∈ L := ⟨fun h => (sortT_eqv L).symm.mem h, fun h => (sortT_eqv L).mem h⟩
theorem sortT_take (L : List Tm) (j : Nat) (h : j < L.length) : sortT (L.take (j + 1)) = insT (sortT (L.take j)) L[j] := by
  unfold sortT
  rw [List.take_succ_eq_append_getElem h, List.foldl_append]; rfl
theorem due_all {now : Int} {L : List Tm} (h : ∀ x ∈ L, x.t ≤ now) : dueL now L = L := by
  unfold dueL; rw [List.filter_eq_self]; intro x hx; exact decide_eq_true (h x hx)
theorem due_take_yes {now : Int} {L : List Tm} {j : Nat} (h : j < L.length) (h1 : L[j].t ≤ now) : dueL now (L.take (j + 1)) = dueL now (L.take j) ++ [L[j]] := by
  unfold dueL; rw [List.take_succ_eq_append_getElem h, List.filter_append]; simp [h1]
theorem due_take_no {now : Int} {L : List Tm} {j : Nat} (h : j < L.length) (h1 : ¬ L[j].t ≤ now) : dueL now (L.take (j + 1)) = dueL now (L.take j) := by
  unfold dueL; rw [List.take_succ_eq_append_getElem h, List.filter_append]; simp [h1]
theorem due_len (now : Int) (L : List Tm) : (dueL now L).length ≤ L.length := List.length_filter_le _ _
/-! what a wheel holds: what may be, one of a kind and id -/
structure OkT (x : Tm) : Prop where
  t0 : 0 ≤ x.t
  t1 : x.t ≤ 18446744073709551615
  b : badT x.k x.i = false
def keyT (x : Tm) : Int × Int := (x.k, x.i)
structure OkW (L : List Tm) : Prop where
  len : L.length ≤ 256
  ok : ∀ x ∈ L, OkT x
  nd : (L.map keyT).Nodup
theorem isT_key {k i : Int} {x : Tm} : isT k i x = true ↔ keyT x = (k, i) := by unfold isT keyT; simp
theorem findT_lt {k i : Int} {L : List Tm} (h : findT k i L < L.length) : ∃ x, L[findT k i L]? = some x ∧ x.k = k ∧ x.i = i := by
  refine ⟨_, List.getElem?_eq_getElem h, ?_⟩
  have := isT_key.1 (List.findIdx_getElem (w := h) (p := isT k i))
  unfold keyT at this
  exact ⟨congrArg Prod.fst this, congrArg Prod.snd this⟩
theorem findT_le (k i : Int) (L : List Tm) : findT k i L ≤ L.length := List.findIdx_le_length
theorem hasT_iff {k i : Int} {L : List Tm} : hasT k i L = true ↔ (k, i) ∈ L.map keyT := by
  unfold hasT findT
  rw [decide_eq_true_eq, List.findIdx_lt_length]
  constructor
  · rintro ⟨x, hx, h⟩
    exact List.mem_map.2 ⟨x, hx, isT_key.1 h⟩
  · intro h
    obtain ⟨x, hx, h⟩ := List.mem_map.1 h
    exact ⟨x, hx, isT_key.2 h⟩
/-- each timer once: stopped is all but that one -/
theorem stopL_filter {k i : Int} : ∀ {L : List Tm}, (L.map keyT).Nodup → stopL k i L = L.filter fun x => !isT k i x
  | [], _ => rfl
  | x :: r, h => by
    rw [List.map_cons, List.nodup_cons] at h
    unfold stopL findT
    rw [List.findIdx_cons]
    cases hx : isT k i x with
    | true =>
      rw [List.filter_cons_of_neg (by simp [hx])]
      have : r.filter (fun x => !isT k i x) = r := by
        rw [List.filter_eq_self]
        intro y hy
        cases hq : isT k i y with
        | false => rfl
        | true => exact absurd (List.mem_map.2 ⟨y, hy, by rw [isT_key.1 hq, isT_key.1 hx]⟩) h.1
      rw [this]; rfl
    | false =>
      rw [List.filter_cons_of_pos (by simp [hx])]
      have := stopL_filter (k := k) (i := i) h.2
      unfold stopL findT at this
      simp only [cond_false, List.eraseIdx_cons_succ]
      rw [this]
theorem OkW.sub {L M : List Tm} (h : OkW L) (hs : M.Sublist L) : OkW M :=
  ⟨Nat.le_trans hs.length_le h.len, fun x hx => h.ok x (hs.subset hx), h.nd.sublist (hs.map keyT)⟩
theorem stopL_sub (k i : Int) (L : List Tm) : (stopL k i L).Sublist L := List.eraseIdx_sublist _ _
theorem OkW.stop {L : List Tm} (h : OkW L) (k i : Int) : OkW (stopL k i L) := h.sub (stopL_sub k i L)
theorem OkW.rest {L : List Tm} (h : OkW L) (now : Int) : OkW (restL now L) := h.sub List.filter_sublist
theorem stopL_none {k i : Int} {L : List Tm} (h : hasT k i L = false) : stopL k i L = L := by
  unfold stopL
  unfold hasT at h
  rw [decide_eq_false_iff_not] at h
  exact List.eraseIdx_of_length_le (by omega)
theorem stopL_len {k i : Int} {L : List Tm} (h : hasT k i L = true) : (stopL k i L).length = L.length - 1 := by
  unfold hasT at h
  rw [decide_eq_true_eq] at h
  unfold stopL
  rw [List.length_eraseIdx, if_pos h]
theorem stopL_key {k i : Int} {L : List Tm} (h : (L.map keyT).Nodup) : (k, i) ∉ (stopL k i L).map keyT := by
  rw [stopL_filter h]
  intro hm
  obtain ⟨x, hx, he⟩ := List.mem_map.1 hm
  have := (List.mem_filter.1 hx).2
  rw [isT_key.2 he] at this
  simp at this
theorem OkW.set {k i t : Int} {L : List Tm} (h : OkW L) (h0 : 0 ≤ t) (h1 : t ≤ 18446744073709551615) : OkW (setL k i t L) := by
  unfold setL
  split
  · rename_i he
    have hs := h.stop k i
    have hb : badT k i = false := by
      cases hb : badT k i with
      | false => rfl
      | true => unfold setE at he; rw [if_pos hb] at he; simp at he
    refine ⟨?_, fun x hx => ?_, ?_⟩
    · rw [List.length_append]
      cases hh : hasT k i L with
      | true => rw [stopL_len hh]; have := h.len; have : 0 < L.length := by (unfold hasT at hh; rw [decide_eq_true_eq] at hh; omega)
                simp; omega
      | false =>
        rw [stopL_none hh]
        unfold setE at he
        rw [if_neg (by simp [hb])] at he
        split at he
        · simp at he
        · rename_i h2
          have := h.len
          have : L.length ≠ 256 := fun e => h2 ⟨hh, e⟩
          simp; omega
    · rcases List.mem_append.1 hx with hx | hx
      · exact hs.ok x hx
      · simp at hx; subst hx; exact ⟨h0, h1, hb⟩
    · rw [List.map_append, List.nodup_append]
      refine ⟨hs.nd, by simp, fun a ha b hb' => ?_⟩
      simp [keyT] at hb'
      subst hb'
      intro e; subst e
      exact stopL_key h.nd ha
  · exact h
end Go.Proofs.Ytmnakbpjbgjnmaa
