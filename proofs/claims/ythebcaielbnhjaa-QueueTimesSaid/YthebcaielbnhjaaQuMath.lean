/- Plain mathematics: what is told on: items in their order, what is added, what is told. No program is read here. -/
import Derived.Test.YthebcaielbnhjaaViMath
namespace Go.Proofs.Ythebcaielbnhjaa
set_option linter.unusedVariables false
set_option linter.unusedSimpArgs false

structure Im where
  r : Rec
  left : Int
  deriving DecidableEq
instance : Inhabited Im := ⟨⟨zRec, 0⟩⟩
/-- x is told ahead of y -/
def LtI (x y : Im) : Prop := y.left < x.left ∨ (x.left = y.left ∧ x.r.id < y.r.id)
instance (x y : Im) : Decidable (LtI x y) := by unfold LtI; infer_instance
def ltB (x y : Im) : Bool := decide (LtI x y)
def cfI (x y : Im) : Int := if cmpI y.left x.left ≠ 0 then cmpI y.left x.left else cmpI x.r.id y.r.id
theorem cf_neg (x y : Im) : cfI x y < 0 ↔ LtI x y := by
  unfold cfI cmpI LtI
  by_cases h1 : y.left < x.left
  · simp [h1]
  · by_cases h2 : y.left = x.left
    · by_cases h3 : x.r.id < y.r.id
      · simp [h2, h3]
      · by_cases h4 : x.r.id = y.r.id
        · simp [h2, h4]
        · simp [h2, h3, h4]
    · simp [h1, h2]; omega
theorem cf_pos (x y : Im) : cfI x y > 0 ↔ LtI y x := by
  unfold cfI cmpI LtI
  by_cases h1 : y.left < x.left
  · simp [h1]; omega
  · by_cases h2 : y.left = x.left
    · by_cases h3 : x.r.id < y.r.id
      · simp [h2, h3]; omega
      · by_cases h4 : x.r.id = y.r.id
        · simp [h2, h4]
        · simp [h2, h3, h4]; omega
    · simp [h1, h2]; omega
theorem LtI.trans {x y z : Im} (h : LtI x y) (h2 : LtI y z) : LtI x z := by unfold LtI at *; omega
theorem LtI.irr {x : Im} (h : LtI x x) : False := by unfold LtI at h; omega
theorem LtI.asymm {x y : Im} (h : LtI x y) (h2 : LtI y x) : False := (h.trans h2).irr
theorem LtI.tri {x y : Im} (h : x.r.id ≠ y.r.id) : LtI x y ∨ LtI y x := by unfold LtI; omega
def Srt (L : List Im) : Prop := L.Pairwise LtI
theorem srt_perm : ∀ {A B : List Im}, Srt A → Srt B → A.Perm B → A = B
  | [], B, _, _, h => (List.nil_perm.1 h).symm
  | a :: A, [], _, _, h => by have := h.length_eq; simp at this
  | a :: A, b :: B, hA, hB, h => by
    obtain ⟨a1, a2⟩ := List.pairwise_cons.1 hA
    obtain ⟨b1, b2⟩ := List.pairwise_cons.1 hB
    have e : a = b := by
      have m1 : a ∈ b :: B := h.subset (by simp)
      have m2 : b ∈ a :: A := h.symm.subset (by simp)
      rcases List.mem_cons.1 m1 with e | m1
      · exact e
      · rcases List.mem_cons.1 m2 with e | m2
        · exact e.symm
        · exact ((a1 b m2).asymm (b1 a m1)).elim
    subst e
    rw [srt_perm a2 b2 h.cons_inv]
/-- where x is to stand -/
def atS (x : Im) (L : List Im) : Nat := L.findIdx fun y => !ltB y x
def putS (x : Im) (L : List Im) : List Im := L.take (atS x L) ++ x :: L.drop (atS x L)
theorem at_le (x : Im) (L : List Im) : atS x L ≤ L.length := List.findIdx_le_length
theorem put_nil (x : Im) : putS x [] = [x] := rfl
theorem put_yes {x y : Im} {L : List Im} (h : LtI y x) : putS x (y :: L) = y :: putS x L := by
  have e : atS x (y :: L) = atS x L + 1 := by unfold atS; rw [List.findIdx_cons]; simp [ltB, h]
  unfold putS; rw [e]; rfl
theorem put_no {x y : Im} {L : List Im} (h : ¬ LtI y x) : putS x (y :: L) = x :: y :: L := by
  have e : atS x (y :: L) = 0 := by unfold atS; rw [List.findIdx_cons]; simp [ltB, h]
  unfold putS; rw [e]; rfl
theorem put_perm (x : Im) (L : List Im) : (putS x L).Perm (x :: L) := by
  unfold putS
  refine List.perm_middle.trans ?_
  rw [List.take_append_drop]
theorem put_len (x : Im) (L : List Im) : (putS x L).length = L.length + 1 := by rw [(put_perm x L).length_eq]; rfl
theorem put_srt {x : Im} : ∀ {L : List Im}, Srt L → (∀ y ∈ L, y.r.id ≠ x.r.id) → Srt (putS x L)
  | [], _, _ => by rw [put_nil]; exact List.pairwise_singleton _ _
  | y :: L, h, hd => by
    obtain ⟨h1, h2⟩ := List.pairwise_cons.1 h
    by_cases c : LtI y x
    · rw [put_yes c]
      refine List.pairwise_cons.2 ⟨fun z hz => ?_, put_srt h2 (fun z hz => hd z (by simp [hz]))⟩
      rcases List.mem_cons.1 ((put_perm x L).subset hz) with rfl | hz
      · exact c
      · exact h1 z hz
    · rw [put_no c]
      have c2 : LtI x y := (LtI.tri (hd y (by simp))).resolve_left c
      refine List.pairwise_cons.2 ⟨fun z hz => ?_, h⟩
      rcases List.mem_cons.1 hz with rfl | hz
      · exact c2
      · exact c2.trans (h1 z hz)
/-- an item that may be told on -/
structure OkI (x : Im) : Prop where
  ok : x.r.Ok
  right : x.r.right = true
  l1 : 1 ≤ x.left
  l2 : x.left ≤ 100
def idsI (L : List Im) : List Int := L.map fun x => x.r.id
/-- all that is told on, in its order -/
structure OkS (room : Nat) (S : List Im) : Prop where
  srt : Srt S
  ids : (idsI S).Nodup
  ok : ∀ x ∈ S, OkI x
  len : S.length ≤ room
def badS (S : List Im) (r : Rec) : Bool := S.any fun y => decide (y.r.id = r.id) && !overR r y.r
def fitT (n : Int) : Bool := decide (1 ≤ n) && decide (n ≤ 100)
def errA (S : List Im) (r : Rec) (n : Int) : Int := if (r.right && fitT n) = true then (if badS S r = true then 6 else 0) else 1
def restS (S : List Im) (i : Int) : List Im := S.filter fun y => decide (y.r.id ≠ i)
def addS (room : Nat) (S : List Im) (r : Rec) (n : Int) : List Im := if errA S r n = 0 then (putS ⟨r, n⟩ (restS S r.id)).take room else S
def decI (x : Im) : Im := ⟨x.r, x.left - 1⟩
def foldS : List Im → List Im → List Im
  | [], S => S
  | x :: T, S => foldS T (if 1 < x.left then putS (decI x) S else S)
def cutS (S : List Im) (k : Int) : Nat := (max (min k S.length) 0).toNat
def someS (S : List Im) (k : Int) : List Im := foldS (S.take (cutS S k)) (S.drop (cutS S k))
def toldS (S : List Im) (k : Int) : List Rec := (S.take (cutS S k)).map Im.r
def downL (L : List Im) : List Im := (L.filter fun x => decide (1 < x.left)).map decI
theorem cut_le (S : List Im) (k : Int) : cutS S k ≤ S.length := by unfold cutS; omega
theorem fold_perm : ∀ (T S : List Im), (foldS T S).Perm (downL T ++ S)
  | [], S => List.Perm.refl _
  | x :: T, S => by
    unfold foldS
    refine (fold_perm T _).trans ?_
    by_cases c : 1 < x.left
    · rw [if_pos c]
      have e : downL (x :: T) = decI x :: downL T := by unfold downL; rw [List.filter_cons]; simp [c]
      rw [e]
      exact (List.Perm.append_left _ (put_perm _ _)).trans List.perm_middle
    · rw [if_neg c]
      have e : downL (x :: T) = downL T := by unfold downL; rw [List.filter_cons]; simp [c]
      rw [e]
theorem nodup_perm {α : Type} {A B : List α} (h : A.Perm B) (hB : B.Nodup) : A.Nodup := (h.nodup_iff).2 hB
theorem ids_perm {A B : List Im} (h : A.Perm B) : (idsI A).Perm (idsI B) := h.map _
theorem fold_srt : ∀ (T S : List Im), Srt S → (idsI (T ++ S)).Nodup → Srt (foldS T S)
  | [], S, h, _ => h
  | x :: T, S, h, hn => by
    unfold foldS
    unfold idsI at hn
    rw [List.cons_append, List.map_cons, List.nodup_cons] at hn
    obtain ⟨h1, h2⟩ := hn
    have hx : ∀ y ∈ S, y.r.id ≠ (decI x).r.id := fun y hy e => h1 (List.mem_map.2 ⟨y, by simp [hy], e⟩)
    by_cases c : 1 < x.left
    · rw [if_pos c]
      refine fold_srt T _ (put_srt h hx) ?_
      have hp : (T ++ putS (decI x) S).Perm (decI x :: (T ++ S)) := (List.Perm.append_left _ (put_perm _ _)).trans List.perm_middle
      refine nodup_perm (ids_perm hp) ?_
      unfold idsI
      rw [List.map_cons, List.nodup_cons]
      exact ⟨h1, h2⟩
    · rw [if_neg c]
      exact fold_srt T S h h2
theorem down_mem {L : List Im} {y : Im} (h : y ∈ downL L) : ∃ x ∈ L, 1 < x.left ∧ y = decI x := by
  unfold downL at h
  obtain ⟨x, hx, rfl⟩ := List.mem_map.1 h
  rw [List.mem_filter] at hx
  exact ⟨x, hx.1, by simpa using hx.2, rfl⟩
theorem down_ids (L : List Im) : (idsI (downL L)).Sublist (idsI L) := by
  have e : idsI (downL L) = idsI (L.filter fun x => decide (1 < x.left)) := by
    unfold idsI downL
    rw [List.map_map]; rfl
  rw [e]
  exact (List.filter_sublist).map _
theorem down_len (L : List Im) : (downL L).length ≤ L.length := by unfold downL; rw [List.length_map]; exact List.length_filter_le _ _
theorem some_perm (S : List Im) (k : Int) : (someS S k).Perm (downL (S.take (cutS S k)) ++ S.drop (cutS S k)) := fold_perm _ _
theorem some_ok {room : Nat} {S : List Im} (h : OkS room S) (k : Int) : OkS room (someS S k) := by
  have hp := some_perm S k
  have hsub : (idsI (downL (S.take (cutS S k)) ++ S.drop (cutS S k))).Sublist (idsI S) := by
    have e : idsI S = idsI (S.take (cutS S k)) ++ idsI (S.drop (cutS S k)) := by
      unfold idsI; rw [← List.map_append, List.take_append_drop]
    rw [e]
    unfold idsI
    rw [List.map_append]
    exact List.Sublist.append (down_ids _) (List.Sublist.refl _)
  refine ⟨fold_srt _ _ (h.srt.sublist (List.drop_sublist _ _)) ?_, nodup_perm (ids_perm hp) (h.ids.sublist hsub), fun x hx => ?_, ?_⟩
  · rw [List.take_append_drop]; exact h.ids
  · rcases List.mem_append.1 (hp.subset hx) with hx | hx
    · obtain ⟨y, hy, h1, rfl⟩ := down_mem hx
      have o := h.ok y (List.mem_of_mem_take hy)
      exact ⟨o.ok, o.right, by show 1 ≤ y.left - 1; omega, by show y.left - 1 ≤ 100; have := o.l2; omega⟩
    · exact h.ok x (List.mem_of_mem_drop hx)
  · rw [hp.length_eq, List.length_append]
    have := down_len (S.take (cutS S k))
    rw [List.length_take] at this
    rw [List.length_drop]
    have := cut_le S k
    have := h.len
    omega
theorem rest_ids {S : List Im} {i : Int} : ∀ y ∈ restS S i, y.r.id ≠ i := by
  intro y hy
  unfold restS at hy
  rw [List.mem_filter] at hy
  simpa using hy.2
theorem rest_sub (S : List Im) (i : Int) : (restS S i).Sublist S := List.filter_sublist
theorem fit_iff {n : Int} : fitT n = true ↔ 1 ≤ n ∧ n ≤ 100 := by unfold fitT; simp
theorem add_ok {room : Nat} {S : List Im} (h : OkS room S) {r : Rec} (hr : r.Ok) (n : Int) : OkS room (addS room S r n) := by
  unfold addS
  split
  · rename_i he
    have hc : r.right = true ∧ fitT n = true := by
      unfold errA at he
      by_cases c : (r.right && fitT n) = true
      · simpa using c
      · rw [if_neg c] at he; simp at he
    obtain ⟨h1, h2⟩ := hc
    rw [fit_iff] at h2
    have hp := put_perm ⟨r, n⟩ (restS S r.id)
    refine ⟨(put_srt (h.srt.sublist (rest_sub _ _)) rest_ids).sublist (List.take_sublist _ _), ?_, fun x hx => ?_, List.length_take_le _ _⟩
    · have : (idsI (putS ⟨r, n⟩ (restS S r.id))).Nodup := by
        refine nodup_perm (ids_perm hp) ?_
        unfold idsI
        rw [List.map_cons, List.nodup_cons]
        refine ⟨fun hm => ?_, h.ids.sublist ((rest_sub _ _).map _)⟩
        obtain ⟨y, hy, e⟩ := List.mem_map.1 hm
        exact rest_ids y hy e
      exact this.sublist ((List.take_sublist _ _).map _)
    · rcases List.mem_cons.1 (hp.subset (List.mem_of_mem_take hx)) with rfl | hx
      · exact ⟨hr, h1, h2.1, h2.2⟩
      · exact h.ok x ((rest_sub _ _).subset hx)
  · exact h

/-! the program's own ways: items in no order -/
theorem rest_perm {A B : List Im} (h : A.Perm B) (i : Int) : (restS A i).Perm (restS B i) := h.filter _
theorem rest_none {L : List Im} {i : Int} (h : ∀ y ∈ L, y.r.id ≠ i) : restS L i = L := by
  unfold restS; rw [List.filter_eq_self]; intro y hy; simpa using h y hy
theorem bad_iff {S : List Im} {r : Rec} : badS S r = true ↔ ∃ y ∈ S, y.r.id = r.id ∧ overR r y.r = false := by
  unfold badS; rw [List.any_eq_true]; simp
theorem bad_none {S : List Im} {r : Rec} (h : ∀ y ∈ S, y.r.id ≠ r.id) : badS S r = false := by
  cases c : badS S r with
  | false => rfl
  | true => obtain ⟨y, hy, e, _⟩ := bad_iff.1 c; exact (h y hy e).elim
theorem ids_inj {S : List Im} (h : (idsI S).Nodup) {x y : Im} (hx : x ∈ S) (hy : y ∈ S) (e : x.r.id = y.r.id) : x = y := by
  induction S with
  | nil => simp at hx
  | cons z S ih =>
    unfold idsI at h
    rw [List.map_cons, List.nodup_cons] at h
    obtain ⟨h1, h2⟩ := h
    rcases List.mem_cons.1 hx with ex | hx1
    · rcases List.mem_cons.1 hy with ey | hy1
      · rw [ex, ey]
      · exact (h1 (List.mem_map.2 ⟨y, hy1, by rw [← ex]; exact e.symm⟩)).elim
    · rcases List.mem_cons.1 hy with ey | hy1
      · exact (h1 (List.mem_map.2 ⟨x, hx1, by rw [← ey]; exact e⟩)).elim
      · exact ih h2 hx1 hy1
theorem bad_some {S : List Im} (h : (idsI S).Nodup) {r : Rec} {y : Im} (hy : y ∈ S) (e : y.r.id = r.id) : badS S r = !overR r y.r := by
  cases c : overR r y.r with
  | false => exact bad_iff.2 ⟨y, hy, e, c⟩
  | true =>
    cases c2 : badS S r with
    | false => rfl
    | true =>
      obtain ⟨z, hz, e2, h2⟩ := bad_iff.1 c2
      rw [ids_inj h hz hy (e2.trans e.symm), c] at h2
      cases h2
theorem perm_set {L : List Im} {i : Nat} (hi : i < L.length) (x : Im) : (L.set i x).Perm (x :: L.eraseIdx i) := by
  rw [List.set_eq_take_append_cons_drop, if_pos hi, List.eraseIdx_eq_take_drop_succ]
  exact List.perm_middle
theorem perm_at {L : List Im} {i : Nat} (hi : i < L.length) : L.Perm (L[i] :: L.eraseIdx i) := by
  have := perm_set hi L[i]
  rwa [List.set_getElem_self] at this
theorem rest_erase {L : List Im} (hn : (idsI L).Nodup) {i : Nat} (hi : i < L.length) : (restS L L[i].r.id).Perm (L.eraseIdx i) := by
  have hp := perm_at hi
  have h2 := (ids_perm hp).nodup_iff.1 hn
  unfold idsI at h2
  rw [List.map_cons, List.nodup_cons] at h2
  refine (rest_perm hp _).trans ?_
  have e : restS (L[i] :: L.eraseIdx i) L[i].r.id = restS (L.eraseIdx i) L[i].r.id := by unfold restS; rw [List.filter_cons]; simp
  rw [e, rest_none]
  intro y hy e
  exact h2.1 (List.mem_map.2 ⟨y, hy, e⟩)
/-- the one that would be told last -/
def IsLast (L : List Im) (j : Nat) : Prop := ∃ h : j < L.length, ∀ y ∈ L, ¬ LtI L[j] y
/-- room for one more -/
theorem lay_few {room : Nat} {L S : List Im} {x : Im} (hp : L.Perm S) (hl : S.length < room) : (L ++ [x]).Perm ((putS x S).take room) := by
  rw [List.take_of_length_le (by rw [put_len]; omega)]
  exact (List.perm_append_comm).trans ((List.Perm.cons _ hp).trans (put_perm x S).symm)
/-- none left -/
theorem lay_many {room : Nat} {L S : List Im} {x : Im} (hp : L.Perm S) (hl : S.length = room) (hs : Srt (putS x S)) {j : Nat} (hj : IsLast (L ++ [x]) j) : ((L ++ [x]).eraseIdx j).Perm ((putS x S).take room) := by
  have hq : (L ++ [x]).Perm (putS x S) := (List.perm_append_comm).trans ((List.Perm.cons _ hp).trans (put_perm x S).symm)
  obtain ⟨h, hmax⟩ := hj
  have hlen := put_len x S
  generalize putS x S = P at *
  have hroom : room < P.length := by omega
  have e : P = P.take room ++ [P[room]] := by
    have := List.take_append_drop room P
    rw [List.drop_eq_getElem_cons hroom, List.drop_of_length_le (by omega)] at this
    exact this.symm
  have hm1 : P[room] ∈ L ++ [x] := hq.symm.subset (List.getElem_mem hroom)
  have hm2 : (L ++ [x])[j] ∈ P := hq.subset (List.getElem_mem h)
  have eq : (L ++ [x])[j] = P[room] := by
    rw [e] at hm2
    rcases List.mem_append.1 hm2 with h1 | h1
    · have hs2 := hs
      unfold Srt at hs2
      rw [e, List.pairwise_append] at hs2
      exact (hmax _ hm1 (hs2.2.2 _ h1 _ (by simp))).elim
    · simpa using h1
  have h1 := perm_at h
  have h2 : P.Perm (P[room] :: P.take room) := by
    conv => lhs; rw [e]
    exact List.perm_append_comm
  rw [eq] at h1
  exact (h1.symm.trans (hq.trans h2)).cons_inv
/-- one of that ID is there, and goes -/
theorem set_over {room : Nat} {L S : List Im} {x : Im} (hp : L.Perm S) (hn : (idsI S).Nodup) (hl : S.length ≤ room) {i : Nat} (hi : i < L.length) (e : L[i].r.id = x.r.id) : (L.set i x).Perm ((putS x (restS S x.r.id)).take room) := by
  have hnL := nodup_perm (ids_perm hp) hn
  have h1 := rest_erase hnL hi
  rw [e] at h1
  have h2 : (putS x (restS S x.r.id)).Perm (L.set i x) := (put_perm _ _).trans ((List.Perm.cons _ ((rest_perm hp.symm _).trans h1)).trans (perm_set hi x).symm)
  have hlen := h2.length_eq
  rw [List.length_set, hp.length_eq] at hlen
  rw [List.take_of_length_le (by omega)]
  exact h2.symm
/-- what is told goes down, and what has none left goes -/
def lowL (S : List Im) (n : Nat) : List Im := (S.take n).map decI ++ S.drop n
def noneI0 (x : Im) : Bool := decide (x.left = 0)
theorem low_len (S : List Im) (n : Nat) : (lowL S n).length = S.length := by
  unfold lowL; rw [List.length_append, List.length_map, ← List.length_append, List.take_append_drop]
theorem low_zero (S : List Im) : lowL S 0 = S := by simp [lowL]
theorem low_at {S : List Im} {n k : Nat} {x : Im} (h : S[k]? = some x) (hk : n ≤ k) : (lowL S n)[k]? = some x := by
  have hkl : k < S.length := (List.getElem?_eq_some_iff.1 h).1
  unfold lowL
  rw [List.getElem?_append_right (by rw [List.length_map, List.length_take]; omega), List.length_map, List.length_take, List.getElem?_drop, Nat.min_eq_left (by omega)]
  rw [show n + (k - n) = k by omega]; exact h
theorem low_succ {S : List Im} {n : Nat} {x : Im} (h : S[n]? = some x) : lowL S (n + 1) = (lowL S n).set n (decI x) := by
  obtain ⟨hn, hx⟩ := List.getElem?_eq_some_iff.1 h
  unfold lowL
  rw [List.take_succ_eq_append_getElem hn, hx, List.map_append, List.drop_eq_getElem_cons hn]
  rw [List.set_append_right _ _ (by rw [List.length_map, List.length_take]; omega), List.length_map, List.length_take, Nat.min_eq_left (by omega), Nat.sub_self, List.set_cons_zero]
  simp only [List.map_cons, List.map_nil, List.append_assoc, List.cons_append, List.nil_append]
theorem low_keep {S : List Im} (h : ∀ x ∈ S, OkI x) (n : Nat) : (lowL S n).filter (fun x => !noneI0 x) = downL (S.take n) ++ S.drop n := by
  unfold lowL
  rw [List.filter_append]
  congr 1
  · unfold downL
    rw [List.filter_map]
    congr 1
    refine List.filter_congr fun x hx => ?_
    have := (h x (List.mem_of_mem_take hx)).l1
    show (!decide (x.left - 1 = 0)) = decide (1 < x.left)
    rw [Bool.eq_iff_iff]
    simp
    omega
  · rw [List.filter_eq_self]
    intro x hx
    have := (h x (List.mem_of_mem_drop hx)).l1
    unfold noneI0
    simp
    omega
theorem some_keep {room : Nat} {S : List Im} (h : OkS room S) (k : Int) : ((lowL S (cutS S k)).filter fun x => !noneI0 x).Perm (someS S k) := by
  rw [low_keep h.ok]; exact (some_perm S k).symm
end Go.Proofs.Ythebcaielbnhjaa
