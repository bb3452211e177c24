/- Plain mathematics: the members as a list by ID: where one is, or is to be. -/
import Derived.Test.YtchhbhoikkdmeaaViBest
namespace Go.Proofs.Ytchhbhoikkdmeaa
set_option linter.unusedVariables false
set_option linter.unusedSimpArgs false

def SrtR (L : List Rec) : Prop := L.Pairwise fun x y => x.id < y.id
theorem srt_members {v : Vw} (hv : OkV v) : SrtR (membersV v) := by
  unfold SrtR membersV
  rw [List.pairwise_map]
  have h1 : (knownN v).Pairwise (· < ·) := List.pairwise_lt_range.sublist List.filter_sublist
  refine h1.imp_of_mem fun {a b} ha hb hab => ?_
  have h2 := hv.id a (List.mem_filter.1 ha).2
  have h3 := hv.id b (List.mem_filter.1 hb).2
  omega
theorem mem_members {v : Vw} {x : Rec} : x ∈ membersV v ↔ ∃ i : Nat, knows v i = true ∧ v.k i = x := by
  unfold membersV knownN
  rw [List.mem_map]
  constructor
  · rintro ⟨i, hi, rfl⟩; exact ⟨i, (List.mem_filter.1 hi).2, rfl⟩
  · rintro ⟨i, hi, rfl⟩
    have := knowsN_iff.1 hi
    exact ⟨i, List.mem_filter.2 ⟨List.mem_range.2 (by omega), hi⟩, rfl⟩
theorem srt_ext : ∀ {A B : List Rec}, SrtR A → SrtR B → (∀ x, x ∈ A ↔ x ∈ B) → A = B
  | [], [], _, _, _ => rfl
  | [], b :: B, _, _, h => by have := (h b).2 (by simp); simp at this
  | a :: A, [], _, _, h => by have := (h a).1 (by simp); simp at this
  | a :: A, b :: B, hA, hB, h => by
    obtain ⟨a1, a2⟩ := List.pairwise_cons.1 hA
    obtain ⟨b1, b2⟩ := List.pairwise_cons.1 hB
    have hab : a = b := by
      rcases List.mem_cons.1 ((h a).1 (by simp)) with e | e
      · exact e
      · rcases List.mem_cons.1 ((h b).2 (by simp)) with e2 | e2
        · exact e2.symm
        · have := a1 b e2; have := b1 a e; omega
    subst hab
    congr 1
    refine srt_ext a2 b2 fun x => ⟨fun hx => ?_, fun hx => ?_⟩
    · rcases List.mem_cons.1 ((h x).1 (by simp [hx])) with e | e
      · subst e; have := a1 x hx; omega
      · exact e
    · rcases List.mem_cons.1 ((h x).2 (by simp [hx])) with e | e
      · subst e; have := b1 x hx; omega
      · exact e
/-- where that ID is, or is to be -/
def posR (L : List Rec) (i : Int) : Nat := L.findIdx fun x => decide (i ≤ x.id)
theorem pos_le (L : List Rec) (i : Int) : posR L i ≤ L.length := List.findIdx_le_length
theorem pos_before {L : List Rec} {i : Int} {j : Nat} {x : Rec} (hx : L[j]? = some x) (hj : j < posR L i) : x.id < i := by
  have := List.not_of_lt_findIdx hj
  obtain ⟨h1, h2⟩ := List.getElem?_eq_some_iff.1 hx
  rw [h2] at this
  simp at this; omega
theorem pos_at {L : List Rec} {i : Int} {x : Rec} (hx : L[posR L i]? = some x) : i ≤ x.id := by
  obtain ⟨h1, h2⟩ := List.getElem?_eq_some_iff.1 hx
  have := List.findIdx_getElem (p := fun x : Rec => decide (i ≤ x.id)) (xs := L) (w := h1)
  have h3 : L[List.findIdx (fun x : Rec => decide (i ≤ x.id)) L] = x := h2
  rw [h3] at this
  simpa using this
theorem pos_here {L : List Rec} {i : Int} {j : Nat} {x : Rec} (hx : L[j]? = some x) (hj : j ≤ posR L i) (h : i ≤ x.id) : posR L i = j := by
  rcases Nat.lt_or_ge j (posR L i) with h1 | h1
  · have := pos_before hx h1; omega
  · omega
theorem pos_on {L : List Rec} {i : Int} {j : Nat} {x : Rec} (hx : L[j]? = some x) (hj : j ≤ posR L i) (h : x.id < i) : j + 1 ≤ posR L i := by
  rcases Nat.lt_or_ge j (posR L i) with h1 | h1
  · exact h1
  · have e : posR L i = j := by omega
    rw [← e] at hx
    have := pos_at hx; omega
/-- who is known stands at its place -/
theorem pos_knows {v : Vw} (hv : OkV v) {i : Int} (hk : knows v i = true) : (membersV v)[posR (membersV v) i]? = some (v.k i.toNat) ∧ (v.k i.toNat).id = i := by
  have hi := knows_iff.1 hk
  have hn : ((i.toNat : Nat) : Int) = i := by omega
  have hk2 : knows v (i.toNat : Nat) = true := by rw [hn]; exact hk
  have hid : (v.k i.toNat).id = i := by rw [hv.id _ hk2, hn]
  refine ⟨?_, hid⟩
  have hm : v.k i.toNat ∈ membersV v := mem_members.2 ⟨_, hk2, rfl⟩
  obtain ⟨j, hj⟩ := List.getElem?_of_mem hm
  have hs := srt_members hv
  have hle : j ≤ posR (membersV v) i := by
    rcases Nat.lt_or_ge (posR (membersV v) i) j with h1 | h1
    · exfalso
      have hjl := (List.getElem?_eq_some_iff.1 hj).1
      have hpl : posR (membersV v) i < (membersV v).length := by omega
      have h2 := pos_at (List.getElem?_eq_getElem hpl)
      have h3 := (List.pairwise_iff_getElem.1 hs) _ _ hpl hjl h1
      have h4 := (List.getElem?_eq_some_iff.1 hj).2
      rw [h4] at h3
      omega
    · exact h1
  rw [pos_here hj hle (by omega)]; exact hj
theorem pos_unknown {v : Vw} (hv : OkV v) {i : Int} (hk : knows v i = false) {x : Rec} (hx : x ∈ membersV v) : ¬ x.id = i := by
  obtain ⟨j, hj, rfl⟩ := mem_members.1 hx
  intro e
  rw [hv.id j hj] at e
  subst e
  rw [hj] at hk; cases hk
theorem set_members {v : Vw} (hv : OkV v) {r : Rec} (hr : r.Ok) (hk : knows v r.id = true) (ht : turns v r = true) : (membersV v).set (posR (membersV v) r.id) r = membersV (takeV v r) := by
  obtain ⟨hp, hid⟩ := pos_knows hv hk
  obtain ⟨hpl, hpx⟩ := List.getElem?_eq_some_iff.1 hp
  have hs := srt_members hv
  have hin := right_in (turns_right ht)
  have hn : ((r.id.toNat : Nat) : Int) = r.id := by omega
  have hpw := List.pairwise_iff_getElem.1 hs
  refine srt_ext ?_ (srt_members (take_ok hv hr)) fun x => ?_
  · unfold SrtR
    rw [List.pairwise_iff_getElem]
    intro a b ha hb hab
    rw [List.length_set] at ha hb
    have h1 := hpw a b ha hb hab
    simp only [List.getElem_set]
    split
    · rename_i e
      rw [if_neg (by omega)]
      have e2 : (membersV v)[a] = v.k r.id.toNat := by subst e; exact hpx
      rw [e2, hid] at h1; exact h1
    · split
      · rename_i e
        have e2 : (membersV v)[b] = v.k r.id.toNat := by subst e; exact hpx
        rw [e2, hid] at h1; exact h1
      · exact h1
  · rw [mem_members]
    constructor
    · intro hx
      obtain ⟨j, hj⟩ := List.getElem?_of_mem hx
      have hjl := (List.getElem?_eq_some_iff.1 hj).1
      rw [List.length_set] at hjl
      rw [List.getElem?_set] at hj
      by_cases he : posR (membersV v) r.id = j
      · rw [if_pos he, if_pos hpl] at hj
        have hj : r = x := Option.some.inj hj
        subst hj
        obtain ⟨h1, h2⟩ := knows_turnd ht
        refine ⟨r.id.toNat, by rw [hn]; exact h1, ?_⟩
        rw [take_yes ht]; exact upd_same _ _ _
      · rw [if_neg he] at hj
        obtain ⟨k, hkk, hkx⟩ := mem_members.1 (List.mem_of_getElem? hj)
        have hne : k ≠ r.id.toNat := fun e => by
          subst e
          apply he
          have h3 : x = v.k r.id.toNat := hkx.symm
          obtain ⟨hjl2, hjx⟩ := List.getElem?_eq_some_iff.1 hj
          rcases Nat.lt_trichotomy (posR (membersV v) r.id) j with h | h | h
          · have := hpw _ _ hpl hjl2 h; rw [hpx, hjx, h3] at this; omega
          · exact h
          · have := hpw _ _ hjl2 hpl h; rw [hpx, hjx, h3] at this; omega
        refine ⟨k, ?_, ?_⟩
        · rw [take_yes ht, knowsN_iff]
          show _ ∧ _ ∧ (upd v.k r.id.toNat r k).right = true
          rw [upd_ne hne]; exact knowsN_iff.1 hkk
        · rw [take_yes ht]; show upd v.k r.id.toNat r k = x; rw [upd_ne hne]; exact hkx
    · rintro ⟨k, hkk, hkx⟩
      rw [take_yes ht] at hkx hkk
      by_cases he : k = r.id.toNat
      · subst he
        have : r = x := by rw [← hkx]; exact (upd_same v.k r.id.toNat r).symm
        subst this
        exact List.mem_of_getElem? (i := posR (membersV v) r.id) (by rw [List.getElem?_set, if_pos rfl, if_pos hpl])
      · have hx2 : v.k k = x := by rw [← hkx]; exact (upd_ne he).symm
        have hk2 : knows v k = true := by
          rw [knowsN_iff] at hkk ⊢
          have : (upd v.k r.id.toNat r k).right = true := hkk.2.2
          rw [upd_ne he] at this
          exact ⟨hkk.1, hkk.2.1, this⟩
        have hxm : x ∈ membersV v := mem_members.2 ⟨k, hk2, hx2⟩
        obtain ⟨j, hj⟩ := List.getElem?_of_mem hxm
        refine List.mem_of_getElem? (i := j) ?_
        rw [List.getElem?_set, if_neg, hj]
        intro e
        rw [← e, hp] at hj
        have hj : v.k r.id.toNat = x := Option.some.inj hj
        have h4 := hv.id k hk2
        rw [hx2, ← hj, hid] at h4
        omega
theorem ins_members {v : Vw} (hv : OkV v) {r : Rec} (hr : r.Ok) (hR : r.right = true) (hk : knows v r.id = false) : (membersV v).take (posR (membersV v) r.id) ++ [r] ++ (membersV v).drop (posR (membersV v) r.id) = membersV (takeV v r) := by
  have ht := turns_new (v := v) hR hk
  have hs := srt_members hv
  have hin := right_in hR
  have hn : ((r.id.toNat : Nat) : Int) = r.id := by omega
  have hlo : ∀ x ∈ (membersV v).take (posR (membersV v) r.id), x.id < r.id := fun x hx => by
    obtain ⟨j, hj⟩ := List.getElem?_of_mem hx
    rw [List.getElem?_take] at hj
    split at hj
    · rename_i h; exact pos_before hj h
    · cases hj
  have hhi : ∀ x ∈ (membersV v).drop (posR (membersV v) r.id), r.id < x.id := fun x hx => by
    have hne := pos_unknown hv hk (List.mem_of_mem_drop hx)
    obtain ⟨j, hj⟩ := List.getElem?_of_mem hx
    rw [List.getElem?_drop] at hj
    obtain ⟨hjl, hjx⟩ := List.getElem?_eq_some_iff.1 hj
    have hpl : posR (membersV v) r.id < (membersV v).length := by omega
    have h2 := pos_at (List.getElem?_eq_getElem hpl)
    rcases Nat.eq_or_lt_of_le (Nat.le_add_right (posR (membersV v) r.id) j) with h | h
    · have : (membersV v)[posR (membersV v) r.id] = x := by rw [← hjx]; congr 1
      rw [this] at h2; omega
    · have h3 := (List.pairwise_iff_getElem.1 hs) _ _ hpl hjl h
      rw [hjx] at h3; omega
  refine srt_ext ?_ (srt_members (take_ok hv hr)) fun x => ?_
  · unfold SrtR
    rw [List.pairwise_append, List.pairwise_append]
    refine ⟨⟨hs.sublist (List.take_sublist _ _), by simp, fun a ha b hb => ?_⟩, hs.sublist (List.drop_sublist _ _), fun a ha b hb => ?_⟩
    · simp at hb; subst hb; exact hlo a ha
    · rcases List.mem_append.1 ha with h | h
      · have := hlo a h; have := hhi b hb; omega
      · simp at h; subst h; exact hhi b hb
  · rw [mem_members, take_yes ht]
    have hmem : x ∈ (membersV v).take (posR (membersV v) r.id) ++ [r] ++ (membersV v).drop (posR (membersV v) r.id) ↔ x = r ∨ x ∈ membersV v := by
      conv => rhs; rw [← List.take_append_drop (posR (membersV v) r.id) (membersV v)]
      simp only [List.mem_append, List.mem_singleton]
      exact ⟨fun q => by rcases q with (q | q) | q <;> simp [q], fun q => by rcases q with q | q | q <;> simp [q]⟩
    rw [hmem]
    constructor
    · rintro (rfl | hx)
      · refine ⟨x.id.toNat, ?_, upd_same _ _ _⟩
        obtain ⟨h1, _⟩ := knows_turnd ht
        rw [take_yes ht] at h1
        rw [hn]; exact h1
      · obtain ⟨k, hkk, hkx⟩ := mem_members.1 hx
        have hne : k ≠ r.id.toNat := fun e => by subst e; rw [hn, hk] at hkk; cases hkk
        refine ⟨k, ?_, ?_⟩
        · rw [knowsN_iff]
          show _ ∧ _ ∧ (upd v.k r.id.toNat r k).right = true
          rw [upd_ne hne]; exact knowsN_iff.1 hkk
        · show upd v.k r.id.toNat r k = x; rw [upd_ne hne]; exact hkx
    · rintro ⟨k, hkk, hkx⟩
      by_cases he : k = r.id.toNat
      · subst he
        left
        rw [← hkx]; exact upd_same _ _ _
      · right
        have hx2 : v.k k = x := by rw [← hkx]; exact (upd_ne he).symm
        refine mem_members.2 ⟨k, ?_, hx2⟩
        rw [knowsN_iff] at hkk ⊢
        have : (upd v.k r.id.toNat r k).right = true := hkk.2.2
        rw [upd_ne he] at this
        exact ⟨hkk.1, hkk.2.1, this⟩
end Go.Proofs.Ytchhbhoikkdmeaa
