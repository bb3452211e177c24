/- Plain mathematics: what is known is the best of what was taken, in whatever order, and however often. -/
import Derived.Test.YtchhbhoikkdmeaaViRows
namespace Go.Proofs.Ytchhbhoikkdmeaa
set_option linter.unusedVariables false
set_option linter.unusedSimpArgs false

structure Best (L : List Rec) (v : Vw) : Prop where
  kn : ∀ i : Nat, knows v i = true ↔ ∃ r ∈ L, r.right = true ∧ r.id = i
  best : ∀ i : Nat, knows v i = true → v.k i ∈ L ∧ ∀ r ∈ L, r.right = true → r.id = i → ¬ ltR (v.k i) r
theorem best_start : Best [] newV := ⟨fun i => by rw [knows_new]; simp, fun i h => by rw [knows_new] at h; cases h⟩
theorem Best.of_mem {L L' : List Rec} {v : Vw} (h : Best L v) (hm : ∀ x, x ∈ L ↔ x ∈ L') : Best L' v :=
  ⟨fun i => by rw [h.kn]; simp only [hm], fun i hi => ⟨(hm _).1 (h.best i hi).1, fun r hr => (h.best i hi).2 r ((hm r).2 hr)⟩⟩
theorem over_lt {a b : Rec} : overR a b = true ↔ ltR b a := by unfold overR; rw [decide_eq_true_eq, ordR_gt]
theorem best_step {L : List Rec} {v : Vw} (h : Best L v) (hv : OkV v) {r : Rec} (hr : r.right = true) : Best (r :: L) (takeV v r) := by
  have hin := right_in hr
  have hrn : ((r.id.toNat : Nat) : Int) = r.id := by omega
  cases hk : knows v r.id with
  | false =>
    have ht := turns_new (v := v) hr hk
    rw [take_yes ht]
    have hkn : ∀ i : Nat, i ≠ r.id.toNat → (knows (⟨upd v.k r.id.toNat r, noteE v r⟩ : Vw) i = true ↔ knows v i = true) := fun i hi => by
      rw [knowsN_iff, knowsN_iff]
      show _ ∧ _ ∧ (upd v.k r.id.toNat r i).right = true ↔ _
      rw [upd_ne hi]
    have hkr : knows (⟨upd v.k r.id.toNat r, noteE v r⟩ : Vw) (r.id.toNat : Nat) = true := by
      rw [knowsN_iff]
      show _ ∧ _ ∧ (upd v.k r.id.toNat r r.id.toNat).right = true
      rw [upd_same]; exact ⟨by omega, by omega, hr⟩
    refine ⟨fun i => ?_, fun i hi => ?_⟩
    · by_cases he : i = r.id.toNat
      · subst he
        exact ⟨fun _ => ⟨r, by simp, hr, hrn.symm⟩, fun _ => hkr⟩
      · rw [hkn i he, h.kn]
        constructor
        · rintro ⟨x, hx, h1, h2⟩; exact ⟨x, by simp [hx], h1, h2⟩
        · rintro ⟨x, hx, h1, h2⟩
          rcases List.mem_cons.1 hx with rfl | hx
          · omega
          · exact ⟨x, hx, h1, h2⟩
    · by_cases he : i = r.id.toNat
      · subst he
        show upd v.k r.id.toNat r r.id.toNat ∈ _ ∧ ∀ x ∈ _, _ → _ → ¬ ltR (upd v.k r.id.toNat r r.id.toNat) x
        rw [upd_same]
        refine ⟨by simp, fun x hx h1 h2 => ?_⟩
        rcases List.mem_cons.1 hx with rfl | hx
        · exact ltR_irr
        · exfalso
          have : knows v (r.id.toNat : Nat) = true := (h.kn _).2 ⟨x, hx, h1, h2⟩
          rw [hrn, hk] at this; cases this
      · rw [hkn i he] at hi
        show upd v.k r.id.toNat r i ∈ _ ∧ ∀ x ∈ _, _ → _ → ¬ ltR (upd v.k r.id.toNat r i) x
        rw [upd_ne he]
        refine ⟨by simp [(h.best i hi).1], fun x hx h1 h2 => ?_⟩
        rcases List.mem_cons.1 hx with rfl | hx
        · omega
        · exact (h.best i hi).2 x hx h1 h2
  | true =>
    have hkk : knows v (r.id.toNat : Nat) = true := by rw [hrn]; exact hk
    have ho := h.best _ hkk
    have hid := hv.id _ hkk
    cases hq : turns v r with
    | false =>
      rw [take_no hq]
      have hq2 := hq
      rw [turns_old hr hk] at hq2
      have hnl : ¬ ltR (v.k r.id.toNat) r := fun hl => by rw [over_lt.2 hl] at hq2; cases hq2
      refine ⟨fun i => ?_, fun i hi => ⟨by simp [(h.best i hi).1], fun x hx h1 h2 => ?_⟩⟩
      · rw [h.kn]
        constructor
        · rintro ⟨x, hx, h1, h2⟩; exact ⟨x, by simp [hx], h1, h2⟩
        · rintro ⟨x, hx, h1, h2⟩
          rcases List.mem_cons.1 hx with rfl | hx
          · have : i = x.id.toNat := by omega
            subst this
            exact (h.kn _).1 hkk
          · exact ⟨x, hx, h1, h2⟩
      · rcases List.mem_cons.1 hx with rfl | hx
        · have : i = x.id.toNat := by omega
          subst this; exact hnl
        · exact (h.best i hi).2 x hx h1 h2
    | true =>
      have hq2 := hq
      rw [turns_old hr hk, over_lt] at hq2
      rw [take_yes hq]
      have hkn : ∀ i : Nat, knows (⟨upd v.k r.id.toNat r, noteE v r⟩ : Vw) i = true ↔ knows v i = true := fun i => by
        by_cases he : i = r.id.toNat
        · subst he
          rw [knowsN_iff, hkk]
          show _ ∧ _ ∧ (upd v.k r.id.toNat r r.id.toNat).right = true ↔ _
          rw [upd_same]
          exact ⟨fun _ => rfl, fun _ => ⟨by omega, by omega, hr⟩⟩
        · rw [knowsN_iff, knowsN_iff]
          show _ ∧ _ ∧ (upd v.k r.id.toNat r i).right = true ↔ _
          rw [upd_ne he]
      refine ⟨fun i => ?_, fun i hi => ?_⟩
      · rw [hkn, h.kn]
        constructor
        · rintro ⟨x, hx, h1, h2⟩; exact ⟨x, by simp [hx], h1, h2⟩
        · rintro ⟨x, hx, h1, h2⟩
          rcases List.mem_cons.1 hx with rfl | hx
          · have : i = x.id.toNat := by omega
            subst this
            exact (h.kn _).1 hkk
          · exact ⟨x, hx, h1, h2⟩
      · rw [hkn] at hi
        show upd v.k r.id.toNat r i ∈ _ ∧ ∀ x ∈ _, _ → _ → ¬ ltR (upd v.k r.id.toNat r i) x
        by_cases he : i = r.id.toNat
        · subst he
          rw [upd_same]
          refine ⟨by simp, fun x hx h1 h2 => ?_⟩
          rcases List.mem_cons.1 hx with rfl | hx
          · exact ltR_irr
          · exact fun hl => ho.2 x hx h1 h2 (ltR_trans hq2 hl)
        · rw [upd_ne he]
          refine ⟨by simp [(h.best i hi).1], fun x hx h1 h2 => ?_⟩
          rcases List.mem_cons.1 hx with rfl | hx
          · omega
          · exact (h.best i hi).2 x hx h1 h2
theorem best_fold : ∀ (O L : List Rec) (v : Vw), Best L v → OkV v → (∀ r ∈ O, r.Ok ∧ r.right = true) → Best (O ++ L) (foldV v O)
  | [], L, v, h, _, _ => h
  | r :: O, L, v, h, hv, hO => by
    have h1 := best_step h hv (hO r (by simp)).2
    have h2 := best_fold O (r :: L) (takeV v r) h1 (take_ok hv (hO r (by simp)).1) (fun x hx => hO x (by simp [hx]))
    exact h2.of_mem (fun x => by simp only [List.mem_append, List.mem_cons]; exact ⟨fun q => by rcases q with q | q | q <;> simp [q], fun q => by rcases q with (q | q) | q <;> simp [q]⟩)
theorem best_turned {L : List Rec} {v : Vw} (h : Best L v) : ∀ O : List Rec, (∀ r ∈ O, r ∈ L ∧ r.right = true) → turnedL v O = [] ∧ foldV v O = v
  | [], _ => ⟨rfl, rfl⟩
  | r :: O, hO => by
    obtain ⟨hm, hr⟩ := hO r (by simp)
    have hin := right_in hr
    have hrn : ((r.id.toNat : Nat) : Int) = r.id := by omega
    have hk : knows v (r.id.toNat : Nat) = true := (h.kn _).2 ⟨r, hm, hr, hrn.symm⟩
    have hk2 : knows v r.id = true := by rw [← hrn]; exact hk
    have ht : turns v r = false := by
      rw [turns_old hr hk2]
      cases hq : overR r (v.k r.id.toNat) with
      | false => rfl
      | true => exact ((h.best _ hk).2 r hm hr hrn.symm (over_lt.1 hq)).elim
    obtain ⟨i1, i2⟩ := best_turned h O (fun x hx => hO x (by simp [hx]))
    refine ⟨?_, ?_⟩
    · show (if turns v r = true then _ else turnedL (takeV v r) O) = []
      rw [if_neg (by simp [ht]), take_no ht]; exact i1
    · show foldV (takeV v r) O = v
      rw [take_no ht]; exact i2
theorem best_same {L : List Rec} {a b : Vw} (ha : Best L a) (hb : Best L b) (oa : OkV a) (ob : OkV b) : membersV a = membersV b := by
  have hk : ∀ i : Nat, knows a i = knows b i := fun i => by rw [Bool.eq_iff_iff, ha.kn, hb.kn]
  unfold membersV knownN
  rw [List.filter_congr (fun i _ => hk i)]
  refine List.map_congr_left fun i hi => ?_
  have hi := (List.mem_filter.1 hi).2
  have hia : knows a i = true := by rw [hk]; exact hi
  have r1 := (knowsN_iff.1 hia).2.2
  have r2 := (knowsN_iff.1 hi).2.2
  exact antiR ((ha.best i hia).2 _ (hb.best i hi).1 r2 (ob.id i hi)) ((hb.best i hi).2 _ (ha.best i hia).1 r1 (oa.id i hia)) (by rw [oa.id i hia, ob.id i hi])
theorem members_rise {v : Vw} (hv : OkV v) {i : Nat} {x y : Rec} (hx : (membersV v)[i]? = some x) (hy : (membersV v)[i + 1]? = some y) : x.id < y.id := by
  have hp : (membersV v).Pairwise (fun x y => x.id < y.id) := by
    unfold membersV
    rw [List.pairwise_map]
    have h1 : (knownN v).Pairwise (· < ·) := List.pairwise_lt_range.sublist List.filter_sublist
    refine h1.imp_of_mem fun {a b} ha hb hab => ?_
    have h2 := hv.id a (List.mem_filter.1 ha).2
    have h3 := hv.id b (List.mem_filter.1 hb).2
    omega
  obtain ⟨a, rfl⟩ := List.getElem?_eq_some_iff.1 hx
  obtain ⟨b, rfl⟩ := List.getElem?_eq_some_iff.1 hy
  exact (List.pairwise_iff_getElem.1 hp) i (i + 1) a b (by omega)
theorem knows_turnd {v : Vw} {r : Rec} (ht : turns v r = true) : knows (takeV v r) r.id = true ∧ ofV (takeV v r) r.id = r := by
  have hin := right_in (turns_right ht)
  have hk : knows (takeV v r) r.id = true := by
    rw [take_yes ht, knows_iff]
    refine ⟨hin.1, hin.2, ?_⟩
    show (upd v.k r.id.toNat r r.id.toNat).right = true
    rw [upd_same]; exact turns_right ht
  refine ⟨hk, ?_⟩
  rw [of_yes hk, take_yes ht]
  exact upd_same _ _ _
end Go.Proofs.Ytchhbhoikkdmeaa
