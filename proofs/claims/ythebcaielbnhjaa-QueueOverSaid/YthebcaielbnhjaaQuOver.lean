/- Mathematics of QueueOver: two records of one node, and others behind them. -/
import Derived.Test.YthebcaielbnhjaaQuThings
import Derived.Test.YthebcaielbnhjaaQuFresh
import Derived.Deep.DeepCutAuto
import Derived.ChangeOld
import Derived.ChangeMaps5
import Derived.ShutString
import Derived.OpenShut
import Derived.SizedLaws
namespace Go.Proofs.Ythebcaielbnhjaa
open Go.Sort Go.RowKit Go.BigFrame Go.ChangeShapes Go.WideShapes Go.ChangeAt
open Go.ChangeMaps (open_string shut_string)
set_option linter.unusedVariables false
set_option linter.unusedSimpArgs false

/-- a record of the node 1 -/
def oneR (a : Rec) : Rec := ⟨1, (ownR a).st, (ownR a).n, (ownR a).ip, (ownR a).port⟩
theorem oneR_ok (a : Rec) : (oneR a).Ok := ⟨(ownR_ok a).n, (ownR_ok a).ip, (ownR_ok a).port⟩
theorem oneR_right (a : Rec) : (oneR a).right = true := by
  have h := ownR_right a
  unfold Rec.right rightI at *
  simp only [Bool.and_eq_true, decide_eq_true_eq] at h ⊢
  exact ⟨⟨by show (1 : Int) ≤ 1; omega, by show (1 : Int) ≤ 32; omega⟩, h.2⟩
/-- ahead of the others: the first record, told once; the second one, where it is over -/
def ovS (k : Nat) (a b : Rec) : List Im := if overR b a = true then [⟨b, 4⟩] else [⟨a, 3⟩]
theorem ov_first (k : Nat) (hk : 1 ≤ k) (a : Rec) (ha : a.right = true) : errA [] a 4 = 0 ∧ addS k [] a 4 = [⟨a, 4⟩] := by
  obtain ⟨h1, h2⟩ := add_fresh (room := k) (S := []) (r := a) (n := 4) ha ⟨by decide, by decide⟩ (by simp)
  refine ⟨h1, ?_⟩
  rw [h2, put_nil, List.take_of_length_le (by simpa using hk)]
theorem ov_some (a : Rec) : someS [⟨a, 4⟩] 1 = [⟨a, 3⟩] ∧ toldS [⟨a, 4⟩] 1 = [a] := ⟨rfl, rfl⟩
theorem ov_second (k : Nat) (hk : 1 ≤ k) (a b : Rec) (hb : b.right = true) (hid : a.id = b.id) : errA [⟨a, 3⟩] b 4 = (if overR b a = true then 0 else 6) ∧ addS k [⟨a, 3⟩] b 4 = ovS k a b := by
  have hbad : badS [⟨a, 3⟩] b = !overR b a := bad_some (S := [⟨a, 3⟩]) (by simp [idsI]) (y := ⟨a, 3⟩) (by simp) hid
  have hf : (b.right && fitT 4) = true := by rw [hb]; rfl
  cases ho : overR b a with
  | true =>
    rw [ho] at hbad
    obtain ⟨h1, h2⟩ := err_ok hf hbad k
    refine ⟨h1, ?_⟩
    have hr : restS [⟨a, 3⟩] b.id = [] := by unfold restS; simp [hid]
    rw [h2, hr, put_nil, List.take_of_length_le (by simpa using hk)]
    unfold ovS
    rw [if_pos ho]
  | false =>
    rw [ho] at hbad
    obtain ⟨h1, h2⟩ := err_old hf hbad k
    refine ⟨h1, ?_⟩
    rw [h2]
    unfold ovS
    simp [ho]
/-- with i others: room for at most k, the first one's item there as long as there is room -/
structure OvS (k : Nat) (x : Im) (i : Nat) (S : List Im) : Prop where
  ok : OkS k S
  len : S.length = min (i + 1) k
  lo : ∀ y ∈ S, y = x ∨ (y.left = 9 ∧ 2 ≤ y.r.id ∧ y.r.id ≤ i + 1)
  last : i < k → S[i]? = some x
  nine : k ≤ i → ∀ y ∈ S, y.left = 9
theorem ov_start {k : Nat} (hk : 1 ≤ k) {x : Im} (hx : OkI x) : OvS k x 0 [x] :=
  ⟨⟨List.pairwise_singleton _ _, by simp [idsI], by simpa using hx, by simpa using hk⟩, by simp; omega, by simp, by simp, fun h => by omega⟩
theorem ov_step {k : Nat} {x : Im} (hx1 : x.r.id = 1) (hx4 : x.left ≤ 4) {i : Nat} {S : List Im} (h : OvS k x i S) (hi : i < 11) (hk : 1 ≤ k) : OvS k x (i + 1) (addS k S (nR (i + 1)) 9) := by
  have hid : ∀ y ∈ S, y.r.id ≠ (nR (i + 1)).id := fun y hy e => by
    rcases h.lo y hy with rfl | h1
    · rw [hx1] at e; simp [nR] at e; omega
    · rw [e] at h1; simp [nR] at h1; omega
  obtain ⟨-, e⟩ := add_fresh (room := k) (S := S) (r := nR (i + 1)) (n := 9) (nR_right (by omega)) ⟨by decide, by decide⟩ hid
  have hok := add_ok h.ok (nR_ok (i + 1)) 9
  have hp := put_perm ⟨nR (i + 1), 9⟩ S
  have hm : ∀ y ∈ putS ⟨nR (i + 1), 9⟩ S, y = ⟨nR (i + 1), 9⟩ ∨ y ∈ S := fun y hy => List.mem_cons.1 (hp.subset hy)
  have hs := put_srt (x := ⟨nR (i + 1), 9⟩) h.ok.srt hid
  have hpl := put_len ⟨nR (i + 1), 9⟩ S
  have hl := h.len
  rw [e] at hok ⊢
  -- with room the first one's item is the last of all
  have hlast : i < k → (putS ⟨nR (i + 1), 9⟩ S)[i + 1]? = some x := fun hik => by
    have hSi := h.last hik
    have hxm : x ∈ putS ⟨nR (i + 1), 9⟩ S := hp.symm.subset (List.mem_cons_of_mem _ (List.mem_of_getElem? hSi))
    obtain ⟨j, hj, hje⟩ := List.getElem_of_mem hxm
    have hlen2 : (putS ⟨nR (i + 1), 9⟩ S).length = i + 2 := by omega
    rcases Nat.lt_or_ge j (i + 1) with h1 | h1
    · have hlt := List.pairwise_iff_getElem.1 hs j (i + 1) hj (by omega) h1
      rw [hje] at hlt
      have hy := List.getElem_mem (l := putS ⟨nR (i + 1), 9⟩ S) (n := i + 1) (by omega)
      rcases hm _ hy with e2 | hy
      · rw [e2] at hlt; unfold LtI at hlt; simp only at hlt; omega
      · rcases h.lo _ hy with e2 | ⟨e2, _⟩
        · rw [e2] at hlt; exact (LtI.irr hlt).elim
        · unfold LtI at hlt; omega
    · obtain rfl : j = i + 1 := by omega
      rw [List.getElem?_eq_getElem hj, hje]
  refine ⟨hok, by rw [List.length_take]; omega, fun y hy => ?_, fun hik => ?_, fun hki y hy => ?_⟩
  · rcases hm y (List.mem_of_mem_take hy) with rfl | hy
    · exact .inr ⟨rfl, by simp [nR]; omega, by simp [nR]⟩
    · rcases h.lo y hy with h1 | h1
      · exact .inl h1
      · exact .inr ⟨h1.1, h1.2.1, by omega⟩
  · rw [List.getElem?_take, if_pos hik]
    exact hlast (by omega)
  · rcases Nat.lt_or_ge i k with hik | hik
    · -- just now there was no room any more
      obtain rfl : k = i + 1 := by omega
      have hx := hlast hik
      obtain ⟨j, hj, hje⟩ := List.getElem_of_mem hy
      rw [List.length_take] at hj
      rw [List.getElem_take] at hje
      obtain ⟨h1, hxe⟩ := List.getElem?_eq_some_iff.1 hx
      have hlt := List.pairwise_iff_getElem.1 hs j (i + 1) (by omega) h1 (by omega)
      rw [hje, hxe] at hlt
      rcases hm y (List.mem_of_mem_take hy) with rfl | hy
      · rfl
      · rcases h.lo y hy with rfl | h1
        · exact (LtI.irr hlt).elim
        · exact h1.1
    · rcases hm y (List.mem_of_mem_take hy) with rfl | hy
      · rfl
      · exact h.nine hik y hy
end Go.Proofs.Ythebcaielbnhjaa
