/- Items of new IDs: what is added, the sum of what is left; slices of numbers that came in. -/
import Derived.Test.YthebcaielbnhjaaQuEx
namespace Go.Proofs.Ythebcaielbnhjaa
open Go.Sort Go.RowKit Go.BigFrame
set_option linter.unusedVariables false
set_option linter.unusedSimpArgs false

theorem ArgRow.rd {k : IntKind} {w : World} {a : Option Addr} {len cap : Nat} {zs : List Int} (h : ArgRow k w a len cap zs) : Rd k w w.heap.size a (zs.take len) ∧ (zs.take len).length = len ∧ len ≤ cap ∧ cap ≤ 9223372036854775807 ∧ (a = none → len = 0 ∧ cap = 0) ∧ ∀ n ∈ zs.take len, (Lit.int k n).wf = true := by
  rcases h with ⟨rfl, rfl, rfl, rfl⟩ | ⟨x, rfl, hl, hm, hz, hc, hw⟩
  · exact ⟨Rd.nil _ _ _ _, rfl, by omega, by omega, fun _ => ⟨rfl, rfl⟩, by simp⟩
  · refine ⟨fun hp => ?_, by rw [List.length_take]; omega, hl, by unfold maxLen at hm; omega, (fun h => nomatch h), fun n hn => hw n (List.mem_of_mem_take hn)⟩
    rw [List.length_take] at hp
    obtain ⟨b, off, spot⟩ := x
    have h0 := hc 0 (by omega)
    have hs : spot = none := by simpa [Addr.add] using World.cell?_spot h0
    subst hs
    refine ⟨b, off, rfl, by simpa [Addr.add] using World.block_lt_of_cell? _ _ h0, fun i hi => ?_⟩
    rw [List.length_take] at hi
    have := hc i (by omega)
    rw [add_at] at this
    rw [this]
    simp [List.getD_eq_getElem?_getD, List.getElem?_take, show i < len by omega]
/-- a node's record -/
def nR (i : Nat) : Rec := ⟨(i : Int) + 1, 0, 0, 1, 1⟩
theorem nR_ok (i : Nat) : (nR i).Ok := ⟨by show (0 : Nat) < _; omega, by show (1 : Nat) < _; omega, by show (1 : Nat) < _; omega⟩
theorem nR_right {i : Nat} (h : i < 32) : (nR i).right = true := by
  unfold Rec.right rightI stI noneI nR
  simp only [Bool.and_eq_true, decide_eq_true_eq, Bool.not_eq_true', Bool.or_eq_false_iff, decide_eq_false_iff_not]
  omega
/-- a record of a new ID, with room -/
theorem add_fresh {room : Nat} {S : List Im} {r : Rec} {n : Int} (hr : r.right = true) (hn : 1 ≤ n ∧ n ≤ 100) (hid : ∀ y ∈ S, y.r.id ≠ r.id) : errA S r n = 0 ∧ addS room S r n = (putS ⟨r, n⟩ S).take room := by
  have h := err_ok (S := S) (r := r) (n := n) (by rw [hr, fit_iff.2 hn]; rfl) (bad_none hid) room
  rw [rest_none hid] at h
  exact h
theorem add_room {room : Nat} {S : List Im} {r : Rec} {n : Int} (hr : r.right = true) (hn : 1 ≤ n ∧ n ≤ 100) (hid : ∀ y ∈ S, y.r.id ≠ r.id) (hl : S.length < room) : errA S r n = 0 ∧ addS room S r n = putS ⟨r, n⟩ S := by
  obtain ⟨h1, h2⟩ := add_fresh (room := room) hr hn hid
  rw [List.take_of_length_le (by rw [put_len]; omega)] at h2
  exact ⟨h1, h2⟩
/-- what is left, in all -/
def sumI : List Im → Int
  | [] => 0
  | x :: L => x.left + sumI L
theorem sum_app : ∀ (A B : List Im), sumI (A ++ B) = sumI A + sumI B
  | [], B => by simp [sumI]
  | x :: A, B => by
    show x.left + sumI (A ++ B) = _
    rw [sum_app A B]; show _ = x.left + sumI A + sumI B; omega
theorem sum_perm {A B : List Im} (h : A.Perm B) : sumI A = sumI B := by
  induction h with
  | nil => rfl
  | cons x _ ih => show x.left + _ = x.left + _; rw [ih]
  | swap x y l => show y.left + (x.left + sumI l) = x.left + (y.left + sumI l); omega
  | trans _ _ ih1 ih2 => rw [ih1, ih2]
theorem down_all : ∀ {L : List Im}, (∀ x ∈ L, 2 ≤ x.left) → downL L = L.map decI
  | [], _ => rfl
  | x :: L, h => by
    have h1 := h x (by simp)
    have h2 := down_all (L := L) (fun y hy => h y (by simp [hy]))
    unfold downL at *
    rw [List.filter_cons, if_pos (by simpa using (show 1 < x.left by omega)), List.map_cons, List.map_cons, h2]
theorem sum_dec : ∀ (L : List Im), sumI (L.map decI) = sumI L - L.length
  | [] => rfl
  | x :: L => by
    show (x.left - 1) + sumI (L.map decI) = x.left + sumI L - ((L.length + 1 : Nat) : Int)
    rw [sum_dec L]; omega
theorem some_all {S : List Im} (h : ∀ x ∈ S, 2 ≤ x.left) (k : Int) : (someS S k).length = S.length ∧ sumI (someS S k) = sumI S - (cutS S k : Nat) := by
  have hp := some_perm S k
  rw [down_all (fun x hx => h x (List.mem_of_mem_take hx))] at hp
  have hc := cut_le S k
  constructor
  · rw [hp.length_eq, List.length_append, List.length_map, List.length_take, List.length_drop]; omega
  · rw [sum_perm hp, sum_app, sum_dec, List.length_take]
    have e : sumI S = sumI (S.take (cutS S k)) + sumI (S.drop (cutS S k)) := by rw [← sum_app, List.take_append_drop]
    rw [e, Nat.min_eq_left hc]; omega
theorem sum_succ {L : List Im} {i : Nat} {x : Im} (h : L[i]? = some x) : sumI (L.take (i + 1)) = sumI (L.take i) + x.left := by
  obtain ⟨hi, rfl⟩ := List.getElem?_eq_some_iff.1 h
  rw [List.take_succ_eq_append_getElem hi, sum_app]
  show _ + (_ + 0) = _
  omega
theorem sum_bound {c : Int} : ∀ {L : List Im}, (∀ x ∈ L, 0 ≤ x.left ∧ x.left ≤ c) → 0 ≤ sumI L ∧ sumI L ≤ L.length * c
  | [], _ => by simp [sumI]
  | x :: L, h => by
    have h1 := h x (by simp)
    have h2 := sum_bound (L := L) (c := c) (fun y hy => h y (by simp [hy]))
    show 0 ≤ x.left + sumI L ∧ x.left + sumI L ≤ ((L.length + 1 : Nat) : Int) * c
    rw [show ((L.length + 1 : Nat) : Int) = (L.length : Int) + 1 by omega, Int.add_mul]
    omega
theorem srt_at {S : List Im} (h : Srt S) {i : Nat} {x y : Im} (hx : S[i]? = some x) (hy : S[i + 1]? = some y) : LtI x y := by
  obtain ⟨h1, rfl⟩ := List.getElem?_eq_some_iff.1 hx
  obtain ⟨h2, rfl⟩ := List.getElem?_eq_some_iff.1 hy
  exact List.pairwise_iff_getElem.1 h i (i + 1) h1 h2 (by omega)
end Go.Proofs.Ythebcaielbnhjaa
