/- slices.Delete of one item. -/
import Derived.Test.YtdpgmdkclaahdaaBgBagFind
namespace Go.Proofs.Ytdpgmdkclaahdaa.Bg
open Go.Sort Go.RowKit Go.BigFrame
set_option linter.unusedVariables false
set_option linter.unusedSimpArgs false

theorem info_item : (Try.prog.info? 75).map (fun i => (i.zero, i.size, i.bytes)) = some (some (.agg #[.int .u32 0, .int .u16 0, .int .u32 0, .int .u16 0, .string ⟨#[]⟩, .int .u64 0]), 6, 40) := by kernel_rfl
theorem zero_item : ∀ w, (zeroValue 75).run Try.prog w = .ok (.agg #[.int .u32 0, .int .u16 0, .int .u32 0, .int .u16 0, .string ⟨#[]⟩, .int .u64 0]) w := fun w => by kernel_rfl
def ownP (g : Nat) (k : Nat) : Prop := (Value.slice (some ⟨g, 0, none⟩) 0 0).ownBlock = some k
def DelIPost (g cap i : Nat) (L : List Pi) (w : World) (e : Ending) (w' : World) : Prop :=
  e = .returned (.slice (some ⟨g, 0, none⟩) (L.length - 1) cap) ∧ IRow 75 w' (.slice (some ⟨g, 0, none⟩) (L.length - 1) cap) (L.eraseIdx i) ∧ Touch (ownP g) w w'
theorem erase_take {C : List (List Value)} {L : List Pi} {i : Nat} (ht : C.take L.length = L.map ci) (hi : i < L.length) (hl : L.length ≤ C.length) :
    (splice C i ((L.drop (i + 1)).map ci)).take (L.length - 1) = (L.eraseIdx i).map ci := by
  have e1 : C.take i = (L.take i).map ci := by
    rw [List.map_take, ← ht, List.take_take, Nat.min_eq_left (by omega)]
  have e2 : (C.take i ++ (L.drop (i + 1)).map ci).length = L.length - 1 := by
    rw [List.length_append, List.length_take, List.length_map, List.length_drop]; omega
  rw [List.eraseIdx_eq_take_drop_succ, List.map_append, ← e1]
  unfold splice
  rw [← List.append_assoc, List.take_left' e2]
theorem length_erase {L : List Pi} {i : Nat} (hi : i < L.length) : (L.eraseIdx i).length = L.length - 1 := by rw [List.length_eraseIdx, if_pos hi]
set_option maxHeartbeats 3200000 in
theorem delI_any (g cap i : Nat) (L : List Pi) (hi : i < L.length) (hl : L.length ≤ 256) (w : World) (hr : IRow 75 w (.slice (some ⟨g, 0, none⟩) L.length cap) L) :
    Calls Try.prog 42 #[.slice (some ⟨g, 0, none⟩) L.length cap, .int .i64 (i : Nat), .int .i64 ((i : Int) + 1)] w (DelIPost g cap i L w) := by
  obtain ⟨-, C, hC, hcap, ht, hlc, hm⟩ := irow_open hr
  obtain ⟨i0, hi0, hz0, hz1, hz2⟩ := info_parts info_item
  have hd : ((L.drop (i + 1)).map ci).length = L.length - (i + 1) := by rw [List.length_map, List.length_drop]
  have hf : ((L.drop (i + 1)).map ci).flatten.length = (L.length - (i + 1)) * 6 := by rw [flatten_len _ (ci_all _), hd]
  have hC2 : Rw 6 g 75 C w.drew := ⟨hC.all, hC.heap⟩
  have hnews := hC2.sub (p := i + 1) (by decide) (ci_all (L.drop (i + 1))) (fun k c hc => by
    rw [List.getElem?_map, Option.map_eq_some_iff] at hc
    obtain ⟨x, hx, rfl⟩ := hc
    rw [List.getElem?_drop] at hx
    exact taken_at ht hx)
  obtain ⟨ad, hadq, hadn⟩ : ∃ ad : Addr, some ad = (if cap = i + 1 then some ⟨g, 0, none⟩ else some ⟨g, (i + 1) * 6, none⟩) ∧ (¬ cap = i + 1 → ad = ⟨g, (i + 1) * 6, none⟩) := by
    split
    · rename_i h0; exact ⟨_, rfl, fun h => absurd h0 h⟩
    · exact ⟨_, rfl, fun _ => rfl⟩
  have hnews2 : ∀ j u, ((L.drop (i + 1)).map ci).flatten[j]? = some u → w.drew.cell? (ad.add j) = some u := by
    intro j u hu
    by_cases hc : cap = i + 1
    · have : ((L.drop (i + 1)).map ci).flatten = [] := List.eq_nil_of_length_eq_zero (by rw [hf]; omega)
      rw [this] at hu; simp at hu
    · rw [hadn hc]; exact hnews j u hu
  have hspare : ∀ j, j < ((L.drop (i + 1)).map ci).flatten.length → (w.drew.cell? ⟨g, 0 + i * 6 + j, none⟩).isSome = true ∧ w.drew.frozen? ⟨g, 0 + i * 6 + j, none⟩ = false := by
    intro j hj
    refine ⟨?_, hC2.free _⟩
    rw [cell_of_row w.drew g _ _ _ (0, 0) hC2.heap, List.getElem?_toArray, List.getElem?_eq_getElem (by rw [flatten_len C hC.all, hcap]; omega)]; rfl
  have hR3 := hC2.store i ((L.drop (i + 1)).map ci) (ci_all _) (by rw [hd, hcap]; omega)
  have hT3 : Touch (ownP g) w (w.drew.setCells g (i * 6) ((L.drop (i + 1)).map ci).flatten) := Touch.sets (F := ownP g) ((Touch.refl _ w).drew) g (fun _ => rfl) _ _
  have hsp : (splice C i ((L.drop (i + 1)).map ci)).length = cap := by rw [length_splice _ _ _ (by rw [hd, hcap]; omega)]; exact hcap
  have hst := erase_take ht hi (by omega)
  obtain ⟨w9, hrun, ⟨D, hD, hDl⟩, hg⟩ := run_clear_z (P := Try.prog) (w.drew.setCells g (i * 6) ((L.drop (i + 1)).map ci).flatten) 83 75 _ 6 g (L.length - 1) 1 (cap - (L.length - 1)) _ Try.underlying83 zero_item rfl (by simp [Value.cells, Value.oneCell']) (by decide) hR3 (by rw [hsp]; omega)
  have fin : Hid (IRow 75 w9 (.slice (some ⟨g, 0, none⟩) (L.length - 1) cap) (L.eraseIdx i)) := by
    have e1 : (splice (splice C i ((L.drop (i + 1)).map ci)) (L.length - 1) D).length = cap := by rw [length_splice _ _ _ (by rw [hDl, hsp]; omega)]; exact hsp
    have e2 : (splice (splice C i ((L.drop (i + 1)).map ci)) (L.length - 1) D).take (L.length - 1) = (L.eraseIdx i).map ci := by
      conv => lhs; unfold splice
      rw [List.take_append_of_le_length (by rw [List.length_take]; show L.length - 1 ≤ min (L.length - 1) (splice C i ((L.drop (i + 1)).map ci)).length; omega), List.take_take, Nat.min_self]
      exact hst
    have hdl := length_erase hi
    have := irow_close (L := L.eraseIdx i) hD (by rw [hdl]; exact e2) (by rw [hdl, e1]; omega) (by rw [e1]; exact hm)
    rw [e1, hdl] at this
    exact this
  have HT : Hid (Touch (ownP g) w w9) := hT3.trans (Touch.of_grown hg (fun k h => h)) (fun _ _ h => h)
  have H0 := Lib.hid hnews2
  have H1 := Lib.hid hspare
  have hm2 : cap ≤ 9223372036854775807 := by unfold maxLen at hm; omega
  have hln : ¬ cap = L.length - 1 := by omega
  have HF := Lib.hid hf
  have HO := Lib.hid (cis_one (L.drop (i + 1)))
  generalize ((L.drop (i + 1)).map ci).flatten = news at *
  have hsum : i + (L.length - (i + 1)) = L.length - 1 := by omega
  have hi1 : (i : Int) + 1 ≤ L.length := by omega
  have hi2 : (i : Int) < L.length := by omega
  have hi3 : (0 : Int) ≤ i := by omega
  have hl2 : (L.length : Int) ≤ 256 := by omega
  have hlc2 : (L.length : Int) ≤ cap := by omega
  have hn0 : (0 : Int) ≤ (i : Int) + 1 := by omega
  have hn1 : i ≤ cap := by omega
  have hn2 : i + 1 ≤ L.length := hi
  have hn3 : L.length - 1 ≤ L.length := by omega
  have hn4 : L.length ≤ cap := hlc
  have hn5 : L.length - (L.length - 1) = 1 := by omega
  have hne : ((i : Int) == (i : Int) + 1) = false := by rw [beq_eq_false_iff_ne]; omega
  have HADQ := Lib.hid hadq
  clear hadn hr ht hC hC2 hcap hm hd hR3 hT3 hsp hst hD hDl hg hnews hnews2 hspare hz0 hz2 hf hadq
  go_enter Try.func42, Try.ntmps42
  go_wp2_with fail
  go_region_law (refine step_append_room rfl (.tmp 22) (.tmp 25) 83 rfl 75 i0 6 Try.underlying83 hi0 hz1 g 0 i cap (by simp [Act.eval, Act.put]) ad (L.length - (i + 1)) (cap - (i + 1)) news (by simp [Act.eval, Act.put]; exact HADQ.out.symm) HF.out H0.out HO.out (by omega) H1.out ?_)
  all_goals (try simp only [Nat.zero_add, hsum])
  all_goals generalize (if cap = i + 1 then some (⟨g, 0, none⟩ : Addr) else some ⟨g, (i + 1) * 6, none⟩) = ado at *
  all_goals go_wp2_with fail
  all_goals go_ret
  all_goals exact ⟨rfl, fin.out, HT.out⟩
end Go.Proofs.Ytdpgmdkclaahdaa.Bg