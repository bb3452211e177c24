/- The program's view: Events. -/
import Derived.Test.YtchhbhoikkdmeaaViList
namespace Go.Proofs.Ytchhbhoikkdmeaa
open Go.Sort Go.RowKit Go.BigFrame
set_option linter.unusedVariables false
set_option linter.unusedSimpArgs false

def EvJ (E : List Ev) (s : Nat) (w : World) (sv iv : Value) (wr : World) : Prop :=
  ∃ t : Nat, s ≤ t ∧ t ≤ E.length ∧ iv = .int .u64 (t : Nat) ∧ ERow ce 4 74 wr sv ((E.take t).drop s) ∧ Below w.heap.size w wr ∧ ∀ k, sv.ownBlock = some k → w.heap.size ≤ k
theorem ev_snoc {E : List Ev} {s t : Nat} {x : Ev} (hx : E[t]? = some x) (hs : s ≤ t) : (E.take (t + 1)).drop s = (E.take t).drop s ++ [x] := by
  have ht : t < E.length := (List.getElem?_eq_some_iff.1 hx).1
  rw [List.take_add_one, hx, List.drop_append_of_le_length (by rw [List.length_take]; omega)]; rfl
set_option maxHeartbeats 1600000 in
set_option maxRecDepth 100000 in
theorem events_any (g : Nat) (v : Vw) (w : World) (h : Vs g v w) (hl : v.E.length < 1000000) :
    Calls Try.prog 25 #[.pointer (some ⟨g, 0, none⟩)] w (NewPost ce 4 74 (lastE v.E) w) := by
  obtain ⟨i0, hi0, hz0, hz1, hz2⟩ := info_parts info_ev
  have x0 := h.seen
  have gl := h.lt
  obtain ⟨k, E⟩ := v
  have HV := Lib.hid h
  have HE := Lib.hid (h.ev)
  simp only at x0 hl HE
  obtain ⟨n, hn⟩ : ∃ n, E.length = n := ⟨_, rfl⟩
  rw [hn] at x0 hl HE
  have HN := Lib.hid hn
  obtain ⟨s, hs⟩ : ∃ s, s = n - 128 := ⟨_, rfl⟩
  have hlast : lastE E = (E.take n).drop s := by unfold lastE; rw [hn, ← hs, ← hn, List.take_length]
  rw [hlast]
  clear h hn hlast
  have hsn : s ≤ n := by omega
  have hn0 : (0 : Int) ≤ n := by omega
  have hn1 : (n : Int) < 1000000 := by omega
  have HS := Lib.hid hs
  have S0 : Hid (EvJ E s w (.slice none 0 0) (.int .u64 (s : Nat)) w) := ⟨s, Nat.le_refl _, by rw [HN.out]; exact hsn, rfl, by rw [List.drop_eq_nil_of_le (by rw [List.length_take]; omega)]; exact erow_nil, Below.refl _ _, fun k hk => by simp [Value.ownBlock] at hk⟩
  obtain ⟨m, hm⟩ : ∃ m, m = min n 128 := ⟨_, rfl⟩
  have hmin : (if (128 : Int) < (n : Int) then (128 : Int) else (n : Int)) = (m : Nat) := by split <;> omega
  have hsub : (n : Int) - (m : Nat) = (s : Nat) := by omega
  have hm0 : (0 : Int) ≤ m := by omega
  have hs0 : (0 : Int) ≤ s := by omega
  have hs1 : (s : Int) < 1000000 := by omega
  clear hm hs
  go_enter Try.func25, Try.ntmps25
  go_wp2_with fail
  go_loopw [4, 5] (fun sv iv wr => EvJ E s w sv iv wr) (fun _ i _ => n - (intOf i).toNat)
  case atStart => exact S0.out
  case round =>
    obtain ⟨t, hst, htn, rfl, hrow, hb, hov⟩ := hrel
    clear S0 hmin hsub x0 gl
    rw [HN.out] at htn
    have HOV := Lib.hid hov
    clear hov
    generalize u4 = sv at *
    have HROW := Lib.hid hrow
    have HB := Lib.hid hb
    have ht0 : (0 : Int) ≤ t := by omega
    have ht1 : (t : Int) < 1000001 := by omega
    have hlen : ((E.take t).drop s).length = t - s := by rw [List.length_drop, List.length_take, HN.out]; omega
    have HV1 := Lib.hid (HV.out.keep (Below.mono hb (Nat.le_refl _)))
    have x0 := HV1.out.seen
    have gl := HV1.out.lt
    simp only [HN.out] at x0
    clear hrow
    by_cases hlt : t < n
    · have hlt' : (t : Int) < n := by omega
      have htl : t < E.length := by rw [HN.out]; exact hlt
      have hx : E[t]? = some E[t] := List.getElem?_eq_getElem htl
      have EQ := Lib.hid (ev_snoc hx hst)
      obtain ⟨r, hr⟩ : ∃ r, t % 128 = r := ⟨_, rfl⟩
      have hq := HS.out
      have c0 := HV1.out.ev t _ hx (by show E.length ≤ _; rw [HN.out]; omega) 0 _ rfl
      have c1 := HV1.out.ev t _ hx (by show E.length ≤ _; rw [HN.out]; omega) 1 _ rfl
      have c2 := HV1.out.ev t _ hx (by show E.length ≤ _; rw [HN.out]; omega) 2 _ rfl
      have c3 := HV1.out.ev t _ hx (by show E.length ≤ _; rw [HN.out]; omega) 3 _ rfl
      rw [hr] at c0 c1 c2 c3
      simp only [Nat.add_zero] at c0
      have hr1 : r < 128 := by omega
      have hr2 : (r : Int) < 128 := by omega
      have hr0 : (0 : Int) ≤ r := by omega
      have hmod : (t : Int).tmod 128 = r := by rw [tmod_pos _ _ ht0]; omega
      have hmod2 : (t : Int) % 128 = r := by omega
      have HT := Lib.hid (show s ≤ t + 1 ∧ t + 1 ≤ E.length by omega)
      have hone := ce_enc.one E[t]
      have hls : t - s ≤ 1000000 := by omega
      clear hx hr hq hst
      generalize E[t] = y at *
      clear htl
      generalize (E.take t).drop s = L at *
      rw [hlen.symm] at hls
      clear hlen
      have HMS := Lib.hid hlt
      go_wp2_with (at_builtin; refine wpList_append_lies _ rfl (.tmp 25) (.tmp 33) 65 rfl 0 74 i0 _ 4 32 Try.underlying65 hi0 hz0 hz1 hz2 rfl (by omega) sv L.length (L.map ce).flatten rfl (erow_keep HROW.out ((Below.refl _ _).alloc (Nat.le_refl _) _)) ⟨_, 0, none⟩ 1 1 (ce y) rfl rfl (World.news_of_block (cs := (ce y).toArray) (t := 74) (fr := (0, 0)) (heap_alloc_new _ _)) hone (by omega) ?c2 ?c3 ?c4 _ rfl ?_)
      case c2 => unfold maxLen; omega
      case c3 => omega
      case c4 => exact Nat.zero_le _
      intro g1 cap1 w9 hown hgrow hat hlt9
      have fin : Hid (ERow ce 4 74 w9 (.slice (some ⟨g1, 0, none⟩) (L.length + 1) cap1) (L ++ [y])) := erow_snoc rfl hown
      have QB := HB.out.alloc HB.out.size (.cells (ce y).toArray 74)
      have bin := Lib.hid (QB.grown hgrow QB.size (fun k hk => HOV.out k hk))
      have hov : Hid (∀ k, (Value.slice (some ⟨g1, 0, none⟩) (L.length + 1) cap1).ownBlock = some k → w.heap.size ≤ k) := fun k hk => by
        obtain rfl : g1 = k := by injection hk
        rcases hat with h | h
        · exact HOV.out _ h
        · rw [h]; have := HB.out.size; simp; omega
      clear hown hgrow hat QB
      go_wp2
      go_roundw
      case rel => exact ⟨t + 1, HT.out.1, HT.out.2, by go_num, by rw [EQ.out]; exact fin.out, bin.out, hov.out⟩
      case measure => have := HMS.out; simp [intOf]; omega
    · obtain rfl : t = n := by omega
      obtain ⟨a, cap, hsv⟩ := erow_sl HROW.out
      subst hsv
      have F : Hid (NewE ce 4 74 ((E.take t).drop s) w ⟨a, ((E.take t).drop s).length, cap⟩ wr) := ⟨HROW.out, rfl, HOV.out⟩
      clear hlen HROW
      generalize (E.take t).drop s = L at *
      generalize L.length = n9 at *
      go_wp2
      go_ret
      exact ⟨⟨a, n9, cap⟩, rfl, F.out, HB.out⟩
end Go.Proofs.Ytchhbhoikkdmeaa
