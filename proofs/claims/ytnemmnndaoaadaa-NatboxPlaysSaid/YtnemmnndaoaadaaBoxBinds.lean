/- A box's Binds: a copy of the bindings. -/
import Derived.Test.YtnemmnndaoaadaaBoxRest
namespace Go.Proofs.Ytnemmnndaoaadaa
open Go.Sort Go.RowKit Go.BigFrame
set_option linter.unusedVariables false
set_option linter.unusedSimpArgs false

def CloneBPost (L : List Bd) (w : World) (e : Ending) (w' : World) : Prop := ∃ v' : Sl, e = .returned (.slice v'.a v'.n v'.c) ∧ BRow w' v'.v L ∧ (∀ k, v'.v.ownBlock = some k → w.heap.size ≤ k) ∧ Below w.heap.size w w'
def CloneAPost (l : List (Int × Int)) (w : World) (e : Ending) (w' : World) : Prop := ∃ v' : Sl, e = .returned (.slice v'.a v'.n v'.c) ∧ ARow w' v'.v l ∧ (∀ k, v'.v.ownBlock = some k → w.heap.size ≤ k) ∧ Below w.heap.size w w'
theorem own_empty (w : World) (t : TypeId) (z : Nat) : (w.alloc (.cells #[] t)).ownsRow w.heap.size t z (.slice (some ⟨w.heap.size, 0, none⟩) 0 0) 0 [] := by
  have := World.ownsRow_made (base := w.heap.size) (e := t) (size := z) w #[] 0 (Nat.le_refl _) (by decide) (by simp)
  exact this
theorem own_zero {w : World} {b : Nat} {t : TypeId} {z n : Nat} {v : Value} {xs : List Value} (h : w.ownsRow b t z v n xs) : w.ownsRow 0 t z v n xs := by
  refine ⟨h.1, ?_⟩
  rcases h.2 with h0 | ⟨g, cap, cur, h1, _, h2⟩
  · exact .inl h0
  · exact .inr ⟨g, cap, cur, h1, Nat.zero_le _, h2⟩
theorem sl_of {w : World} {b : Nat} {t : TypeId} {z n : Nat} {v : Value} {xs : List Value} (h : w.ownsRow b t z v n xs) : ∃ s : Sl, v = s.v := by
  rcases h.2 with ⟨rfl, _⟩ | ⟨g, c, _, rfl, _⟩
  · exact ⟨⟨none, 0, 0⟩, rfl⟩
  · exact ⟨⟨some ⟨g, 0, none⟩, n, c⟩, rfl⟩
set_option maxHeartbeats 1600000 in
set_option maxRecDepth 100000 in
theorem cloneB_any (a : Option Addr) (cap : Nat) (L : List Bd) (hl : L.length ≤ 64) (w : World) (hr : BRow w (.slice a L.length cap) L) :
    Calls Try.prog 40 #[.slice a L.length cap] w (CloneBPost L w) := by
  obtain ⟨i0, hi0, hz0, hz1, hz2⟩ := info_parts info_bind
  have hnil : ∀ (w : World) (a : Option Addr) (n c : Nat), (binOp .eql 55 (.slice a n c) (.slice none 0 0)).run Try.prog w = .ok (.bool a.isNone) w := fun w a n c => Lib.run_eql_slice_nil w 55 68 a n c 0 0 Try.underlying55
  rcases brow_form hr with ⟨h1, rfl⟩ | ⟨g, c', h1, hg⟩
  · simp only [Value.slice.injEq] at h1
    obtain ⟨rfl, -, rfl⟩ := h1
    clear hr
    go_enter Try.func40, Try.ntmps40
    go_wp2_with fail
    go_ret
    exact ⟨⟨none, 0, 0⟩, rfl, World.ownsRow_nil _ _ _ _, fun k hk => by simp [Sl.v, Value.ownBlock] at hk, Below.refl _ _⟩
  · simp only [Value.slice.injEq, true_and] at h1
    obtain ⟨rfl, rfl⟩ := h1
    obtain ⟨-, C, hC, hcap, ht, hlc, hm⟩ := brow_open hr
    have hC2 : Rw 7 g 68 C (w.alloc (.cells #[] 68)) := hC.touch ((Touch.refl (fun _ => False) w).alloc _) (fun h => h)
    have hsrc := hC2.sub (p := 0) (by decide) (ch_all L) (fun i c hc => by
      rw [List.getElem?_map, Option.map_eq_some_iff] at hc
      obtain ⟨x, hx, rfl⟩ := hc
      rw [Nat.zero_add]
      exact take_at ht hx)
    rw [Nat.zero_mul] at hsrc
    have H0 := Lib.hid hsrc
    have E0 := Lib.hid (own_empty w 68 7)
    have hfl : Hid ((L.map ch).flatten.length = L.length * 7) := by have := flatten_len _ (ch_all L); show (L.map ch).flatten.length = _; rw [this, List.length_map]
    have hO := Lib.hid (chs_one L)
    clear hr hC ht hcap hlc hm hC2 hsrc
    go_enter Try.func40, Try.ntmps40
    go_wp2_with (at_builtin; refine wpList_append_own _ rfl (.tmp 5) (.tmp 6) 55 rfl w.heap.size 68 i0 _ 7 56 Try.underlying55 hi0 hz0 hz1 hz2 rfl (by omega) (.slice (some ⟨w.heap.size, 0, none⟩) 0 0) 0 [] rfl E0.out ⟨g, 0, none⟩ L.length cap (L.map ch).flatten rfl hfl.out H0.out hO.out (by unfold maxLen; omega) (by omega) (by simp) ?_)
    intro v' w9 hown hgrow _
    obtain ⟨s, rfl⟩ := sl_of hown
    have fin : Hid (BRow w9 s.v L) := by
      have h := own_zero hown
      show World.ownsRow _ _ _ _ _ _ _
      simpa using h
    have hlo : Hid (∀ k, s.v.ownBlock = some k → w.heap.size ≤ k) := fun k hk => (World.ownsRow.lt hown k hk).1
    have hB : Hid (Below w.heap.size w w9) := by
      have h1 : Below w.heap.size w (w.alloc (.cells #[] 68)) := (Below.refl _ w).alloc (Nat.le_refl _) _
      exact h1.grown hgrow h1.size (fun k hk => by have e : w.heap.size = k := Option.some.inj hk; omega)
    clear hown hgrow E0 H0 hO
    go_wp2_with fail
    go_ret
    exact ⟨s, rfl, fin.out, hlo.out, hB.out⟩
set_option maxHeartbeats 1600000 in
set_option maxRecDepth 100000 in
theorem cloneA_any (a : Option Addr) (cap : Nat) (L : List (Int × Int)) (hl : L.length ≤ 64) (w : World) (hr : ARow w (.slice a L.length cap) L) :
    Calls Try.prog 41 #[.slice a L.length cap] w (CloneAPost L w) := by
  obtain ⟨i0, hi0, hz0, hz1, hz2⟩ := info_parts info_addr
  have hnil : ∀ (w : World) (a : Option Addr) (n c : Nat), (binOp .eql 66 (.slice a n c) (.slice none 0 0)).run Try.prog w = .ok (.bool a.isNone) w := fun w a n c => Lib.run_eql_slice_nil w 66 38 a n c 0 0 Try.underlying66
  rcases arow_form hr with ⟨h1, rfl⟩ | ⟨g, c', h1, hg⟩
  · simp only [Value.slice.injEq] at h1
    obtain ⟨rfl, -, rfl⟩ := h1
    clear hr
    go_enter Try.func41, Try.ntmps41
    go_wp2_with fail
    go_ret
    exact ⟨⟨none, 0, 0⟩, rfl, World.ownsRow_nil _ _ _ _, fun k hk => by simp [Sl.v, Value.ownBlock] at hk, Below.refl _ _⟩
  · simp only [Value.slice.injEq, true_and] at h1
    obtain ⟨rfl, rfl⟩ := h1
    obtain ⟨-, C, hC, hcap, ht, hlc, hm⟩ := arow_open hr
    have hC2 : Rw 2 g 38 C (w.alloc (.cells #[] 38)) := hC.touch ((Touch.refl (fun _ => False) w).alloc _) (fun h => h)
    have hsrc := hC2.sub (p := 0) (by decide) (pr_all L) (fun i c hc => by
      rw [List.getElem?_map, Option.map_eq_some_iff] at hc
      obtain ⟨x, hx, rfl⟩ := hc
      rw [Nat.zero_add]
      exact taken_at ht hx)
    rw [Nat.zero_mul] at hsrc
    have H0 := Lib.hid hsrc
    have E0 := Lib.hid (own_empty w 38 2)
    have hfl : Hid ((L.map pr).flatten.length = L.length * 2) := by have := flatten_len _ (pr_all L); show (L.map pr).flatten.length = _; rw [this, List.length_map]
    have hO := Lib.hid (prs_one L)
    clear hr hC ht hcap hlc hm hC2 hsrc
    go_enter Try.func41, Try.ntmps41
    go_wp2_with (at_builtin; refine wpList_append_own _ rfl (.tmp 5) (.tmp 6) 66 rfl w.heap.size 38 i0 _ 2 8 Try.underlying66 hi0 hz0 hz1 hz2 rfl (by omega) (.slice (some ⟨w.heap.size, 0, none⟩) 0 0) 0 [] rfl E0.out ⟨g, 0, none⟩ L.length cap (L.map pr).flatten rfl hfl.out H0.out hO.out (by unfold maxLen; omega) (by omega) (by simp) ?_)
    intro v' w9 hown hgrow _
    obtain ⟨s, rfl⟩ := sl_of hown
    have fin : Hid (ARow w9 s.v L) := by
      have h := own_zero hown
      show World.ownsRow _ _ _ _ _ _ _
      simpa using h
    have hlo : Hid (∀ k, s.v.ownBlock = some k → w.heap.size ≤ k) := fun k hk => (World.ownsRow.lt hown k hk).1
    have hB : Hid (Below w.heap.size w w9) := by
      have h1 : Below w.heap.size w (w.alloc (.cells #[] 38)) := (Below.refl _ w).alloc (Nat.le_refl _) _
      exact h1.grown hgrow h1.size (fun k hk => by have e : w.heap.size = k := Option.some.inj hk; omega)
    clear hown hgrow E0 H0 hO
    go_wp2_with fail
    go_ret
    exact ⟨s, rfl, fin.out, hlo.out, hB.out⟩
def BindsPost (L : List Bd) (w : World) (e : Ending) (w' : World) : Prop :=
  ∃ (v' : Sl) (M : List Bd), e = .returned (.slice v'.a v'.n v'.c) ∧ v'.n = L.length ∧ M.map (·.1) = L.map (·.1) ∧ RdB w' v'.a M ∧ (∀ x ∈ M, RdA w' w'.heap.size x.2.a x.1.met ∧ x.2.n = x.1.met.length) ∧ Below w.heap.size w w'
structure BiS (gt c : Nat) (L M : List Bd) (j : Nat) (w wr : World) : Prop where
  fst : M.map (·.1) = L.map (·.1)
  row : BRow wr (.slice (some ⟨gt, 0, none⟩) L.length c) M
  new : ∀ i (h : i < M.length), i < j → ARow wr M[i].2.v M[i].1.met ∧ ∀ k, M[i].2.v.ownBlock = some k → k ≠ gt
  old : ∀ i x, j ≤ i → L[i]? = some x → M[i]? = some x
  lo : w.heap.size ≤ gt
  bel : Below w.heap.size w wr
theorem BiS.len {gt c : Nat} {L M : List Bd} {j : Nat} {w wr : World} (h : BiS gt c L M j w wr) : M.length = L.length := by
  have := congrArg List.length h.fst; simpa using this
def ZeroJ (w : World) (i : Value) (wr : World) : Prop := i = .int .i64 0 ∧ wr = w
def BiJ (gt c : Nat) (L : List Bd) (w : World) (i : Value) (wr : World) : Prop := ∃ (j : Nat) (M : List Bd), j ≤ L.length ∧ i = .int .i64 (j : Nat) ∧ BiS gt c L M j w wr
theorem BiS.step {gt c : Nat} {L M : List Bd} {j : Nat} {w wr w2 : World} {v2 : Sl} (h : BiS gt c L M j w wr) (hj : j < L.length) (hM : j < M.length) (b2 : Below wr.heap.size wr w2) (hr : ARow w2 v2.v M[j].1.met) (hlo : ∀ k, v2.v.ownBlock = some k → wr.heap.size ≤ k) :
    BiS gt c L (M.set j (M[j].1, v2)) (j + 1) w (w2.setCell ⟨gt, j * 7 + 5, none⟩ (.slice v2.a v2.n v2.c)) := by
  have hml := h.len
  obtain ⟨-, C, hC, hcap, htk, hlc, hm⟩ := brow_open h.row
  have hC2 := hC.touch (Touch.of_below (fun _ => False) b2) (fun h => h)
  have hx : M[j]? = some M[j] := List.getElem?_eq_getElem hM
  have hCj := take_at htk hx
  have hR := hC2.field j 5 _ (.slice v2.a v2.n v2.c) hCj (by decide)
  have hchx : (ch M[j]).set 5 (.slice v2.a v2.n v2.c) = ch (M[j].1, v2) := rfl
  rw [hchx] at hR
  have t : Touch (fun k => k = gt) w2 (w2.setCell ⟨gt, j * 7 + 5, none⟩ (.slice v2.a v2.n v2.c)) := Touch.set (F := fun k => k = gt) (Touch.refl _ w2) (fun _ => rfl) _
  refine ⟨?_, ?_, fun i hi hij => ?_, fun i x hij hx => ?_, h.lo, ?_⟩
  · rw [← h.fst, List.map_set]
    apply List.ext_getElem?
    intro i
    rw [List.getElem?_set]
    by_cases e : j = i
    · subst e; simp [hM]
    · simp [e]
  · have e1 : (C.set j (ch (M[j].1, v2))).length = c := by rw [List.length_set]; exact hcap
    have e2 : (M.set j (M[j].1, v2)).length = L.length := by rw [List.length_set]; exact hml
    rw [hml] at htk hlc
    have := brow_close (L := M.set j (M[j].1, v2)) hR (by rw [e2, List.take_set, htk, List.map_set]) (by rw [e2, e1]; exact hlc) (by rw [e1]; exact hm)
    rw [e1, e2] at this
    exact this
  · rw [List.length_set] at hi
    by_cases e : j = i
    · subst e
      rw [List.getElem_set_self]
      refine ⟨own_touch hr t (fun k hk e => ?_), fun k hk e => ?_⟩
      · have := hlo k hk; have := hC.lt; omega
      · have := hlo k hk; have := hC.lt; omega
    · rw [List.getElem_set_ne e]
      obtain ⟨h1, h2⟩ := h.new i hi (by omega)
      exact ⟨own_touch (own_touch h1 (Touch.of_below (fun _ => False) b2) (fun _ _ h => h)) t (fun k hk e => h2 k hk e), h2⟩
  · rw [List.getElem?_set_ne (by omega)]; exact h.old i x (by omega) hx
  · exact (h.bel.trans (b2.mono h.bel.size)).setCell h.lo _
theorem BiS.done {gt c : Nat} {L M : List Bd} {w wr : World} (h : BiS gt c L M L.length w wr) : RdB wr (some ⟨gt, 0, none⟩) M ∧ ∀ x ∈ M, RdA wr wr.heap.size x.2.a x.1.met ∧ x.2.n = x.1.met.length := by
  refine ⟨brow_rd h.row, fun x hx => ?_⟩
  obtain ⟨i, hi, rfl⟩ := List.mem_iff_getElem.1 hx
  obtain ⟨h1, _⟩ := h.new i hi (by have := h.len; omega)
  refine ⟨arow_rd (n := M[i].2.n) (cap := M[i].2.c) h1, ?_⟩
  rcases arow_form h1 with ⟨h2, h3⟩ | ⟨_, _, h2, _⟩
  · simp [Sl.v] at h2; rw [h3, h2.2.1]; rfl
  · simp [Sl.v] at h2; exact h2.2.1
set_option maxHeartbeats 3200000 in
theorem binds_any (g : Nat) (S : Nat → Prop) (m f ip hold : Int) (room : Nat) (v : Sl) (L : List Bd) (w : World) (h : Bs g S m f ip hold room v L w) :
    Calls Try.prog 19 #[.pointer (some ⟨g, 0, none⟩)] w (BindsPost L w) := by
  have hlen := h.len
  have hr2 := h.ok.r2
  have hn := h.form.1
  obtain ⟨a, n, c⟩ := v
  simp only at hn
  subst hn
  have x5 := h.box.cell 5 _ rfl
  have gl := h.box.lt
  have CB := cloneB_any a c L (by omega) w h.row
  have HB := Lib.hid h
  have hl2 : (L.length : Int) ≤ 64 := by omega
  clear h
  go_enter Try.func19, Try.ntmps19
  go_wp2_with fail
  refine CB.mono ?_; rintro e w1 ⟨⟨a1, n1, c1⟩, rfl, hrow, hlo, hb⟩
  by_cases h0 : L.length = 0
  · obtain rfl : L = [] := List.eq_nil_of_length_eq_zero h0
    have hn1 : n1 = 0 := by
      rcases brow_form hrow with ⟨h1, _⟩ | ⟨_, _, h1, _⟩ <;> (simp [Sl.v] at h1; exact h1.2.1)
    subst hn1
    have FIN : Hid (RdB w1 a1 []) := brow_rd hrow
    have HBB := Lib.hid hb
    clear hrow hlo hb CB x5 gl
    go_wp2_with fail
    go_loopw [4, 12] (fun _ i wr => ZeroJ w1 i wr) (fun _ _ _ => 0)
    case atStart => exact ⟨rfl, rfl⟩
    case round =>
      obtain ⟨rfl, rfl⟩ := hrel
      go_wp2_with fail
      go_ret
      exact ⟨⟨a1, 0, c1⟩, [], rfl, rfl, rfl, FIN.out, fun x hx => by simp at hx, HBB.out⟩
  · obtain ⟨gt, rfl, hn1⟩ : ∃ gt, a1 = some ⟨gt, 0, none⟩ ∧ n1 = L.length := by
      rcases brow_form hrow with ⟨_, h2⟩ | ⟨gt, _, h1, _⟩
      · exact absurd (by rw [h2]; rfl) h0
      · simp [Sl.v] at h1; exact ⟨gt, h1.1, h1.2.1⟩
    subst hn1
    have S0 : Hid (BiS gt c1 L L 0 w w1) := ⟨rfl, hrow, fun i hi h => by omega, fun i x _ hx => hx, hlo gt rfl, hb⟩
    clear hrow hlo hb CB x5 gl h0
    go_wp2_with fail
    go_loopw [4, 12] (fun _ i wr => BiJ gt c1 L w i wr) (fun _ i _ => L.length - (intOf i).toNat)
    case atStart => exact ⟨0, L, Nat.zero_le _, rfl, S0.out⟩
    case round =>
      obtain ⟨j, M, hj, rfl, hS⟩ := hrel
      clear S0
      by_cases hlt : j < L.length
      · have hlt' : (j : Int) < L.length := by omega
        have hj0 : (0 : Int) ≤ j := by omega
        have hML := hS.len
        have hjM : j < M.length := by omega
        have hxL : L[j]? = some L[j] := List.getElem?_eq_getElem hlt
        have hxM := hS.old j _ (Nat.le_refl _) hxL
        have hMe : M[j] = L[j] := by
          have := List.getElem?_eq_getElem hjM
          rw [hxM] at this; exact (Option.some.inj this).symm
        have hmem : L[j] ∈ L := List.getElem_mem hlt
        have hmr : ARow wr L[j].2.v L[j].1.met := own_touch (HB.out.met L[j] hmem) (Touch.of_below (fun _ => False) hS.bel) (fun _ _ h => h)
        have hm16 := HB.out.ok.met L[j].1 (List.mem_map.2 ⟨L[j], hmem, rfl⟩)
        obtain ⟨-, C, hC, hcap, htk, hlc, hm⟩ := brow_open hS.row
        have hCj := take_at htk hxM
        have d5 := hC.cell j 5 _ _ hCj rfl
        have gtl := hC.lt
        have HROW := Lib.hid (fun (w' : World) (hb : Below wr.heap.size wr w') => (hC.touch (Touch.of_below (fun _ => False) hb) (fun h => h)))
        have HCJ := Lib.hid hCj
        have STEP := Lib.hid (fun (w2 : World) (v2 : Sl) b hr hlo => hS.step (w2 := w2) (v2 := v2) hlt hjM b hr hlo)
        rw [hMe] at STEP
        have HJ : Hid (j + 1 ≤ L.length) := hlt
        generalize L[j] = y at *
        obtain ⟨⟨u1, u2, u3, u4, u5, u6, u7⟩, ⟨z1, z2, z3⟩⟩ := y
        simp only at hmr hm16 d5 STEP
        have hz2 : z2 = u7.length := by
          rcases arow_form hmr with ⟨h1, h2⟩ | ⟨_, _, h1, _⟩
          · have h2' : u7 = [] := h2
            simp [Sl.v] at h1; rw [h2', h1.2.1]; rfl
          · simp [Sl.v] at h1; exact h1.2.1
        subst hz2
        have CA := cloneA_any z1 z3 u7 (by omega) wr hmr
        clear hC hcap htk hlc hm hCj hmr hm16 hxL hxM hMe hmem hS hML hjM
        go_wp2_with fail
        refine CA.mono ?_; rintro e w2 ⟨v2, rfl, hr2, hlo2, hb2⟩
        have R2 := HROW.out _ hb2
        have e5 := R2.cell j 5 _ _ HCJ.out rfl
        have ef := R2.free (j * 7 + 5)
        have el := R2.lt
        have FIN := Lib.hid (STEP.out w2 v2 hb2 hr2 hlo2)
        clear CA hr2 hlo2 hb2 R2 STEP HROW d5 gtl
        go_wp2_with fail
        go_roundw
        case rel => exact ⟨j + 1, _, HJ.out, by go_num, FIN.out⟩
        case measure => simp [intOf]; omega
      · obtain rfl : j = L.length := by omega
        have FIN := Lib.hid hS.done
        have HBB := Lib.hid hS.bel
        have HF := Lib.hid hS.fst
        clear hS
        go_wp2_with fail
        go_ret
        exact ⟨⟨some ⟨gt, 0, none⟩, L.length, c1⟩, M, rfl, rfl, HF.out, FIN.out.1, FIN.out.2, HBB.out⟩
end Go.Proofs.Ytnemmnndaoaadaa
