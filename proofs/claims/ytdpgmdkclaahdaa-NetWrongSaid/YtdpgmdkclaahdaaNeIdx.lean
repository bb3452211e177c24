/- slices.IndexFunc, slices.ContainsFunc over hosts, over boxes, whatever the closure. -/
import Derived.Test.YtdpgmdkclaahdaaNeRow
namespace Go.Proofs.Ytdpgmdkclaahdaa.Ne
open Go.Sort Go.RowKit Go.BigFrame
set_option linter.unusedVariables false
set_option linter.unusedSimpArgs false

abbrev Enters := Nb.Enters
abbrev cbx (b : Bb) : List Value := cpt b.g
theorem rd_bb {w : World} {a : Option Addr} {bb : List Bb} (h : RdE cpt 1 w a (bb.map Bb.g)) : RdE cbx 1 w a bb := fun hp => by
  obtain ⟨b, off, h1, h2, h3⟩ := h (by simpa using hp)
  exact ⟨b, off, h1, h2, fun i x hx k u hu => h3 i x.g (by rw [List.getElem?_map, hx]; rfl) k u hu⟩
theorem num_any {α : Type} (p : α → Bool) (L : List α) : L.any p = !decide (numP p L = 0) := by
  unfold numP
  cases h : L.findIdx? p with
  | none =>
    rw [List.findIdx?_eq_none_iff] at h
    simp only [decide_true, Bool.not_true]
    rw [List.any_eq_false]; intro x hx; rw [h x hx]; decide
  | some j =>
    obtain ⟨hj, h1, _⟩ := List.findIdx?_eq_some_iff_getElem.1 h
    have : L.any p = true := List.any_eq_true.2 ⟨L[j], List.getElem_mem hj, h1⟩
    rw [this]; simp
/-- what IndexFunc answers -/
def IdxVH (p : Ho → Bool) (L : List Ho) (v : Int) : Prop :=
  (v = -1 ∧ ∀ x ∈ L, p x = false) ∨ ∃ (j : Nat) (h : j < L.length), v = j ∧ p L[j] = true ∧ ∀ x ∈ L.take j, p x = false
def IdxPostH (p : Ho → Bool) (L : List Ho) (w : World) (e : Ending) (w' : World) : Prop := ∃ v : Int, e = .returned (.int .i64 v) ∧ IdxVH p L v ∧ Below w.heap.size w w'
def IdxJH (w : World) (p : Ho → Bool) (L : List Ho) (i : Value) (wr : World) : Prop := ∃ j : Nat, j ≤ L.length ∧ i = .int .i64 j ∧ (∀ x ∈ L.take j, p x = false) ∧ Below w.heap.size w wr
theorem takeno_pH {p : Ho → Bool} {L : List Ho} {j : Nat} (h : j < L.length) (h1 : ∀ x ∈ L.take j, p x = false) (h2 : p L[j] = false) : ∀ x ∈ L.take (j + 1), p x = false := by
  rw [List.take_succ_eq_append_getElem h]
  intro x hx
  rcases List.mem_append.1 hx with hx | hx
  · exact h1 x hx
  · obtain rfl := List.mem_singleton.1 hx; exact h2
set_option maxHeartbeats 1600000 in
theorem idxF_anyH (N : Nat) (hN : Enters N) (caps : Array Value) (p : Ho → Bool) (a : Option Addr) (cap : Nat) (L : List Ho) (hl : L.length ≤ 1000) (w : World) (hr : RdE cho 3 w a L)
    (hc : ∀ x, x ∈ L → ∀ w', Below w.heap.size w w' → Calls Try.prog N (#[.agg #[.int .u32 x.i, .int .u16 x.p, .int .i64 x.b]] ++ caps) w' fun e w'' => e = .returned (.bool (p x)) ∧ Below w'.heap.size w' w'') :
    Calls Try.prog 54 #[.slice a L.length cap, .func (.func N) #[] caps] w (IdxPostH p L w) := by
  have hE : ∀ args w, (callFunc N args).run Try.prog w = .ok (.enter N args) w := hN
  go_enter Try.func54, Try.ntmps54
  go_wp2_with fail
  go_loopw [5, 8] (fun _ i wr => IdxJH w p L i wr) (fun _ i _ => L.length - (intOf i).toNat)
  case atStart => exact ⟨0, Nat.zero_le _, rfl, by simp, Below.refl _ _⟩
  case round =>
    obtain ⟨j, hj, rfl, ha, hb⟩ := hrel
    by_cases hlt : j < L.length
    · have hlt' : (j : Int) < L.length := by omega
      have hj0 : (0 : Int) ≤ j := by omega
      obtain ⟨b, off, rfl, hbl, hcc⟩ := (hr.keep hb) (by omega)
      have hx : L[j]? = some L[j] := List.getElem?_eq_getElem hlt
      have c0 := hcc j _ hx 0 _ rfl
      have c1 := hcc j _ hx 1 _ rfl
      have c2 := hcc j _ hx 2 _ rfl
      have N1 := hc L[j] (List.getElem_mem hlt) wr hb
      have HB := Lib.hid hb
      have Hno := Lib.hid (fun h => takeno_pH (p := p) hlt ha h)
      have Hy : Hid (p L[j] = true → IdxVH p L j) := fun h => Or.inr ⟨j, hlt, rfl, h, ha⟩
      generalize L[j] = r at *
      obtain ⟨i1, n1, p1⟩ := r
      simp only [Nat.add_zero] at c0 c1 c2 N1 Hno
      clear hcc ha hb hr hc hx
      generalize hq : p ⟨i1, n1, p1⟩ = q at *
      clear hq
      cases q
      · go_wp2_with fail
        refine N1.mono ?_; rintro e w1 ⟨rfl, b1⟩
        go_wp2
        go_roundw
        case rel => exact ⟨j + 1, by omega, by go_num, Hno.out trivial, HB.out.trans (b1.mono HB.out.size)⟩
        case measure => simp [intOf]; omega
      · go_wp2_with fail
        refine N1.mono ?_; rintro e w1 ⟨rfl, b1⟩
        go_wp2
        go_ret
        exact ⟨_, rfl, Hy.out trivial, HB.out.trans (b1.mono HB.out.size)⟩
    · obtain rfl : j = L.length := by omega
      rw [List.take_length] at ha
      have HA : Hid (IdxVH p L (-1)) := Or.inl ⟨rfl, ha⟩
      have HB := Lib.hid hb
      clear ha hb hr hc
      go_wp2
      go_ret
      exact ⟨_, rfl, HA.out, HB.out⟩
theorem idxV_numH {p : Ho → Bool} {L : List Ho} {v : Int} (h : IdxVH p L v) : v = (numP p L : Int) - 1 := by
  unfold numP
  rcases h with ⟨rfl, h⟩ | ⟨j, hj, rfl, h1, h2⟩
  · rw [List.findIdx?_eq_none_iff.2 h]; rfl
  · have e : L.findIdx? p = some j := by
      rw [List.findIdx?_eq_some_iff_getElem]
      refine ⟨hj, h1, fun i hi => ?_⟩
      have := h2 L[i] (by rw [List.mem_take_iff_getElem]; exact ⟨i, by omega, rfl⟩)
      simpa using this
    rw [e]; simp
theorem idxN_anyH (N : Nat) (hN : Nb.Enters N) (caps : Array Value) (p : Ho → Bool) (a : Option Addr) (cap : Nat) (L : List Ho) (hl : L.length ≤ 1000) (w : World) (hr : RdE cho 3 w a L)
    (hc : ∀ x, x ∈ L → ∀ w', Below w.heap.size w w' → Calls Try.prog N (#[.agg #[.int .u32 x.i, .int .u16 x.p, .int .i64 x.b]] ++ caps) w' fun e w'' => e = .returned (.bool (p x)) ∧ Below w'.heap.size w' w'') :
    Calls Try.prog 54 #[.slice a L.length cap, .func (.func N) #[] caps] w fun e w' => e = .returned (.int .i64 ((numP p L : Int) - 1)) ∧ Below w.heap.size w w' :=
  (idxF_anyH N hN caps p a cap L hl w hr hc).mono fun e w' ⟨v, h1, h2, h3⟩ => ⟨by rw [h1, idxV_numH h2], h3⟩
set_option maxHeartbeats 1600000 in
theorem has_anyH (N : Nat) (hN : Nb.Enters N) (caps : Array Value) (p : Ho → Bool) (a : Option Addr) (cap : Nat) (L : List Ho) (hl : L.length ≤ 1000) (w : World) (hr : RdE cho 3 w a L)
    (hc : ∀ x, x ∈ L → ∀ w', Below w.heap.size w w' → Calls Try.prog N (#[.agg #[.int .u32 x.i, .int .u16 x.p, .int .i64 x.b]] ++ caps) w' fun e w'' => e = .returned (.bool (p x)) ∧ Below w'.heap.size w' w'') :
    Calls Try.prog 37 #[.slice a L.length cap, .func (.func N) #[] caps] w fun e w' => e = .returned (.bool (L.any p)) ∧ Below w.heap.size w w' := by
  have C := idxN_anyH N hN caps p a cap L hl w hr hc
  have E := num_any p L
  clear hr hc hN
  generalize numP p L = q at *
  generalize L.any p = bb at *
  go_enter Try.func37, Try.ntmps37
  go_wp2_with fail
  refine C.mono ?_; rintro e w1 ⟨rfl, b1⟩
  go_wp2
  go_ret
  exact ⟨bool_ret (by rw [E, Bool.eq_iff_iff]; simp; omega), b1⟩
/-- what IndexFunc answers -/
def IdxVB (p : Bb → Bool) (L : List Bb) (v : Int) : Prop :=
  (v = -1 ∧ ∀ x ∈ L, p x = false) ∨ ∃ (j : Nat) (h : j < L.length), v = j ∧ p L[j] = true ∧ ∀ x ∈ L.take j, p x = false
def IdxPostB (p : Bb → Bool) (L : List Bb) (w : World) (e : Ending) (w' : World) : Prop := ∃ v : Int, e = .returned (.int .i64 v) ∧ IdxVB p L v ∧ Below w.heap.size w w'
def IdxJB (w : World) (p : Bb → Bool) (L : List Bb) (i : Value) (wr : World) : Prop := ∃ j : Nat, j ≤ L.length ∧ i = .int .i64 j ∧ (∀ x ∈ L.take j, p x = false) ∧ Below w.heap.size w wr
theorem takeno_pB {p : Bb → Bool} {L : List Bb} {j : Nat} (h : j < L.length) (h1 : ∀ x ∈ L.take j, p x = false) (h2 : p L[j] = false) : ∀ x ∈ L.take (j + 1), p x = false := by
  rw [List.take_succ_eq_append_getElem h]
  intro x hx
  rcases List.mem_append.1 hx with hx | hx
  · exact h1 x hx
  · obtain rfl := List.mem_singleton.1 hx; exact h2
set_option maxHeartbeats 1600000 in
theorem idxF_anyB (N : Nat) (hN : Enters N) (caps : Array Value) (p : Bb → Bool) (a : Option Addr) (cap : Nat) (L : List Bb) (hl : L.length ≤ 1000) (w : World) (hr : RdE cbx 1 w a L)
    (hc : ∀ x, x ∈ L → ∀ w', Below w.heap.size w w' → Calls Try.prog N (#[.pointer (some ⟨x.g, 0, none⟩)] ++ caps) w' fun e w'' => e = .returned (.bool (p x)) ∧ Below w'.heap.size w' w'') :
    Calls Try.prog 64 #[.slice a L.length cap, .func (.func N) #[] caps] w (IdxPostB p L w) := by
  have hE : ∀ args w, (callFunc N args).run Try.prog w = .ok (.enter N args) w := hN
  go_enter Try.func64, Try.ntmps64
  go_wp2_with fail
  go_loopw [5, 8] (fun _ i wr => IdxJB w p L i wr) (fun _ i _ => L.length - (intOf i).toNat)
  case atStart => exact ⟨0, Nat.zero_le _, rfl, by simp, Below.refl _ _⟩
  case round =>
    obtain ⟨j, hj, rfl, ha, hb⟩ := hrel
    by_cases hlt : j < L.length
    · have hlt' : (j : Int) < L.length := by omega
      have hj0 : (0 : Int) ≤ j := by omega
      obtain ⟨b, off, rfl, hbl, hcc⟩ := (hr.keep hb) (by omega)
      have hx : L[j]? = some L[j] := List.getElem?_eq_getElem hlt
      have c0 := hcc j _ hx 0 _ rfl
      have N1 := hc L[j] (List.getElem_mem hlt) wr hb
      have HB := Lib.hid hb
      have Hno := Lib.hid (fun h => takeno_pB (p := p) hlt ha h)
      have Hy : Hid (p L[j] = true → IdxVB p L j) := fun h => Or.inr ⟨j, hlt, rfl, h, ha⟩
      generalize L[j] = r at *
      obtain ⟨i1, n1, p1⟩ := r
      simp only [Nat.add_zero, Nat.mul_one] at c0 N1 Hno
      clear hcc ha hb hr hc hx
      generalize hq : p ⟨i1, n1, p1⟩ = q at *
      clear hq
      cases q
      · go_wp2_with fail
        refine N1.mono ?_; rintro e w1 ⟨rfl, b1⟩
        go_wp2
        go_roundw
        case rel => exact ⟨j + 1, by omega, by go_num, Hno.out trivial, HB.out.trans (b1.mono HB.out.size)⟩
        case measure => simp [intOf]; omega
      · go_wp2_with fail
        refine N1.mono ?_; rintro e w1 ⟨rfl, b1⟩
        go_wp2
        go_ret
        exact ⟨_, rfl, Hy.out trivial, HB.out.trans (b1.mono HB.out.size)⟩
    · obtain rfl : j = L.length := by omega
      rw [List.take_length] at ha
      have HA : Hid (IdxVB p L (-1)) := Or.inl ⟨rfl, ha⟩
      have HB := Lib.hid hb
      clear ha hb hr hc
      go_wp2
      go_ret
      exact ⟨_, rfl, HA.out, HB.out⟩
theorem idxV_numB {p : Bb → Bool} {L : List Bb} {v : Int} (h : IdxVB p L v) : v = (numP p L : Int) - 1 := by
  unfold numP
  rcases h with ⟨rfl, h⟩ | ⟨j, hj, rfl, h1, h2⟩
  · rw [List.findIdx?_eq_none_iff.2 h]; rfl
  · have e : L.findIdx? p = some j := by
      rw [List.findIdx?_eq_some_iff_getElem]
      refine ⟨hj, h1, fun i hi => ?_⟩
      have := h2 L[i] (by rw [List.mem_take_iff_getElem]; exact ⟨i, by omega, rfl⟩)
      simpa using this
    rw [e]; simp
theorem idxN_anyB (N : Nat) (hN : Nb.Enters N) (caps : Array Value) (p : Bb → Bool) (a : Option Addr) (cap : Nat) (L : List Bb) (hl : L.length ≤ 1000) (w : World) (hr : RdE cbx 1 w a L)
    (hc : ∀ x, x ∈ L → ∀ w', Below w.heap.size w w' → Calls Try.prog N (#[.pointer (some ⟨x.g, 0, none⟩)] ++ caps) w' fun e w'' => e = .returned (.bool (p x)) ∧ Below w'.heap.size w' w'') :
    Calls Try.prog 64 #[.slice a L.length cap, .func (.func N) #[] caps] w fun e w' => e = .returned (.int .i64 ((numP p L : Int) - 1)) ∧ Below w.heap.size w w' :=
  (idxF_anyB N hN caps p a cap L hl w hr hc).mono fun e w' ⟨v, h1, h2, h3⟩ => ⟨by rw [h1, idxV_numB h2], h3⟩
set_option maxHeartbeats 1600000 in
theorem has_anyB (N : Nat) (hN : Nb.Enters N) (caps : Array Value) (p : Bb → Bool) (a : Option Addr) (cap : Nat) (L : List Bb) (hl : L.length ≤ 1000) (w : World) (hr : RdE cbx 1 w a L)
    (hc : ∀ x, x ∈ L → ∀ w', Below w.heap.size w w' → Calls Try.prog N (#[.pointer (some ⟨x.g, 0, none⟩)] ++ caps) w' fun e w'' => e = .returned (.bool (p x)) ∧ Below w'.heap.size w' w'') :
    Calls Try.prog 49 #[.slice a L.length cap, .func (.func N) #[] caps] w fun e w' => e = .returned (.bool (L.any p)) ∧ Below w.heap.size w w' := by
  have C := idxN_anyB N hN caps p a cap L hl w hr hc
  have E := num_any p L
  clear hr hc hN
  generalize numP p L = q at *
  generalize L.any p = bb at *
  go_enter Try.func49, Try.ntmps49
  go_wp2_with fail
  refine C.mono ?_; rintro e w1 ⟨rfl, b1⟩
  go_wp2
  go_ret
  exact ⟨bool_ret (by rw [E, Bool.eq_iff_iff]; simp; omega), b1⟩
end Go.Proofs.Ytdpgmdkclaahdaa.Ne
