/- A slice of bindings; slices.IndexFunc over it, whatever the closure. -/
import Derived.Test.YtdpgmdkclaahdaaOwn
import Derived.Test.YtdpgmdkclaahdaaNbOwn
namespace Go.Proofs.Ytdpgmdkclaahdaa.Nb
open Go.Sort Go.RowKit Go.BigFrame
set_option linter.unusedVariables false
set_option linter.unusedSimpArgs false

/-- a binding, as plain data -/
structure Pb where
  ii : Int
  ip : Int
  ki : Int
  kp : Int
  po : Int
  un : Int
  met : List (Int × Int)
/-- .. and the value of its Met -/
abbrev Bd := Pb × Sl
def ch (x : Bd) : List Value := [.int .u32 x.1.ii, .int .u16 x.1.ip, .int .u32 x.1.ki, .int .u16 x.1.kp, .int .u16 x.1.po, .slice x.2.a x.2.n x.2.c, .int .u64 x.1.un]
/-- a slice of bindings that can be read -/
def RdB (w : World) (a : Option Addr) (L : List Bd) : Prop :=
  0 < L.length → ∃ b off, a = some ⟨b, off, none⟩ ∧ b < w.heap.size ∧ ∀ i x, L[i]? = some x → ∀ k v, (ch x)[k]? = some v → w.cell? ⟨b, off + i * 7 + k, none⟩ = some v
theorem RdB.keep {w w' : World} {a : Option Addr} {L : List Bd} (h : RdB w a L) (hb : Below w.heap.size w w') : RdB w' a L := fun hp => by
  obtain ⟨b, off, rfl, hB, hc⟩ := h hp
  exact ⟨b, off, rfl, Nat.lt_of_lt_of_le hB hb.size, fun i x hx k v hv => (hb.cell (p := ⟨b, off + i * 7 + k, none⟩) hB).trans (hc i x hx k v hv)⟩
/-- what IndexFunc answers -/
def IdxV (p : Pb → Bool) (L : List Bd) (v : Int) : Prop :=
  (v = -1 ∧ ∀ x ∈ L, p x.1 = false) ∨ ∃ (j : Nat) (h : j < L.length), v = j ∧ p L[j].1 = true ∧ ∀ x ∈ L.take j, p x.1 = false
def IdxPost (p : Pb → Bool) (L : List Bd) (w : World) (e : Ending) (w' : World) : Prop := ∃ v : Int, e = .returned (.int .i64 v) ∧ IdxV p L v ∧ Below w.heap.size w w'
def IdxJ (w : World) (p : Pb → Bool) (L : List Bd) (i : Value) (wr : World) : Prop := ∃ j : Nat, j ≤ L.length ∧ i = .int .i64 j ∧ (∀ x ∈ L.take j, p x.1 = false) ∧ Below w.heap.size w wr
theorem take_no {p : Pb → Bool} {L : List Bd} {j : Nat} (h : j < L.length) (h1 : ∀ x ∈ L.take j, p x.1 = false) (h2 : p L[j].1 = false) : ∀ x ∈ L.take (j + 1), p x.1 = false := by
  rw [List.take_succ_eq_append_getElem h]
  intro x hx
  rcases List.mem_append.1 hx with hx | hx
  · exact h1 x hx
  · obtain rfl := List.mem_singleton.1 hx; exact h2
/-- function N has a body: it is entered -/
def Enters (N : Nat) : Prop := ∀ args w, (callFunc N args).run Try.prog w = .ok (.enter N args) w
theorem enters_sweep : Enters 71 := fun args w => by kernel_rfl
set_option maxHeartbeats 1600000 in
theorem idxF_any (N : Nat) (hN : Enters N) (caps : Array Value) (p : Pb → Bool) (a : Option Addr) (cap : Nat) (L : List Bd) (hl : L.length ≤ 1000) (w : World) (hr : RdB w a L)
    (hc : ∀ x, x ∈ L → ∀ w', Below w.heap.size w w' → Calls Try.prog N (#[.agg #[.int .u32 x.1.ii, .int .u16 x.1.ip, .int .u32 x.1.ki, .int .u16 x.1.kp, .int .u16 x.1.po, .slice x.2.a x.2.n x.2.c, .int .u64 x.1.un]] ++ caps) w' fun e w'' => e = .returned (.bool (p x.1)) ∧ Below w'.heap.size w' w'') :
    Calls Try.prog 58 #[.slice a L.length cap, .func (.func N) #[] caps] w (IdxPost p L w) := by
  have hE : ∀ args w, (callFunc N args).run Try.prog w = .ok (.enter N args) w := hN
  go_enter Try.func58, Try.ntmps58
  go_wp2_with fail
  go_loopw [5, 8] (fun _ i wr => IdxJ w p L i wr) (fun _ i _ => L.length - (intOf i).toNat)
  case atStart => exact ⟨0, Nat.zero_le _, rfl, by simp, Below.refl _ _⟩
  case round =>
    obtain ⟨j, hj, rfl, ha, hb⟩ := hrel
    by_cases hlt : j < L.length
    · have hlt' : (j : Int) < L.length := by omega
      have hj0 : (0 : Int) ≤ j := by omega
      obtain ⟨b, off, rfl, hbl, hcc⟩ := (hr.keep hb) (by omega)
      have hx : L[j]? = some L[j] := List.getElem?_eq_getElem hlt
      have c0 := hcc j _ hx 0 _ rfl
      have c1 := hcc j _ hx 1 _ rfl
      have c2 := hcc j _ hx 2 _ rfl
      have c3 := hcc j _ hx 3 _ rfl
      have c4 := hcc j _ hx 4 _ rfl
      have c5 := hcc j _ hx 5 _ rfl
      have c6 := hcc j _ hx 6 _ rfl
      have N1 := hc L[j] (List.getElem_mem hlt) wr hb
      have HB := Lib.hid hb
      have Hno := Lib.hid (fun h => take_no (p := p) hlt ha h)
      have Hy : Hid (p L[j].1 = true → IdxV p L j) := fun h => Or.inr ⟨j, hlt, rfl, h, ha⟩
      generalize L[j] = r at *
      obtain ⟨⟨r1, r2, r3, r4, r5, r6, r7⟩, ⟨s1, s2, s3⟩⟩ := r
      simp only [Nat.add_zero] at c0 c1 c2 c3 c4 c5 c6 N1 Hno
      clear hcc ha hb hr hc hx
      generalize hq : p ⟨r1, r2, r3, r4, r5, r6, r7⟩ = q at *
      clear hq
      cases q
      · go_wp2_with fail
        refine N1.mono ?_; rintro e w1 ⟨rfl, b1⟩
        go_wp2
        go_roundw
        case rel => exact ⟨j + 1, by omega, by go_num, Hno.out trivial, HB.out.trans (b1.mono HB.out.size)⟩
        case measure => simp [intOf]; omega
      · go_wp2_with fail
        refine N1.mono ?_; rintro e w1 ⟨rfl, b1⟩
        go_wp2
        go_ret
        exact ⟨_, rfl, Hy.out trivial, HB.out.trans (b1.mono HB.out.size)⟩
    · obtain rfl : j = L.length := by omega
      rw [List.take_length] at ha
      have HA : Hid (IdxV p L (-1)) := Or.inl ⟨rfl, ha⟩
      have HB := Lib.hid hb
      clear ha hb hr hc
      go_wp2
      go_ret
      exact ⟨_, rfl, HA.out, HB.out⟩
/-- a slice of bindings that somebody owns -/
def BRow (w : World) (v : Value) (L : List Bd) : Prop := w.ownsRow 0 107 7 v L.length (L.map ch).flatten
theorem ch_all (L : List Bd) : ∀ c ∈ L.map ch, c.length = 7 := by
  intro c hc
  obtain ⟨x, _, rfl⟩ := List.mem_map.1 hc
  rfl
theorem brow_form {w : World} {v : Value} {L : List Bd} (h : BRow w v L) : (v = .slice none 0 0 ∧ L = []) ∨ ∃ g cap, v = .slice (some ⟨g, 0, none⟩) L.length cap ∧ g < w.heap.size := by
  rcases h.2 with ⟨rfl, h0⟩ | ⟨g, cap, cur, rfl, _, hg, _⟩
  · exact .inl ⟨rfl, List.eq_nil_of_length_eq_zero h0⟩
  · refine .inr ⟨g, cap, rfl, ?_⟩
    rcases Nat.lt_or_ge g w.heap.size with h1 | h1
    · exact h1
    · rw [Array.getElem?_eq_none h1] at hg; cases hg
theorem brow_open {w : World} {g n cap : Nat} {L : List Bd} (h : BRow w (.slice (some ⟨g, 0, none⟩) n cap) L) : n = L.length ∧ ∃ C, Rw 7 g 107 C w ∧ C.length = cap ∧ C.take L.length = L.map ch ∧ L.length ≤ cap ∧ cap ≤ maxLen := by
  have hn : n = L.length := by
    rcases brow_form h with ⟨h1, _⟩ | ⟨_, _, h1, _⟩
    · simp at h1
    · simp at h1; exact h1.2.1
  subst hn
  obtain ⟨C, h1, h2, h3, h4, h5, _⟩ := Rw.of_own (by decide) h
  refine ⟨rfl, C, h1, h2, ?_, h3, h4⟩
  exact flatten_inj (z := 7) _ _ (by decide) (fun c hc => h1.all c (List.mem_of_mem_take hc)) (ch_all L) h5
theorem brow_close {w : World} {g : Nat} {C : List (List Value)} {L : List Bd} (h : Rw 7 g 107 C w) (ht : C.take L.length = L.map ch) (hl : L.length ≤ C.length) (hm : C.length ≤ maxLen) : BRow w (.slice (some ⟨g, 0, none⟩) L.length C.length) L := by
  have := h.own hl hm
  rw [ht] at this
  exact this
theorem take_at {C : List (List Value)} {L : List Bd} (ht : C.take L.length = L.map ch) {i : Nat} {x : Bd} (hx : L[i]? = some x) : C[i]? = some (ch x) := by
  have hi : i < L.length := (List.getElem?_eq_some_iff.1 hx).1
  have h1 : (C.take L.length)[i]? = C[i]? := by rw [List.getElem?_take, if_pos hi]
  rw [← h1, ht, List.getElem?_map, hx]; rfl
theorem brow_rd {w : World} {a : Option Addr} {n cap : Nat} {L : List Bd} (h : BRow w (.slice a n cap) L) : RdB w a L := fun hp => by
  rcases brow_form h with ⟨_, rfl⟩ | ⟨g, cap', h1, hlt⟩
  · simp at hp
  · simp only [Value.slice.injEq] at h1
    obtain ⟨rfl, rfl, rfl⟩ := h1
    obtain ⟨_, C, hC, _, ht, _⟩ := brow_open h
    exact ⟨g, 0, rfl, hlt, fun i x hx k v hv => by rw [Nat.zero_add]; exact hC.cell i k _ v (take_at ht hx) hv⟩
theorem brow_touch {F : Nat → Prop} {w w' : World} {v : Value} {L : List Bd} (h : BRow w v L) (ht : Touch F w w') (hF : ∀ k, v.ownBlock = some k → ¬ F k) : BRow w' v L := own_touch h ht hF
end Go.Proofs.Ytdpgmdkclaahdaa.Nb