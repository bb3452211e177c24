/- The program's bag: Items. -/
import Derived.Test.YtoclhckcgjmhjaaBagTwice
namespace Go.Proofs.Ytoclhckcgjmhjaa
open Go.Sort Go.RowKit Go.BigFrame
set_option linter.unusedVariables false
set_option linter.unusedSimpArgs false

def ItemsPost (L : List Pi) (w : World) (e : Ending) (w' : World) : Prop := ∃ v' : Sl, e = .returned (.slice v'.a v'.n v'.c) ∧ v'.n = L.length ∧ RdI w' v'.a L ∧ Below w.heap.size w w' ∧ (0 < L.length → ∃ b, v'.a = some ⟨b, 0, none⟩ ∧ w.heap.size ≤ b ∧ Cs b (L.map ci).flatten w')
theorem irow_cs {T : TypeId} {w : World} {v : Sl} {L : List Pi} (h : IRow T w v.v L) (hp : 0 < L.length) : ∃ b, v.a = some ⟨b, 0, none⟩ ∧ v.v.ownBlock = some b ∧ Cs b (L.map ci).flatten w := by
  obtain ⟨a, n, c⟩ := v
  rcases irow_form h with ⟨_, rfl⟩ | ⟨b, cap, h1, hlt⟩
  · simp at hp
  · simp only [Sl.v, Value.slice.injEq] at h1
    obtain ⟨rfl, rfl, rfl⟩ := h1
    obtain ⟨_, C, hC, _, ht, _⟩ := irow_open h
    refine ⟨b, rfl, rfl, ⟨fun i u hu => ?_, fun i u hu => hC.free i, hlt⟩⟩
    have := (hC.sub (p := 0) (by decide) (ci_all L) (fun i c hc => by
      rw [List.getElem?_map, Option.map_eq_some_iff] at hc
      obtain ⟨x, hx, rfl⟩ := hc
      rw [Nat.zero_add]
      exact taken_at ht hx)) i u hu
    rw [add_at] at this
    simpa using this
theorem irow_n {T : TypeId} {w : World} {v : Sl} {L : List Pi} (h : IRow T w v.v L) : v.n = L.length := by
  obtain ⟨a, n, c⟩ := v
  rcases irow_form h with ⟨h1, h2⟩ | ⟨b, cap, h1, h2⟩
  · simp [Sl.v] at h1
    obtain ⟨rfl, rfl, rfl⟩ := h1
    rw [h2]; rfl
  · simp [Sl.v] at h1
    exact h1.2.1
set_option maxHeartbeats 1600000 in
set_option maxRecDepth 100000 in
theorem cloneI_any (a : Option Addr) (cap : Nat) (L : List Pi) (hl : L.length ≤ 256) (w : World) (hr : IRow 62 w (.slice a L.length cap) L) :
    Calls Try.prog 67 #[.slice a L.length cap] w (ItemsPost L w) := by
  obtain ⟨i0, hi0, hz0, hz1, hz2⟩ := info_parts info_item
  have hnil : ∀ (w : World) (a : Option Addr) (n c : Nat), (binOp .eql 85 (.slice a n c) (.slice none 0 0)).run Try.prog w = .ok (.bool a.isNone) w := fun w a n c => Lib.run_eql_slice_nil w 85 62 a n c 0 0 Try.underlying85
  rcases irow_form hr with ⟨h1, rfl⟩ | ⟨g, c', h1, hg⟩
  · simp only [Value.slice.injEq] at h1
    obtain ⟨rfl, -, rfl⟩ := h1
    clear hr
    go_enter Try.func67, Try.ntmps67
    go_wp2_with fail
    go_ret
    exact ⟨⟨none, 0, 0⟩, rfl, rfl, fun h => by simp at h, Below.refl _ _, fun h => by simp at h⟩
  · simp only [Value.slice.injEq, true_and] at h1
    obtain ⟨rfl, rfl⟩ := h1
    obtain ⟨-, C, hC, hcap, ht, hlc, hm⟩ := irow_open hr
    have hC2 : Rw 6 g 62 C (w.alloc (.cells #[] 62)) := hC.touch ((Touch.refl (fun _ => False) w).alloc _) (fun h => h)
    have hsrc := hC2.sub (p := 0) (by decide) (ci_all L) (fun i c hc => by
      rw [List.getElem?_map, Option.map_eq_some_iff] at hc
      obtain ⟨x, hx, rfl⟩ := hc
      rw [Nat.zero_add]
      exact taken_at ht hx)
    rw [Nat.zero_mul] at hsrc
    have H0 := Lib.hid hsrc
    have E0 := Lib.hid (own_empty w 62 6)
    have hfl : Hid ((L.map ci).flatten.length = L.length * 6) := by have := flatten_len _ (ci_all L); show (L.map ci).flatten.length = _; rw [this, List.length_map]
    have hO := Lib.hid (cis_one L)
    clear hr hC ht hcap hlc hm hC2 hsrc
    go_enter Try.func67, Try.ntmps67
    go_wp2_with (at_builtin; refine wpList_append_own _ rfl (.tmp 5) (.tmp 6) 85 rfl w.heap.size 62 i0 _ 6 40 Try.underlying85 hi0 hz0 hz1 hz2 rfl (by omega) (.slice (some ⟨w.heap.size, 0, none⟩) 0 0) 0 [] rfl E0.out ⟨g, 0, none⟩ L.length cap (L.map ci).flatten rfl hfl.out H0.out hO.out (by unfold maxLen; omega) (by omega) (by simp) ?_)
    intro v' w9 hown hgrow _
    obtain ⟨s, rfl⟩ := sl_of hown
    have hrow : IRow 62 w9 s.v L := by
      have h := own_zero hown
      show World.ownsRow _ _ _ _ _ _ _
      simpa using h
    have fin : Hid (RdI w9 s.a L) := irow_rd (n := s.n) (cap := s.c) hrow
    have hn := Lib.hid (irow_n hrow)
    have hcs : Hid (0 < L.length → ∃ b, s.a = some ⟨b, 0, none⟩ ∧ w.heap.size ≤ b ∧ Cs b (L.map ci).flatten w9) := fun hp => by
      obtain ⟨b, h1, h2, h3⟩ := irow_cs hrow hp
      exact ⟨b, h1, (World.ownsRow.lt hown b h2).1, h3⟩
    have hB : Hid (Below w.heap.size w w9) := by
      have h1 : Below w.heap.size w (w.alloc (.cells #[] 62)) := (Below.refl _ w).alloc (Nat.le_refl _) _
      exact h1.grown hgrow h1.size (fun k hk => by have e : w.heap.size = k := Option.some.inj hk; omega)
    clear hown hgrow E0 H0 hO hrow
    go_wp2_with fail
    go_ret
    exact ⟨s, rfl, hn.out, fin.out, hB.out, hcs.out⟩
theorem items_any (g room : Nat) (v : Sl) (L : List Pi) (w : World) (h : Bs true g room v L w) :
    Calls Try.prog 38 #[.pointer (some ⟨g, 0, none⟩)] w (ItemsPost L w) := by
  have hn := h.n
  obtain ⟨a, n, c⟩ := v
  simp only at hn
  subst hn
  have K := cloneI_any a c L (by have := h.len; have := h.r2; omega) w h.row
  have x1 := h.box.cell 1 _ rfl
  have gl := h.box.lt
  clear h
  go_enter Try.func38, Try.ntmps38
  go_wp2_with fail
  refine K.mono ?_; rintro e w1 ⟨v', rfl, h1, h2, h3, h4⟩
  have H4 := Lib.hid h4
  have H1 := Lib.hid h1
  have H2 := Lib.hid h2
  have H3 := Lib.hid h3
  clear K h1 h2 h3 h4 x1
  go_wp2_with fail
  go_ret
  exact ⟨v', rfl, H1.out, H2.out, H3.out, H4.out⟩
end Go.Proofs.Ytoclhckcgjmhjaa
