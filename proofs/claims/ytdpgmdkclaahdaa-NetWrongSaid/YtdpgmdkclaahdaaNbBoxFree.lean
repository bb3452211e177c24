/- A box's free: the lowest place whose port no binding has. -/
import Derived.Test.YtdpgmdkclaahdaaNbBoxMin
namespace Go.Proofs.Ytdpgmdkclaahdaa.Nb
open Go.Sort Go.RowKit Go.BigFrame
set_option linter.unusedVariables false
set_option linter.unusedSimpArgs false

def freeF : Nat → List Pb → Nat
  | k, [] => k
  | k, b :: r => if b.po = 20000 + (k : Int) then freeF (k + 1) r else k
theorem freeF_le : ∀ (l : List Pb) (k : Nat), k ≤ freeF k l ∧ freeF k l ≤ k + l.length
  | [], k => by simp [freeF]
  | b :: r, k => by
    unfold freeF
    have := freeF_le r (k + 1)
    split
    · simp only [List.length_cons]; omega
    · simp only [List.length_cons]; omega
theorem freeF_at {l : List Bd} {k : Nat} (h : k < l.length) : freeF k ((l.drop k).map (·.1)) = if l[k].1.po = 20000 + (k : Int) then freeF (k + 1) ((l.drop (k + 1)).map (·.1)) else k := by
  rw [List.drop_eq_getElem_cons h, List.map_cons]; rfl
def FreeJ (w : World) (g : Nat) (L : List Bd) (fin : Nat) (a' : Act) (w' : World) : Prop :=
  ∃ k : Nat, k ≤ L.length ∧ freeF k ((L.drop k).map (·.1)) = fin ∧ a'.defers = [] ∧ (∃ u1 u4 u5 u6 u7 u8 u9 u10 u11 u12 u13 u14 u15 u16 u17 u18 u19 u20 u21 u22 u23 u24 u25 u26 u27, a'.tmps = #[.pointer (some ⟨g, 0, none⟩), u1, .int .i64 0, .int .i64 (k : Nat), u4, u5, u6, u7, u8, u9, u10, u11, u12, u13, u14, u15, u16, u17, u18, u19, u20, u21, u22, u23, u24, u25, u26, u27]) ∧ w' = w
set_option maxHeartbeats 3200000 in
theorem free_any (g : Nat) (S : Nat → Prop) (m f ip hold : Int) (room : Nat) (v : Sl) (L : List Bd) (w : World) (h : Bs g S m f ip hold room v L w) :
    Calls Try.prog 74 #[.pointer (some ⟨g, 0, none⟩)] w fun e w' => e = .returned (.int .i64 (freeF 0 (L.map (·.1)) : Nat)) ∧ w = w' := by
  have hlen := h.len
  have hr2 := h.ok.r2
  have hn := h.form.1
  obtain ⟨a, n, c⟩ := v
  simp only at hn
  subst hn
  have x5 := h.box.cell 5 _ rfl
  have gl := h.box.lt
  have HR := Lib.hid (brow_rd h.row)
  have HP : Hid (∀ (i : Nat) (hi : i < L.length), 20000 ≤ L[i].1.po ∧ L[i].1.po ≤ 20063) := fun i hi => h.ok.po _ (List.mem_map.2 ⟨_, List.getElem_mem hi, rfl⟩)
  have hl2 : (L.length : Int) ≤ 64 := by omega
  obtain ⟨fin, hfin⟩ : ∃ fin, freeF 0 (L.map (·.1)) = fin := ⟨_, rfl⟩
  rw [hfin]
  have HF := Lib.hid hfin
  clear h hfin
  go_enter Try.func74, Try.ntmps74
  go_wp2
  refine wp_scope_jumps 0 (FreeJ w g L fin) (fun a' _ => L.length - (intOf (a'.tmps.getD 3 undef)).toNat) rfl ?_ ?_
  · have hF : freeF 0 ((L.drop 0).map (·.1)) = fin := HF.out
    go_wp2
    go_step3
    by_cases hlt : 0 < L.length
    · have hlt' : (0 : Int) < L.length := by omega
      have hlp : 0 < L.length := by omega
      obtain ⟨b, off, rfl, hbl, hcc⟩ := HR.out hlp
      have hx : L[0]? = some L[0] := List.getElem?_eq_getElem hlt
      have c4 := hcc 0 _ hx 4 _ rfl
      have pb := HP.out 0 hlt
      have hf := freeF_at (l := L) hlt
      generalize L[0] = y at *
      obtain ⟨⟨t1, t2, t3, t4, t5, t6, t7⟩, ⟨z1, z2, z3⟩⟩ := y
      simp only [Nat.zero_mul, Nat.add_zero, Nat.zero_add] at c4
      simp only at pb hf
      obtain ⟨p1, p2⟩ := pb
      have HL := Lib.hid hlt
      clear hcc hx
      by_cases hp : t5 = 20000 + (0 : Int)
      · have hF2 : Hid (freeF (0 + 1) ((L.drop (0 + 1)).map (·.1)) = fin) := by
          show _ = _
          rw [if_pos (show t5 = 20000 + ((0 : Nat) : Int) from hp)] at hf; rw [← hf]; exact hF
        clear hf hF
        subst hp
        go_wp2
        go_step3
        go_wp2
        refine ⟨rfl, ⟨0 + 1, HL.out, hF2.out, rfl, ⟨_, _, _, _, _, _, _, _, _, _, _, _, _, _, _, _, _, _, _, _, _, _, _, _, _, rfl⟩, rfl⟩⟩
      · have hF2 : Hid (fin = 0) := by
          show _ = _
          rw [if_neg (show ¬ t5 = 20000 + ((0 : Nat) : Int) from hp)] at hf; rw [← hF]; exact hf
        have hp2 : (t5 == 20000 + (0 : Int)) = false := by rw [beq_eq_false_iff_ne]; exact hp
        clear hf hF
        go_wp2
        simp only [Exit.jump]
        go_ret
        exact ⟨by rw [hF2.out]; rfl, rfl⟩
    · have hF2 : Hid (fin = 0) := by
        show _ = _
        rw [← hF, List.drop_eq_nil_of_le (by omega)]; rfl
      obtain rfl : L = [] := List.eq_nil_of_length_eq_zero (by omega)
      clear hF
      go_wp2
      simp only [Exit.jump]
      go_ret
      exact ⟨by rw [hF2.out]; rfl, rfl⟩
  · rintro ⟨t1, d1⟩ w1 ⟨k, hk, hF, hd, ⟨u1, u4, u5, u6, u7, u8, u9, u10, u11, u12, u13, u14, u15, u16, u17, u18, u19, u20, u21, u22, u23, u24, u25, u26, u27, ht⟩, rfl⟩
    obtain rfl : d1 = [] := hd
    obtain rfl : t1 = _ := ht
    have hk0 : (0 : Int) ≤ k := by omega
    by_cases hlt : k < L.length
    · have hlt' : (k : Int) < L.length := by omega
      have hlp : 0 < L.length := by omega
      obtain ⟨b, off, rfl, hbl, hcc⟩ := HR.out hlp
      have hx : L[k]? = some L[k] := List.getElem?_eq_getElem hlt
      have c4 := hcc k _ hx 4 _ rfl
      have pb := HP.out k hlt
      have hf := freeF_at (l := L) hlt
      generalize L[k] = y at *
      obtain ⟨⟨t1, t2, t3, t4, t5, t6, t7⟩, ⟨z1, z2, z3⟩⟩ := y
      simp only [Nat.zero_mul, Nat.add_zero, Nat.zero_add] at c4
      simp only at pb hf
      obtain ⟨p1, p2⟩ := pb
      have HL := Lib.hid hlt
      clear hcc hx
      by_cases hp : t5 = 20000 + (k : Int)
      · have hF2 : Hid (freeF (k + 1) ((L.drop (k + 1)).map (·.1)) = fin) := by
          show _ = _
          rw [if_pos hp] at hf; rw [← hf]; exact hF
        clear hf hF
        subst hp
        go_wp2
        go_step3
        go_wp2
        refine ⟨rfl, ⟨k + 1, HL.out, hF2.out, rfl, ⟨_, _, _, _, _, _, _, _, _, _, _, _, _, _, _, _, _, _, _, _, _, _, _, _, _, rfl⟩, rfl⟩, by simp [intOf]; omega⟩
      · have hF2 : Hid (fin = k) := by
          show _ = _
          rw [if_neg hp] at hf; rw [← hF]; exact hf
        have hp2 : (t5 == 20000 + (k : Int)) = false := by rw [beq_eq_false_iff_ne]; exact hp
        clear hf hF
        go_wp2
        simp only [Exit.jump]
        go_ret
        exact ⟨by rw [hF2.out]; rfl, rfl⟩
    · have hF2 : Hid (fin = k) := by
        show _ = _
        rw [← hF, List.drop_eq_nil_of_le (by omega)]; rfl
      obtain rfl : k = L.length := by omega
      clear hF
      go_wp2
      simp only [Exit.jump]
      go_ret
      exact ⟨by rw [hF2.out]; rfl, rfl⟩
end Go.Proofs.Ytdpgmdkclaahdaa.Nb