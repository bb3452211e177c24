/- The program's bag: find. -/
import Derived.Test.YtdpgmdkclaahdaaBgBagOps
namespace Go.Proofs.Ytdpgmdkclaahdaa.Bg
open Go.Sort Go.RowKit Go.BigFrame
set_option linter.unusedVariables false
set_option linter.unusedSimpArgs false

def FindPost (now pick : Int) (L : List Pi) (w : World) (e : Ending) (w' : World) : Prop := e = .returned (.tuple #[.int .i64 ((pickE now pick L).1 : Nat), .int .i64 (pickE now pick L).2]) ∧ Below w.heap.size w w'
def FindJ (now pick : Int) (g n : Nat) (L : List Pi) (m : Nat) (w : World) (a' : Act) (w' : World) : Prop :=
  ∃ (j a : Nat) (qp qa : Int), (0 ≤ qp ∧ qp + 1 = (j : Int)) ∧ qa = (a : Int) ∧ FI now L m j a ∧ a'.defers = [] ∧ (∃ u3 u4 u5 u11 u12 u13 u14 u15 u16 u17 u18 u19 u20 u21 u22 u23 u24 u25 u26 u27 u28 u29 u30 u31 u32 u33 u34 u35 u36 u37, a'.tmps = #[.pointer (some ⟨g, 0, none⟩), .int .u64 now, .int .i64 pick, u3, u4, u5, .int .i64 0, .int .i64 0, .int .i64 (n : Nat), .int .i64 qp, .int .i64 qa, u11, u12, u13, u14, u15, u16, u17, u18, u19, u20, u21, u22, u23, u24, u25, u26, u27, u28, u29, u30, u31, u32, u33, u34, u35, u36, u37]) ∧ Below w.heap.size w w'
set_option maxHeartbeats 3200000 in
theorem find_any (now pick : Int) (hp : pick ≤ 9223372036854775807) (g room : Nat) (v : Sl) (L : List Pi) (w : World) (h : Bs true g room v L w) :
    Calls Try.prog 41 #[.pointer (some ⟨g, 0, none⟩), .int .u64 now, .int .i64 pick] w (FindPost now pick L w) := by
  have RD := ready_any now g room v L w h
  have hn := h.n
  obtain ⟨av, n, c⟩ := v
  simp only at hn
  subst hn
  have HX := Lib.hid h.box
  have HR := Lib.hid h.rd
  have hl : (L.length : Int) ≤ 256 := by have := h.len; have := h.r2; omega
  have hle := ready_le (now := now) (L := L)
  clear h
  simp only at HR
  unfold FindPost
  by_cases h1 : pick < 0
  · have e1 : pickE now pick L = (0, 1) := if_pos h1
    have h1' : decide (pick < 0) = true := decide_eq_true h1
    rw [e1]
    clear e1 RD
    go_enter Try.func41, Try.ntmps41
    go_wp2
    refine wp_scope_jumps 0 (fun _ _ => False) (fun _ _ => 0) rfl ?_ (fun _ _ h => h.elim)
    go_wp2
    simp only [Exit.jump]
    refine bodyPost_ret (v := (.tuple #[.int .i64 0, .int .i64 1])) (by simp [results, Try.results41, go_sem, *]) rfl ?_
    exact ⟨rfl, Below.refl _ _⟩
  · have h1' : decide (pick < 0) = false := decide_eq_false h1
    by_cases h2 : readyP now L = 0
    · have e1 : pickE now pick L = (0, 5) := by unfold pickE; rw [if_neg h1, if_pos h2]
      rw [e1]
      rw [h2] at RD
      clear e1 h2 hle
      go_enter Try.func41, Try.ntmps41
      go_wp2
      refine wp_scope_jumps 0 (fun _ _ => False) (fun _ _ => 0) rfl ?_ (fun _ _ h => h.elim)
      go_wp2_with fail
      refine RD.mono ?_; rintro e w1 ⟨rfl, b1⟩
      clear RD
      go_wp2
      simp only [Exit.jump]
      refine bodyPost_ret (v := (.tuple #[.int .i64 0, .int .i64 5])) (by simp [results, Try.results41, go_sem, *]) rfl ?_
      exact ⟨rfl, b1⟩
    · obtain ⟨m, hm⟩ : ∃ m : Nat, pick % (readyP now L : Int) = (m : Int) := ⟨(pick % (readyP now L : Int)).toNat, by have := Int.emod_nonneg pick (show (readyP now L : Int) ≠ 0 by omega); omega⟩
      have hmt : pick.tmod (readyP now L : Int) = (m : Int) := by rw [tmod_pos _ _ (by omega)]; exact hm
      have hml : m < readyP now L := by have := Int.emod_lt_of_pos pick (show (0 : Int) < (readyP now L : Int) by omega); omega
      have e1 : pickE now pick L = (nthR now L m, 0) := by
        unfold pickE
        rw [if_neg h1, if_neg h2]
        congr 2
        have : ((pick.toNat % readyP now L : Nat) : Int) = m := by rw [Int.natCast_emod, Int.toNat_of_nonneg (by omega), hm]
        omega
      rw [e1]
      have HP : Hid (0 < L.length) := by show 0 < L.length; omega
      have hF : FI now L m 0 m := FI.start hml
      have hz : ((readyP now L : Int) == 0) = false := by rw [beq_eq_false_iff_ne]; omega
      have hz2 : (readyP now L == 0) = false := by rw [beq_eq_false_iff_ne]; exact h2
      have hm256 : (m : Int) ≤ 256 := by omega
      clear e1
      generalize readyP now L = n at *
      go_enter Try.func41, Try.ntmps41
      go_wp2
      refine wp_scope_jumps 0 (FindJ now pick g n L m w) (fun a' _ => L.length - (intOf (a'.tmps.getD 9 undef)).toNat) rfl ?_ ?_
      · go_wp2_with fail
        refine RD.mono ?_; rintro e w1 ⟨rfl, b1⟩
        clear RD
        have b2 : Below w.heap.size w w1.drew := b1.drew
        go_wp2_with fail
        go_region
        go_wp2
        go_step3
        generalize hw2 : w1.drew = w2 at *
        clear hw2 b1
        have hb := b2
        clear b2
        obtain ⟨b, off, rfl, hbl, hcc⟩ := (HR.out.keep hb) HP.out
        have hlt : 0 < L.length := hF.inside
        have hlt' : (0 : Int) < L.length := by omega
        have hx : L[0]? = some L[0] := List.getElem?_eq_getElem hlt
        have c5 := hcc 0 _ hx 5 _ rfl
        have x1 := (HX.out.keep hb).cell 1 _ rfl
        have gl := (HX.out.keep hb).lt
        have KS := fun h => hF.skip hx h
        have KT := fun h h2 => hF.step hx h h2
        have KZ : Hid (∀ (h0 : m = 0), L[0].t ≤ now → nthR now L m = 0) := fun h0 hr => FI.stop (h0 ▸ hF) hx hr
        have HB := Lib.hid hb
        have HLT := Lib.hid hlt
        clear hcc hb hF hx
        generalize L[0] = y at *
        by_cases hk : y.t ≤ now
        · have hk' : decide (now < y.t) = false := decide_eq_false (by omega)
          by_cases ha : 0 < m
          · have ha' : decide (0 < (m : Int)) = true := decide_eq_true (by omega)
            have HF := Lib.hid (KT hk ha)
            have hal : ((m : Int) - 1) = ((m - 1 : Nat) : Int) := by omega
            obtain ⟨y1, y2, y3, y4, y5, y6⟩ := y
            simp only [Nat.add_zero, Nat.zero_mul, Nat.zero_add] at c5 hk hk'
            clear KS KT KZ
            go_wp2
            go_step3
            go_wp2
            refine ⟨rfl, ⟨0 + 1, m - 1, _, _, ?_, ?_, HF.out, rfl, ⟨_, _, _, _, _, _, _, _, _, _, _, _, _, _, _, _, _, _, _, _, _, _, _, _, _, _, _, _, _, _, rfl⟩, HB.out⟩⟩
            · constructor <;> first | (simp; done) | (simp; omega) | omega
            · omega
          · obtain rfl : m = 0 := by omega
            have HE := Lib.hid (KZ.out rfl hk)
            obtain ⟨y1, y2, y3, y4, y5, y6⟩ := y
            simp only [Nat.add_zero, Nat.zero_mul, Nat.zero_add] at c5 hk hk'
            clear KS KT KZ ha
            go_wp2
            simp only [Exit.jump]
            refine bodyPost_ret (v := (.tuple #[.int .i64 0, .int .i64 0])) (by simp [results, Try.results41, go_sem, *]) rfl ?_
            exact ⟨by first | (rw [HE.out]; done) | (rw [HE.out]; rfl), HB.out⟩
        · have hk' : decide (now < y.t) = true := decide_eq_true (by omega)
          have HF := Lib.hid (KS hk)
          obtain ⟨y1, y2, y3, y4, y5, y6⟩ := y
          simp only [Nat.add_zero, Nat.zero_mul, Nat.zero_add] at c5 hk hk'
          clear KS KT KZ
          go_wp2
          go_step3
          go_wp2
          refine ⟨rfl, ⟨0 + 1, m, _, _, ?_, ?_, HF.out, rfl, ⟨_, _, _, _, _, _, _, _, _, _, _, _, _, _, _, _, _, _, _, _, _, _, _, _, _, _, _, _, _, _, rfl⟩, HB.out⟩⟩
          · constructor <;> first | (simp; done) | (simp; omega) | omega
          · rfl
      · rintro ⟨t1, d1⟩ w2 ⟨j, a, qp, qa, ⟨hq0, hqp⟩, rfl, hF, hd, ⟨u3, u4, u5, u11, u12, u13, u14, u15, u16, u17, u18, u19, u20, u21, u22, u23, u24, u25, u26, u27, u28, u29, u30, u31, u32, u33, u34, u35, u36, u37, ht⟩, hb⟩
        obtain rfl : d1 = [] := hd
        obtain rfl : t1 = _ := ht
        obtain rfl : qp = (j : Int) - 1 := by omega
        have hjn : (1 : Int) ≤ j := by omega
        have hjn' : 1 ≤ j := by omega
        have hab : (a : Int) ≤ 256 := by have h8 := hF.lt; have h9 := ready_le (now := now) (L := L.drop j); rw [List.length_drop] at h9; omega
        obtain ⟨b, off, rfl, hbl, hcc⟩ := (HR.out.keep hb) HP.out
        have hlt : j < L.length := hF.inside
        have hlt' : (j : Int) < L.length := by omega
        have hx : L[j]? = some L[j] := List.getElem?_eq_getElem hlt
        have c5 := hcc j _ hx 5 _ rfl
        have x1 := (HX.out.keep hb).cell 1 _ rfl
        have gl := (HX.out.keep hb).lt
        have KS := fun h => hF.skip hx h
        have KT := fun h h2 => hF.step hx h h2
        have KZ : Hid (∀ (h0 : a = 0), L[j].t ≤ now → nthR now L m = j) := fun h0 hr => FI.stop (h0 ▸ hF) hx hr
        have HB := Lib.hid hb
        have HLT := Lib.hid hlt
        clear hcc hb hF hx
        generalize L[j] = y at *
        by_cases hk : y.t ≤ now
        · have hk' : decide (now < y.t) = false := decide_eq_false (by omega)
          by_cases ha : 0 < a
          · have ha' : decide (0 < (a : Int)) = true := decide_eq_true (by omega)
            have HF := Lib.hid (KT hk ha)
            have hal : ((a : Int) - 1) = ((a - 1 : Nat) : Int) := by omega
            obtain ⟨y1, y2, y3, y4, y5, y6⟩ := y
            simp only [Nat.add_zero, Nat.zero_mul, Nat.zero_add] at c5 hk hk'
            clear KS KT KZ
            go_wp2
            go_step3
            go_wp2
            refine ⟨rfl, ⟨j + 1, a - 1, _, _, ?_, ?_, HF.out, rfl, ⟨_, _, _, _, _, _, _, _, _, _, _, _, _, _, _, _, _, _, _, _, _, _, _, _, _, _, _, _, _, _, rfl⟩, HB.out⟩, ?_⟩
            · constructor <;> first | (simp; done) | (simp; omega) | omega
            · omega
            · simp [intOf]; omega
          · obtain rfl : a = 0 := by omega
            have HE := Lib.hid (KZ.out rfl hk)
            obtain ⟨y1, y2, y3, y4, y5, y6⟩ := y
            simp only [Nat.add_zero, Nat.zero_mul, Nat.zero_add] at c5 hk hk'
            clear KS KT KZ ha
            go_wp2
            simp only [Exit.jump]
            refine bodyPost_ret (v := (.tuple #[.int .i64 (j : Nat), .int .i64 0])) (by simp [results, Try.results41, go_sem, *]) rfl ?_
            exact ⟨by first | (rw [HE.out]; done) | (rw [HE.out]; rfl), HB.out⟩
        · have hk' : decide (now < y.t) = true := decide_eq_true (by omega)
          have HF := Lib.hid (KS hk)
          obtain ⟨y1, y2, y3, y4, y5, y6⟩ := y
          simp only [Nat.add_zero, Nat.zero_mul, Nat.zero_add] at c5 hk hk'
          clear KS KT KZ
          go_wp2
          go_step3
          go_wp2
          refine ⟨rfl, ⟨j + 1, a, _, _, ?_, ?_, HF.out, rfl, ⟨_, _, _, _, _, _, _, _, _, _, _, _, _, _, _, _, _, _, _, _, _, _, _, _, _, _, _, _, _, _, rfl⟩, HB.out⟩, ?_⟩
          · constructor <;> first | (simp; done) | (simp; omega) | omega
          · rfl
          · simp [intOf]; omega
end Go.Proofs.Ytdpgmdkclaahdaa.Bg