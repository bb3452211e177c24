/- The reference's bag: Take, Drop. -/
import Derived.Test.YtoclhckcgjmhjaaBagRef
namespace Go.Proofs.Ytoclhckcgjmhjaa
open Go.Sort Go.RowKit Go.BigFrame
set_option linter.unusedVariables false
set_option linter.unusedSimpArgs false

def RTakeJ (now : Int) (L : List Pi) (m : Nat) (w : World) (kv jv : Value) (wr : World) : Prop := ∃ j a : Nat, FI now L m j a ∧ kv = .int .i64 (a : Nat) ∧ jv = .int .i64 (j : Nat) ∧ wr = w
set_option maxHeartbeats 6400000 in
set_option maxRecDepth 100000 in
theorem rtake_any (now pick : Int) (hp : pick ≤ 9223372036854775807) (g room : Nat) (v : Sl) (L : List Pi) (w : World) (h : Bs false g room v L w) :
    Calls Try.prog 24 #[.pointer (some ⟨g, 0, none⟩), .int .u64 now, .int .i64 pick] w (TakePost false g room v now pick L w) := by
  have hB : Hid (Below w.heap.size w (w.alloc (.cells #[.int .u32 0, .int .u16 0, .int .u32 0, .int .u16 0, .string ⟨#[]⟩, .int .u64 0] 68))) := (Below.refl _ w).alloc (Nat.le_refl _) _
  have X := Lib.hid (Cs.new w [.int .u32 0, .int .u16 0, .int .u32 0, .int .u16 0, .string ⟨#[]⟩, .int .u64 0] 68)
  have h0 := h.keep hB.out
  have RD := rready_any now g room v L _ h0
  have HLT := Lib.hid h.lt
  have HH := Lib.hid h
  have hl := h.len
  have hr2 := h.r2
  have hl2 : (L.length : Int) ≤ 256 := by omega
  have hle := ready_le (now := now) (L := L)
  unfold TakePost
  by_cases h1 : pick < 0
  · have e1 : pickE now pick L = (0, 1) := if_pos h1
    obtain ⟨q1, q2⟩ := take_bad e1 (by omega)
    rw [q1, q2, e1]
    have h1' : decide (pick < 0) = true := decide_eq_true h1
    clear h h0 e1 q1 q2 RD h1
    go_enter Try.func24, Try.ntmps24
    go_wp2_with fail
    refine bodyPost_ret (v := (.tuple #[.agg #[.int .u32 0, .int .u16 0, .int .u32 0, .int .u16 0, .string ⟨#[]⟩, .int .u64 0], .int .i64 1])) (by simp [results, Try.results24, go_sem, *]) rfl ?_
    exact ⟨rfl, HH.out.same hB.out⟩
  · have h1' : decide (pick < 0) = false := decide_eq_false h1
    by_cases h2 : readyP now L = 0
    · have e1 : pickE now pick L = (0, 5) := by unfold pickE; rw [if_neg h1, if_pos h2]
      obtain ⟨q1, q2⟩ := take_bad e1 (by omega)
      rw [q1, q2, e1]
      rw [h2] at RD
      clear h h0 e1 q1 q2 h2
      go_enter Try.func24, Try.ntmps24
      go_wp2_with fail
      (with_reducible refine RD.mono ?_); rintro e w1 ⟨rfl, rfl⟩
      go_wp2_with fail
      refine bodyPost_ret (v := (.tuple #[.agg #[.int .u32 0, .int .u16 0, .int .u32 0, .int .u16 0, .string ⟨#[]⟩, .int .u64 0], .int .i64 5])) (by simp [results, Try.results24, go_sem, *]) rfl ?_
      exact ⟨rfl, HH.out.same hB.out⟩
    · obtain ⟨m, hm⟩ : ∃ m : Nat, pick % (readyP now L : Int) = (m : Int) := ⟨(pick % (readyP now L : Int)).toNat, by have := Int.emod_nonneg pick (show (readyP now L : Int) ≠ 0 by omega); omega⟩
      have hmt : pick.tmod (readyP now L : Int) = (m : Int) := by rw [tmod_pos _ _ (by omega)]; exact hm
      have hml : m < readyP now L := by have := Int.emod_lt_of_pos pick (show (0 : Int) < (readyP now L : Int) by omega); omega
      have e1 : pickE now pick L = (nthR now L m, 0) := by
        unfold pickE
        rw [if_neg h1, if_neg h2]
        congr 2
        have : ((pick.toNat % readyP now L : Nat) : Int) = m := by rw [Int.natCast_emod, Int.toNat_of_nonneg (by omega), hm]
        omega
      obtain ⟨hjl, q1, q2⟩ := take_good e1
      have hF : FI now L m 0 m := FI.start hml
      have hz : ((readyP now L : Int) == 0) = false := by rw [beq_eq_false_iff_ne]; omega
      have hz2 : (readyP now L == 0) = false := by rw [beq_eq_false_iff_ne]; exact h2
      have hm256 : (m : Int) ≤ 256 := by omega
      generalize hjj : nthR now L m = jj at hjl q1 q2 e1
      rw [q1, q2, e1]
      have CT := Lib.hid (cut_any g room jj v L hjl _ h0)
      have HJ := Lib.hid hjj
      have hn := h.n
      obtain ⟨av, n9, cv⟩ := v
      simp only at hn
      subst hn
      have g0 := h0.box.cell 0 _ rfl
      have gl0 := h0.box.lt
      have HR := Lib.hid h0.rd
      have HP : Hid (0 < L.length) := by show 0 < L.length; omega
      have hh0 := Lib.hid h0
      clear e1 q1 q2 h h2 hm h0
      generalize readyP now L = n at *
      generalize hY : L[jj] = y at *
      clear hY
      obtain ⟨y1, y2, y3, y4, y5, y6⟩ := y
      go_enter Try.func24, Try.ntmps24
      go_wp2_with fail
      (with_reducible refine RD.mono ?_); rintro e w1 ⟨rfl, rfl⟩
      clear RD
      go_wp2_with fail
      generalize (w.alloc (.cells #[.int .u32 0, .int .u16 0, .int .u32 0, .int .u16 0, .string ⟨#[]⟩, .int .u64 0] 68)) = w0 at *
      go_loopw [9, 10] (fun kv jv wr => RTakeJ now L m w0 kv jv wr) (fun _ jv _ => L.length - (intOf jv).toNat)
      case atStart => exact ⟨0, m, hF, rfl, rfl, rfl⟩
      case round =>
        obtain ⟨j, a, hFI, rfl, rfl, rfl⟩ := hrel
        clear hF
        have hlt := hFI.inside
        have hab : (a : Int) ≤ 256 := by have h8 := hFI.lt; have h9 := ready_le (now := now) (L := L.drop j); rw [List.length_drop] at h9; omega
        have hj0 : (0 : Int) ≤ j := by omega
        have hlt' : (j : Int) < L.length := by omega
        obtain ⟨b, off, rfl, hbl, hcc⟩ := HR.out HP.out
        have hx : L[j]? = some L[j] := List.getElem?_eq_getElem hlt
        have c5 := hcc j _ hx 5 _ rfl
        have KS := fun h => hFI.skip hx h
        have KT := fun h h2 => hFI.step hx h h2
        have KZ : Hid (a = 0 → L[j].t ≤ now → nthR now L m = j) := fun h0 hr => FI.stop (h0 ▸ hFI) hx hr
        have HLT2 := Lib.hid hlt
        clear hcc hFI hx
        generalize L[j] = x at *
        by_cases hk : x.t ≤ now
        · have hk' : decide (now < x.t) = false := decide_eq_false (by omega)
          have hk2 : decide (x.t ≤ now) = true := decide_eq_true hk
          by_cases ha : 0 < a
          · have ha' : decide (0 < (a : Int)) = true := decide_eq_true (by omega)
            have ha2 : decide (0 < a) = true := decide_eq_true ha
            have HF := Lib.hid (KT hk ha)
            have hal : ((a : Int) - 1) = ((a - 1 : Nat) : Int) := by omega
            have HAL := Lib.hid hal
            have wa : IntKind.i64.wrap ((a : Int) - 1) = (a : Int) - 1 := IntWalk.i64_in _ ⟨by omega, by omega⟩
            obtain ⟨z1, z2, z3, z4, z5, z6⟩ := x
            simp only at c5 hk hk' hk2
            clear KS KT KZ hal ha
            go_wp2_with fail
            go_roundw
            case rel => exact ⟨j + 1, a - 1, HF.out, by rw [← HAL.out], by go_num, rfl⟩
            case measure => have := HLT2.out; simp [intOf]; omega
          · obtain rfl : a = 0 := by omega
            have HE := Lib.hid (KZ.out rfl hk)
            have hjeq : jj = j := by rw [← HJ.out]; exact HE.out
            subst hjeq
            obtain ⟨z1, z2, z3, z4, z5, z6⟩ := x
            simp only at c5 hk hk' hk2
            have CT2 := CT.out
            clear KS KT KZ ha
            go_wp2_with fail
            (with_reducible refine CT2.mono ?_); rintro e w3 hA
            obtain ⟨rfl, hA⟩ := hA
            have X1 : Cs w.heap.size [.int .u32 0, .int .u16 0, .int .u32 0, .int .u16 0, .string ⟨#[]⟩, .int .u64 0] w3 := X.out.touch hA.choose_spec.2.1 (fun hk => Nat.lt_irrefl _ (HLT.out _ hk))
            have x0 := X1.cell 0 _ rfl
            have x1 := X1.cell 1 _ rfl
            have x2 := X1.cell 2 _ rfl
            have x3 := X1.cell 3 _ rfl
            have x4 := X1.cell 4 _ rfl
            have x5 := X1.cell 5 _ rfl
            have xf0 := X1.free 0 _ rfl
            have xf1 := X1.free 1 _ rfl
            have xf2 := X1.free 2 _ rfl
            have xf3 := X1.free 3 _ rfl
            have xf4 := X1.free 4 _ rfl
            have xf5 := X1.free 5 _ rfl
            have xl := X1.lt
            have HA := Lib.hid hA
            clear X1 hA CT2
            go_wp2_with fail
            refine bodyPost_ret (v := (.tuple #[.agg #[.int .u32 y1, .int .u16 y2, .int .u32 y3, .int .u16 y4, .string y5, .int .u64 y6], .int .i64 0])) (by simp [results, Try.results24, go_sem, *]) rfl ?_
            refine ⟨rfl, ?_⟩
            have ht := Touch.sets (F := fun b => b = w.heap.size) (Touch.refl _ w3) w.heap.size (fun _ => rfl) (ci ⟨y1, y2, y3, y4, y5, y6⟩) 0
            exact Aft.fin hB.out HA.out (Nat.le_refl _) X.out.lt HLT.out ht
        · have hk' : decide (now < x.t) = true := decide_eq_true (by omega)
          have hk2 : decide (x.t ≤ now) = false := decide_eq_false hk
          have HF := Lib.hid (KS hk)
          obtain ⟨z1, z2, z3, z4, z5, z6⟩ := x
          simp only at c5 hk hk' hk2
          clear KS KT KZ
          go_wp2_with fail
          go_roundw
          case rel => exact ⟨j + 1, a, HF.out, rfl, by go_num, rfl⟩
          case measure => have := HLT2.out; simp [intOf]; omega
set_option maxHeartbeats 6400000 in
set_option maxRecDepth 100000 in
theorem rdrop_any (pick : Int) (hp : pick ≤ 9223372036854775807) (g room : Nat) (v : Sl) (L : List Pi) (w : World) (h : Bs false g room v L w) :
    Calls Try.prog 27 #[.pointer (some ⟨g, 0, none⟩), .int .i64 pick] w (dropPost false g room v pick L w) := by
  have hB : Hid (Below w.heap.size w (w.alloc (.cells #[.int .u32 0, .int .u16 0, .int .u32 0, .int .u16 0, .string ⟨#[]⟩, .int .u64 0] 68))) := (Below.refl _ w).alloc (Nat.le_refl _) _
  have X := Lib.hid (Cs.new w [.int .u32 0, .int .u16 0, .int .u32 0, .int .u16 0, .string ⟨#[]⟩, .int .u64 0] 68)
  have h0 := h.keep hB.out
  have F := rpick_any pick hp g room v L _ h0
  have HLT := Lib.hid h.lt
  have HH := Lib.hid h
  unfold dropPost TakePost
  rcases pick_cases 18446744073709551615 pick L with ⟨e1, hq, he, he15⟩ | ⟨j, hq⟩
  · obtain ⟨q1, q2⟩ := take_bad hq he
    rw [q1, q2, hq]
    rw [hq] at F
    have he2 : (e1 == 0) = false := by rw [beq_eq_false_iff_ne]; exact he
    clear h h0 q1 q2 hq he he15
    go_enter Try.func27, Try.ntmps27
    go_wp2_with fail
    (with_reducible refine F.mono ?_); rintro e w1 ⟨rfl, rfl⟩
    go_wp2_with fail
    refine bodyPost_ret (v := (.tuple #[.agg #[.int .u32 0, .int .u16 0, .int .u32 0, .int .u16 0, .string ⟨#[]⟩, .int .u64 0], .int .i64 e1])) (by simp [results, Try.results27, go_sem, *]) rfl ?_
    exact ⟨rfl, HH.out.same hB.out⟩
  · obtain ⟨hj, q1, q2⟩ := take_good hq
    rw [q1, q2, hq]
    rw [hq] at F
    have CT := cut_any g room j v L hj _ h0
    generalize L[j] = y at *
    obtain ⟨y1, y2, y3, y4, y5, y6⟩ := y
    clear h h0 q1 q2 hq
    go_enter Try.func27, Try.ntmps27
    go_wp2_with fail
    (with_reducible refine F.mono ?_); rintro e w1 ⟨rfl, rfl⟩
    clear F
    go_wp2_with fail
    (with_reducible refine CT.mono ?_); rintro e w3 hA
    obtain ⟨rfl, hA⟩ := hA
    have X1 : Cs w.heap.size [.int .u32 0, .int .u16 0, .int .u32 0, .int .u16 0, .string ⟨#[]⟩, .int .u64 0] w3 := X.out.touch hA.choose_spec.2.1 (fun hk => Nat.lt_irrefl _ (HLT.out _ hk))
    have x0 := X1.cell 0 _ rfl
    have x1 := X1.cell 1 _ rfl
    have x2 := X1.cell 2 _ rfl
    have x3 := X1.cell 3 _ rfl
    have x4 := X1.cell 4 _ rfl
    have x5 := X1.cell 5 _ rfl
    have xf0 := X1.free 0 _ rfl
    have xf1 := X1.free 1 _ rfl
    have xf2 := X1.free 2 _ rfl
    have xf3 := X1.free 3 _ rfl
    have xf4 := X1.free 4 _ rfl
    have xf5 := X1.free 5 _ rfl
    have xl := X1.lt
    have HA := Lib.hid hA
    clear X1 hA CT
    go_wp2_with fail
    refine bodyPost_ret (v := (.tuple #[.agg #[.int .u32 y1, .int .u16 y2, .int .u32 y3, .int .u16 y4, .string y5, .int .u64 y6], .int .i64 0])) (by simp [results, Try.results27, go_sem, *]) rfl ?_
    refine ⟨rfl, ?_⟩
    have ht := Touch.sets (F := fun b => b = w.heap.size) (Touch.refl _ w3) w.heap.size (fun _ => rfl) (ci ⟨y1, y2, y3, y4, y5, y6⟩) 0
    exact Aft.fin hB.out HA.out (Nat.le_refl _) X.out.lt HLT.out ht
end Go.Proofs.Ytoclhckcgjmhjaa
