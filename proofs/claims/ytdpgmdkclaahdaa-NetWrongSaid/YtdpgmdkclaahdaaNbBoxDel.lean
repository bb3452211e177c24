/- slices.DeleteFunc over a slice of bindings, whatever the closure. -/
import Derived.Test.YtdpgmdkclaahdaaNbBoxRow
namespace Go.Proofs.Ytdpgmdkclaahdaa.Nb
open Go.Sort Go.RowKit Go.BigFrame
set_option linter.unusedVariables false
set_option linter.unusedSimpArgs false

/-- what stays -/
def keepL (p : Pb → Bool) (L : List Bd) : List Bd := L.filter fun x => !p x.1
theorem keep_none {p : Pb → Bool} {L : List Bd} (h : ∀ x ∈ L, p x.1 = false) : keepL p L = L := by
  unfold keepL; rw [List.filter_eq_self]; intro x hx; rw [h x hx]; rfl
theorem keep_take_no {p : Pb → Bool} {L : List Bd} {j : Nat} (h : j < L.length) (h1 : p L[j].1 = false) : keepL p (L.take (j + 1)) = keepL p (L.take j) ++ [L[j]] := by
  unfold keepL; rw [List.take_succ_eq_append_getElem h, List.filter_append]; simp [h1]
theorem keep_take_yes {p : Pb → Bool} {L : List Bd} {j : Nat} (h : j < L.length) (h1 : p L[j].1 = true) : keepL p (L.take (j + 1)) = keepL p (L.take j) := by
  unfold keepL; rw [List.take_succ_eq_append_getElem h, List.filter_append]; simp [h1]
theorem keep_len (p : Pb → Bool) (L : List Bd) : (keepL p L).length ≤ L.length := List.length_filter_le _ _
def blk (g : Nat) (k : Nat) : Prop := k = g
def DelPost (p : Pb → Bool) (a : Option Addr) (cap : Nat) (L : List Bd) (w : World) (e : Ending) (w' : World) : Prop :=
  e = .returned (.slice a (keepL p L).length cap) ∧ BRow w' (.slice a (keepL p L).length cap) (keepL p L) ∧ Touch (fun k => (Value.slice a 0 0).ownBlock = some k) w w'
structure DelS (p : Pb → Bool) (g : Nat) (L : List Bd) (C : List (List Value)) (i j : Nat) (w wr : World) : Prop where
  row : Rw 7 g 107 C wr
  head : C.take i = (keepL p (L.take j)).map ch
  len : i = (keepL p (L.take j)).length
  rest : ∀ k x, j ≤ k → L[k]? = some x → C[k]? = some (ch x)
  jl : j ≤ L.length
  ij : i < j
  touch : Touch (fun k => (Value.slice (some ⟨g, 0, none⟩) 0 0).ownBlock = some k) w wr
def DelJ (p : Pb → Bool) (g cap : Nat) (L : List Bd) (w : World) (vi vj : Value) (wr : World) : Prop := ∃ i j C, C.length = cap ∧ vi = .int .i64 (i : Nat) ∧ vj = .int .i64 (j : Nat) ∧ DelS p g L C i j w wr
theorem zero_bind : ∀ w, (zeroValue 107).run Try.prog w = .ok (.agg #[.int .u32 0, .int .u16 0, .int .u32 0, .int .u16 0, .int .u16 0, .slice none 0 0, .int .u64 0]) w := fun w => by kernel_rfl
theorem DelS.yes {p : Pb → Bool} {g : Nat} {L : List Bd} {C : List (List Value)} {i j : Nat} {w wr w2 : World} (h : DelS p g L C i j w wr) (hj : j < L.length) (hp : p L[j].1 = true) (b : Touch (fun _ => False) wr w2) : DelS p g L C i (j + 1) w w2 :=
  ⟨h.row.touch b (fun h => h), by rw [keep_take_yes hj hp]; exact h.head, by rw [keep_take_yes hj hp]; exact h.len, fun k x hk hx => h.rest k x (by omega) hx, hj, by have := h.ij; omega, h.touch.trans b (fun _ _ h => h.elim)⟩
theorem DelS.no {p : Pb → Bool} {g : Nat} {L : List Bd} {C : List (List Value)} {i j : Nat} {w wr w2 : World} (h : DelS p g L C i j w wr) (hj : j < L.length) (hp : p L[j].1 = false) (hC : i < C.length) (b : Touch (fun k => (Value.slice (some ⟨g, 0, none⟩) 0 0).ownBlock = some k) wr w2)
    (hr : Rw 7 g 107 (C.set i (ch L[j])) w2) : DelS p g L (C.set i (ch L[j])) (i + 1) (j + 1) w w2 := by
  refine ⟨hr, ?_, ?_, fun k x hk hx => ?_, hj, by have := h.ij; omega, h.touch.trans b (fun _ _ h => h)⟩
  · have e : (C.set i (ch L[j]))[i]? = some (ch L[j]) := by rw [List.getElem?_set_self hC]
    have e2 : (C.set i (ch L[j])).take (i + 1) = (C.set i (ch L[j])).take i ++ [ch L[j]] := by rw [List.take_add_one, e]; rfl
    rw [e2, keep_take_no hj hp, List.map_append, ← h.head, List.take_set_of_le (Nat.le_refl _)]; rfl
  · rw [keep_take_no hj hp, List.length_append, ← h.len]; rfl
  · rw [List.getElem?_set_ne (by have := h.ij; omega)]; exact h.rest k x (by omega) hx
theorem seven {c : List Value} (h : c.length = 7) : ∃ y0 y1 y2 y3 y4 y5 y6, c = [y0, y1, y2, y3, y4, y5, y6] := by
  match c, h with
  | [a, b, c, d, e, f, g], _ => exact ⟨a, b, c, d, e, f, g, rfl⟩
set_option maxHeartbeats 3200000 in
theorem delF_any (N : Nat) (hN : Enters N) (caps : Array Value) (p : Pb → Bool) (a : Option Addr) (cap : Nat) (L : List Bd) (hl : L.length ≤ 1000) (w : World) (hr : BRow w (.slice a L.length cap) L)
    (hc : ∀ x, x ∈ L → ∀ w', Touch (fun k => (Value.slice a 0 0).ownBlock = some k) w w' → Calls Try.prog N (#[.agg #[.int .u32 x.1.ii, .int .u16 x.1.ip, .int .u32 x.1.ki, .int .u16 x.1.kp, .int .u16 x.1.po, .slice x.2.a x.2.n x.2.c, .int .u64 x.1.un]] ++ caps) w' fun e w'' => e = .returned (.bool (p x.1)) ∧ Below w'.heap.size w' w'') :
    Calls Try.prog 69 #[.slice a L.length cap, .func (.func N) #[] caps] w (DelPost p a cap L w) := by
  have hE : ∀ args w, (callFunc N args).run Try.prog w = .ok (.enter N args) w := hN
  have I := idxF_any N hN caps p a cap L hl w (brow_rd hr) (fun x hx w' hb => hc x hx w' (Touch.of_below _ hb))
  have HR := Lib.hid hr
  have HC := Lib.hid hc
  clear hr hc
  go_enter Try.func69, Try.ntmps69
  go_wp2_with fail
  refine I.mono ?_; rintro e w1 ⟨v, rfl, hv, b1⟩
  rcases hv with ⟨rfl, hno⟩ | ⟨j, hj, rfl, hy, hno⟩
  · have F : Hid (keepL p L = L) := keep_none hno
    clear hno
    go_wp2_with fail
    go_ret
    refine ⟨?_, ?_, ?_⟩
    · rw [F.out]; rfl
    · rw [F.out]; exact brow_touch HR.out (Touch.of_below (fun _ => False) b1) (fun _ _ h => h)
    · exact Touch.of_below _ b1
  · have hj0 : ((j : Int) == -1) = false := by rw [beq_eq_false_iff_ne]; omega
    have hj1 : (0 : Int) ≤ j := by omega
    obtain ⟨g, rfl⟩ : ∃ g, a = some ⟨g, 0, none⟩ := by
      rcases brow_form HR.out with ⟨_, rfl⟩ | ⟨g, _, h1, _⟩
      · simp at hj
      · simp at h1; exact ⟨g, h1.1⟩
    obtain ⟨_, C0, hC0, hcap, ht0, hlc, hm⟩ := brow_open HR.out
    have S0 : Hid (DelS p g L C0 j (j + 1) w w1) := by
      have e1 := keep_take_yes (p := p) hj hy
      have e2 : keepL p (L.take j) = L.take j := keep_none hno
      have e3 : (L.take j).length = j := by rw [List.length_take]; omega
      refine ⟨hC0.touch (Touch.of_below (fun _ => False) b1) (fun h => h), ?_, ?_, fun k x _ hx => take_at ht0 hx, by omega, by omega, Touch.of_below _ b1⟩
      · rw [e1, e2, List.map_take, ← ht0, List.take_take, Nat.min_eq_left (by omega)]
      · rw [e1, e2, e3]
    have HM := Lib.hid hcap
    have hl2 : (L.length : Int) ≤ 1000 := by omega
    have hj2 : (j : Int) < L.length := by omega
    clear hno hy hC0 ht0 hcap
    unfold maxLen at hm
    go_wp2_with fail
    go_loopw [5, 6] (fun i j wr => DelJ p g cap L w i j wr) (fun _ j _ => L.length - (intOf j).toNat)
    case atStart => exact ⟨j, j + 1, C0, HM.out, rfl, by go_num, S0.out⟩
    case round =>
      obtain ⟨i2, j2, C, hcap, rfl, rfl, hS⟩ := hrel
      clear S0 HM hj0 hj1 hj2 hj
      have hij := hS.ij
      have hjl := hS.jl
      by_cases hlt : j2 < L.length
      · have hlt' : (j2 : Int) < L.length := by omega
        have hj0 : (0 : Int) ≤ j2 := by omega
        have hi0 : (0 : Int) ≤ i2 := by omega
        have hil : i2 < L.length := by omega
        have hil' : (i2 : Int) < L.length := by omega
        have hx : L[j2]? = some L[j2] := List.getElem?_eq_getElem hlt
        have hcc := fun k v => hS.row.cell j2 k (ch L[j2]) v (hS.rest j2 _ (Nat.le_refl _) hx)
        have c0 := hcc 0 _ rfl
        have c1 := hcc 1 _ rfl
        have c2 := hcc 2 _ rfl
        have c3 := hcc 3 _ rfl
        have c4 := hcc 4 _ rfl
        have c5 := hcc 5 _ rfl
        have c6 := hcc 6 _ rfl
        have gl := hS.row.lt
        have HS := Lib.hid hS
        have HNO := Lib.hid (fun w2 => DelS.no (w2 := w2) hS hlt)
        have HY := Lib.hid (fun w2 => DelS.yes (w2 := w2) hS hlt)
        have N1 := fun o => HC.out L[j2] (List.getElem_mem hlt) (wr.alloc o) (hS.touch.alloc o)
        have hiC : i2 < C.length := by rw [hcap]; omega
        obtain ⟨y, hy⟩ : ∃ y, C[i2]? = some y := ⟨_, List.getElem?_eq_getElem hiC⟩
        obtain ⟨y0, y1, y2, y3, y4, y5, y6, rfl⟩ := seven (hS.row.all _ (List.mem_of_getElem? hy))
        have HY2 := Lib.hid hy
        have HIC := Lib.hid hiC
        have HCAP := Lib.hid hcap
        generalize L[j2] = r at *
        obtain ⟨⟨r1, r2, r3, r4, r5, r6, r7⟩, ⟨s1, s2, s3⟩⟩ := r
        simp only [Nat.add_zero] at c0 c1 c2 c3 c4 c5 c6 N1 HNO HY
        clear hcc hx hS HC hy hiC hcap
        have X := Lib.hid (Cs.new wr [.int .u32 r1, .int .u16 r2, .int .u32 r3, .int .u16 r4, .int .u16 r5, .slice s1 s2 s3, .int .u64 r6] 107)
        generalize hq : p ⟨r1, r2, r3, r4, r5, r6, r7⟩ = q at *
        clear hq
        cases q
        · go_wp2_with fail
          refine (N1 _).mono ?_; rintro e w2 ⟨rfl, b2⟩
          have TT : Hid (Touch (fun _ => False) wr w2) := ((Touch.refl _ wr).alloc _).trans (Touch.of_below (fun _ => False) b2) (fun _ _ h => h)
          have R2 := Lib.hid (HS.out.row.touch TT.out (fun h => h))
          have X2 := X.out.keep b2
          have x0 := X2.cell 0 _ rfl
          have x1 := X2.cell 1 _ rfl
          have x2 := X2.cell 2 _ rfl
          have x3 := X2.cell 3 _ rfl
          have x4 := X2.cell 4 _ rfl
          have x5 := X2.cell 5 _ rfl
          have x6 := X2.cell 6 _ rfl
          have xl := X2.lt
          have d0 := R2.out.cell i2 0 _ _ HY2.out rfl
          have d1 := R2.out.cell i2 1 _ _ HY2.out rfl
          have d2 := R2.out.cell i2 2 _ _ HY2.out rfl
          have d3 := R2.out.cell i2 3 _ _ HY2.out rfl
          have d4 := R2.out.cell i2 4 _ _ HY2.out rfl
          have d5 := R2.out.cell i2 5 _ _ HY2.out rfl
          have d6 := R2.out.cell i2 6 _ _ HY2.out rfl
          have f0 := fun o => R2.out.free o
          have gl2 := R2.out.lt
          simp only [Nat.add_zero] at d0
          clear b2 N1 X X2 c0 c1 c2 c3 c4 c5 c6 HY
          go_wp2_with fail
          go_roundw
          case rel =>
            refine ⟨i2 + 1, j2 + 1, C.set i2 (ch (⟨r1, r2, r3, r4, r5, r6, r7⟩, ⟨s1, s2, s3⟩)), by rw [List.length_set]; exact HCAP.out, by go_num, by go_num, HNO.out _ trivial HIC.out ?_ (R2.out.put i2 (ch (⟨r1, r2, r3, r4, r5, r6, r7⟩, ⟨s1, s2, s3⟩)) rfl HIC.out)⟩
            exact Touch.sets (F := fun k => (Value.slice (some ⟨g, 0, none⟩) 0 0).ownBlock = some k) (TT.out.mono (fun _ _ h => h.elim)) g (fun _ => rfl) (ch (⟨r1, r2, r3, r4, r5, r6, r7⟩, ⟨s1, s2, s3⟩)) (i2 * 7)
          case measure => simp [intOf]; omega
        · go_wp2_with fail
          refine (N1 _).mono ?_; rintro e w2 ⟨rfl, b2⟩
          have TT : Hid (Touch (fun _ => False) wr w2) := ((Touch.refl _ wr).alloc _).trans (Touch.of_below (fun _ => False) b2) (fun _ _ h => h)
          clear b2 N1 X c0 c1 c2 c3 c4 c5 c6 HNO
          go_wp2_with fail
          go_roundw
          case rel => exact ⟨i2, j2 + 1, C, HCAP.out, rfl, by go_num, HY.out w2 trivial TT.out⟩
          case measure => simp [intOf]; omega
      · obtain rfl : j2 = L.length := by omega
        have hlen := hS.len
        have hhead := hS.head
        rw [List.take_length] at hlen hhead
        have hi0 : (0 : Int) ≤ i2 := by omega
        have hi1 : (i2 : Int) < L.length := by omega
        have hi2 : i2 < L.length := by omega
        obtain ⟨w9, hrun, ⟨D, hD, hDl⟩, hg⟩ := run_clear_z (P := Try.prog) wr 86 107 _ 7 g i2 (L.length - i2) (cap - i2) C Try.underlying86 zero_bind rfl (by simp [Value.cells, Value.oneCell']) (by decide) hS.row (by rw [hcap]; omega)
        have HD : Hid (BRow w9 (.slice (some ⟨g, 0, none⟩) (keepL p L).length cap) (keepL p L)) := by
          have e1 : (splice C i2 D).length = cap := by rw [length_splice _ _ _ (by rw [hDl, hcap]; omega)]; exact hcap
          have e2 : (splice C i2 D).take i2 = C.take i2 := by
            simp only [splice]
            rw [List.take_append_of_le_length (by rw [List.length_take]; omega), List.take_take, Nat.min_self]
          have := brow_close (L := keepL p L) hD (by rw [← hlen, e2]; exact hhead) (by rw [← hlen, e1]; omega) (by rw [e1]; unfold maxLen; omega)
          rw [e1] at this
          exact this
        have HT : Hid (Touch (fun k => (Value.slice (some ⟨g, 0, none⟩) 0 0).ownBlock = some k) w w9) := hS.touch.trans (Touch.of_grown hg (fun k h => h)) (fun _ _ h => h)
        have HL := Lib.hid hlen
        clear hS hlen hhead hD hg hDl HC hcap
        go_wp2_with fail
        go_ret
        refine ⟨?_, HD.out, HT.out⟩
        rw [← HL.out]; rfl
end Go.Proofs.Ytdpgmdkclaahdaa.Nb