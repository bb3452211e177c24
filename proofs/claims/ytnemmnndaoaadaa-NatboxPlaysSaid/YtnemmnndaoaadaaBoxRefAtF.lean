/- The reference's box: at, where the binding is there. -/
import Derived.Test.YtnemmnndaoaadaaBoxRefCut
namespace Go.Proofs.Ytnemmnndaoaadaa
open Go.Sort Go.RowKit Go.BigFrame
set_option linter.unusedVariables false
set_option linter.unusedSimpArgs false

theorem rrow_rd {b : Nat} {w : World} {a : Option Addr} {n cap : Nat} {L : List Bd} (h : RfRow b w (.slice a n cap) L) : RdB w a L := fun hp => by
  rcases rrow_form h with ⟨_, rfl⟩ | ⟨g, cap', h1, hlt⟩
  · simp at hp
  · simp only [Value.slice.injEq] at h1
    obtain ⟨rfl, rfl, rfl⟩ := h1
    obtain ⟨_, C, hC, _, ht, _⟩ := rrow_open h
    exact ⟨g, 0, rfl, hlt, fun i x hx k v hv => by rw [Nat.zero_add]; exact hC.cell i k _ v (take_at ht hx) hv⟩
def RAtF (j : Nat) (w : World) (iv : Value) (wr : World) : Prop := ∃ i : Nat, i ≤ j ∧ iv = .int .i64 (i : Nat) ∧ Below w.heap.size w wr
set_option maxHeartbeats 3200000 in
set_option maxRecDepth 100000 in
theorem rat_found (g j : Nat) (m f ip hold si sp ki kp : Int) (room : Nat) (v : Sl) (L : List Bd) (hj : j < L.length) (hy : isP si sp ki kp L[j].1 = true) (hn : ∀ i (h : i < L.length), i < j → isP si sp ki kp L[i].1 = false) (hl : L.length ≤ 64) (hvn : v.n = L.length) (w : World) (hx : Cs g (bcells m f ip hold room v) w) (hr : RdB w v.a L) :
    Calls Try.prog 37 #[.pointer (some ⟨g, 0, none⟩), .agg #[.int .u32 si, .int .u16 sp], .agg #[.int .u32 ki, .int .u16 kp]] w fun e w' => e = .returned (.int .i64 (j : Nat)) ∧ Below w.heap.size w w' := by
  obtain ⟨a, n, c⟩ := v
  simp only at hvn hr
  subst hvn
  have hB : Hid (Below w.heap.size w ((w.alloc (.cells #[.int .u32 si, .int .u16 sp] 44)).alloc (.cells #[.int .u32 ki, .int .u16 kp] 44))) := by show Below _ _ _; (repeat (first | with_reducible exact Below.refl _ _ | with_reducible refine Below.drew ?_ | with_reducible refine below_drewN ?_ _ | with_reducible refine Below.alloc ?_ (by first | omega | (simp; done) | (simp; omega)) _ | with_reducible refine Below.setCell ?_ (by first | omega | (simp; done) | (simp; omega)) _))
  have HX := Lib.hid hx
  have HR := Lib.hid hr
  have HY := Lib.hid hy
  have HN := Lib.hid hn
  have hl2 : (L.length : Int) ≤ 64 := by omega
  clear hx hr hy hn
  go_enter Try.func37, Try.ntmps37
  go_wp2_with fail
  have hA : Hid (w.heap.size + 1 < ((w.alloc (.cells #[.int .u32 si, .int .u16 sp] 44)).alloc (.cells #[.int .u32 ki, .int .u16 kp] 44)).heap.size) := by show _ < _; simp
  have X4 : Hid (Cs w.heap.size [.int .u32 si, .int .u16 sp] ((w.alloc (.cells #[.int .u32 si, .int .u16 sp] 44)).alloc (.cells #[.int .u32 ki, .int .u16 kp] 44))) := (Cs.new w [.int .u32 si, .int .u16 sp] 44).alloc _
  have X5 : Hid (Cs (w.heap.size + 1) [.int .u32 ki, .int .u16 kp] ((w.alloc (.cells #[.int .u32 si, .int .u16 sp] 44)).alloc (.cells #[.int .u32 ki, .int .u16 kp] 44))) := by
    show Cs _ _ _
    have := Cs.new (w.alloc (.cells #[.int .u32 si, .int .u16 sp] 44)) [.int .u32 ki, .int .u16 kp] 44
    rw [World.size_alloc] at this
    exact this
  generalize (w.alloc (.cells #[.int .u32 si, .int .u16 sp] 44)).alloc (.cells #[.int .u32 ki, .int .u16 kp] 44) = wA at *
  go_loopw [7] (fun iv wr => RAtF j wA iv wr) (fun iv _ => j - (intOf iv).toNat)
  case atStart => exact ⟨0, Nat.zero_le _, rfl, Below.refl _ _⟩
  case round =>
    obtain ⟨i, hi, rfl, hb⟩ := hrel
    have hi0 : (0 : Int) ≤ i := by omega
    have hlt : i < L.length := by omega
    have hlt' : (i : Int) < L.length := by omega
    have HB := Lib.hid (hB.out.trans (hb.mono hB.out.size))
    have HB2 := Lib.hid hb
    have X := HX.out.keep HB.out
    have x5 := X.cell 5 _ rfl
    have gl := X.lt
    have Y4 := X4.out.keep hb
    have Y5 := X5.out.keep hb
    have y40 := Y4.cell 0 _ rfl
    have y41 := Y4.cell 1 _ rfl
    have y50 := Y5.cell 0 _ rfl
    have y51 := Y5.cell 1 _ rfl
    have gl4 := Y4.lt
    have gl5 := Y5.lt
    obtain ⟨b, off, rfl, hbl, hcc⟩ := (HR.out.keep HB.out) (by omega)
    have hx : L[i]? = some L[i] := List.getElem?_eq_getElem hlt
    have c0 := hcc i _ hx 0 _ rfl
    have c1 := hcc i _ hx 1 _ rfl
    have c2 := hcc i _ hx 2 _ rfl
    have c3 := hcc i _ hx 3 _ rfl
    have HP : Hid (isP si sp ki kp L[i].1 = decide (i = j)) := by
      show _ = _
      rcases Nat.lt_or_eq_of_le hi with h | h
      · rw [HN.out i hlt h, decide_eq_false (by omega)]
      · subst h; rw [HY.out, decide_eq_true rfl]
    generalize L[i] = y at *
    obtain ⟨⟨y1, y2, y3, y4, y5, y6, y7⟩, ⟨s1, s2, s3⟩⟩ := y
    simp only [Nat.add_zero] at c0 c1 c2 c3
    clear hcc hx X Y4 Y5 hb
    by_cases hij : i = j
    · subst hij
      obtain ⟨⟨rfl, rfl⟩, rfl, rfl⟩ : (y1 = si ∧ y2 = sp) ∧ y3 = ki ∧ y4 = kp := by
        have := HP.out
        rw [decide_eq_true rfl] at this
        unfold isP at this
        simpa using this
      clear HP
      go_wp2_with fail
      go_quiet (fail)
      go_wp2
      go_ret
      exact ⟨rfl, below_drewN HB.out _⟩
    · have HI1 : Hid (i + 1 ≤ j) := by show _ ≤ _; omega
      have hneP : ¬ ((y1 = si ∧ y2 = sp) ∧ y3 = ki ∧ y4 = kp) := by
        intro h
        have := HP.out
        rw [decide_eq_false hij] at this
        unfold isP at this
        obtain ⟨⟨rfl, rfl⟩, rfl, rfl⟩ := h
        simp at this
      clear HP
      by_cases e1 : y1 = si
      · by_cases e2 : y2 = sp
        · by_cases e3 : y3 = ki
          · have e4 : ¬ y4 = kp := fun h => hneP ⟨⟨e1, e2⟩, e3, h⟩
            clear hneP
            go_wp2
            go_quiet (fail)
            go_wp2
            go_roundw
            case rel => exact ⟨i + 1, HI1.out, by go_num, below_drewN HB2.out _⟩
            case measure => have := HI1.out; simp [intOf]; omega
          · clear hneP
            go_wp2
            go_quiet (fail)
            go_wp2
            go_roundw
            case rel => exact ⟨i + 1, HI1.out, by go_num, below_drewN HB2.out _⟩
            case measure => have := HI1.out; simp [intOf]; omega
        · clear hneP
          go_wp2
          go_quiet (fail)
          go_wp2
          go_roundw
          case rel => exact ⟨i + 1, HI1.out, by go_num, below_drewN HB2.out _⟩
          case measure => have := HI1.out; simp [intOf]; omega
      · clear hneP
        go_wp2
        go_quiet (fail)
        go_wp2
        go_roundw
        case rel => exact ⟨i + 1, HI1.out, by go_num, below_drewN HB2.out _⟩
        case measure => have := HI1.out; simp [intOf]; omega
end Go.Proofs.Ytnemmnndaoaadaa
