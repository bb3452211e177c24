/- The statement BagRoom: for any room of 1 to 20, however many are put, and however long a datagram is: there is room for just so many; what is none is refused, and what was refused leaves all as it was. No conditions. -/
import Derived.Test.YtnaghagcaiolmaaBagTwiceLaw
namespace Go.Proofs.Ytnaghagcaiolmaa
open Go.Sort Go.RowKit Go.BigFrame Go.ChangeShapes Go.WideShapes Go.ChangeAt
open Go.ChangeMaps (open_string shut_string)
set_option linter.unusedVariables false
set_option linter.unusedSimpArgs false

theorem info_u8 : (Try.prog.info? 5).map (fun i => (i.zero, i.size, i.bytes)) = some (some (.int .u8 0), 1, 1) := by kernel_rfl
/-- bytes that are all 0 -/
def zeros (n : Nat) : ByteArray := ⟨(List.replicate n (0 : UInt8)).toArray⟩
theorem zeros_list (n : Nat) : (zeros n).data.toList = List.replicate n 0 := by simp [zeros]
theorem zeros_size (n : Nat) : (zeros n).size = n := by rw [Lib.size_eq, zeros_list, List.length_replicate]
theorem conv_zeros (W : World) (n : Nat) : (convert 65 9 (.slice (some ⟨W.heap.size, 0, none⟩) n n)).run Try.prog (W.alloc (.cells (madeCells #[.int .u8 0] n) 5)) = .ok (.string (zeros n)) (W.alloc (.cells (madeCells #[.int .u8 0] n) 5)) := by
  have hrow := World.rowIs_made W (.int .u8 0) n 5
  have h := run_convert_bytes_back (P := Try.prog) (W.alloc (.cells (madeCells #[.int .u8 0] n) 5)) 65 9 5 ⟨W.heap.size, 0, none⟩ n (List.replicate n 0) Try.underlying65 Try.underlying5 Try.underlying9 (fun j hj => by
    rw [List.length_replicate] at hj
    have hc := hrow.cell hj
    rw [add_at, Nat.zero_add, hc]
    simp [hj])
  rw [List.length_replicate] at h
  exact h
def mL (k i : Nat) : List Pi := List.replicate (min i k) (ltX 0)
theorem mL_len (k i : Nat) : (mL k i).length = min i k := by simp [mL]
theorem putE_lt {k i : Nat} (h : i < k) : putE k (ltX 0) (mL k i) = 0 ∧ putL k (ltX 0) (mL k i) = mL k (i + 1) := by
  obtain ⟨e1, e2⟩ := put_good (room := k) (x := ltX 0) (L := mL k i) rfl (by decide) (by rw [mL_len]; omega)
  refine ⟨e1, e2.trans ?_⟩
  unfold mL
  rw [Nat.min_eq_left (by omega), Nat.min_eq_left (by omega), List.replicate_succ']
theorem putE_ge {k i : Nat} (h : ¬ i < k) : putE k (ltX 0) (mL k i) = 4 ∧ putL k (ltX 0) (mL k i) = mL k (i + 1) := by
  obtain ⟨e1, e2⟩ := put_full (room := k) (x := ltX 0) (L := mL k i) rfl (by decide) (by rw [mL_len]; omega)
  refine ⟨e1, e2.trans ?_⟩
  unfold mL
  rw [Nat.min_eq_right (by omega), Nat.min_eq_right (by omega)]
def mz (z : ByteArray) : Pi := ⟨1, 1, 2, 2, z, 0⟩
/-- whatever is dropped, there is room then -/
theorem drop_room {k i : Nat} (hk : 1 ≤ k) : (takeL 18446744073709551615 0 (mL k i)).length < k := by
  by_cases h : (pickE 18446744073709551615 0 (mL k i)).2 = 0
  · have hj : (pickE 18446744073709551615 0 (mL k i)).1 < (mL k i).length := pick_lt (now := 18446744073709551615) (pick := 0) (Prod.ext rfl h)
    unfold takeL
    rw [if_pos h, length_erase hj, mL_len]
    rw [mL_len] at hj
    omega
  · unfold takeL
    rw [if_neg h, mL_len]
    have e : pickE 18446744073709551615 0 (mL k i) = if (0 : Int) < 0 then (0, 1) else if (mL k i).length = 0 then (0, 5) else ((0 : Int).toNat % (mL k i).length, 0) := pick_ever (fun y hy => by
      obtain rfl := List.eq_of_mem_replicate hy
      exact ltX_ok (by omega) (by omega))
    rw [if_neg (by omega), mL_len] at e
    by_cases h0 : min i k = 0
    · omega
    · rw [if_neg h0] at e; rw [e] at h; exact absurd rfl h
def RoomJ (B xb g k m : Nat) (w : World) (iv : Value) (wr : World) : Prop := ∃ i : Nat, i ≤ m ∧ iv = .int .i64 (i : Nat) ∧ L1 B [(xb, ci (ltX 0))] g k (mL k i) wr ∧ Below B w wr
set_option maxHeartbeats 32000000 in
set_option maxRecDepth 100000 in
theorem bagRoom_walk (a b s : Int) (k m n : Nat) (ha : a.tmod 20 + 1 = (k : Int)) (hb : b.tmod 30 = (m : Int)) (hs : s.tmod 1200 = (n : Int)) (ha0 : 0 ≤ a) (ha1 : a ≤ 255) (hb0 : 0 ≤ b) (hb1 : b ≤ 255) (hs0 : 0 ≤ s) (hs1 : s ≤ 65535) (hk1 : 1 ≤ k) (hk2 : k ≤ 20) (hm : m < 30) (hn : n < 1200) (w : World) :
    Calls Try.prog 6 #[.int .u8 a, .int .u8 b, .int .u16 s] w fun e w' => e = .returned (.bool true) ∧ Below w.heap.size w w' := by
  obtain ⟨q, hq⟩ : ∃ q : Int, a.tmod 20 = q := ⟨_, rfl⟩
  have hqk : 1 + q = (k : Int) := by omega
  have c1 := IntWalk.i64_in q ⟨by omega, by omega⟩
  have c2 := IntWalk.i64_in (m : Int) ⟨by omega, by omega⟩
  have c3 := IntWalk.i64_in (n : Int) ⟨by omega, by omega⟩
  have mk1 := run_make_row' (P := Try.prog) 65 5 (.int .u8 0) 1 Try.underlying65 info_u8 rfl .i64 .i64 n (by omega) (by omega)
  have cv := fun W => conv_zeros W n
  have hzs := zeros_size n
  generalize zeros n = z at *
  clear ha
  go_enter Try.func6, Try.ntmps6
  go_wp2_with fail
  refine (examples_yes _).mono ?_; rintro e w1 ⟨rfl, b1⟩
  have hB := Lib.hid b1
  have T := newL (B := w.heap.size) (l := []) (room := k) (w := w1) b1.size (Cl.nil w1) hk1 (by omega)
  clear b1
  go_wp2_with fail
  refine T.mono ?_; rintro e w2 ⟨g, rfl, h2, b2⟩
  replace hB := Lib.hid ((hB.out.trans (b2.mono hB.out.size)).alloc (hB.out.trans (b2.mono hB.out.size)).size (.cells #[.int .u32 1, .int .u16 1, .int .u32 2, .int .u16 2, .string ⟨#[109]⟩, .int .u64 0] 37))
  have H3 := Lib.hid (h2.alloc [.int .u32 1, .int .u16 1, .int .u32 2, .int .u16 2, .string ⟨#[109]⟩, .int .u64 0] 37)
  have hxb : Hid (w.heap.size ≤ w2.heap.size) := h2.lo
  clear b2 h2 T
  go_wp2_with fail
  generalize (w2.alloc (.cells #[.int .u32 1, .int .u16 1, .int .u32 2, .int .u16 2, .string ⟨#[109]⟩, .int .u64 0] 37)) = w3 at *
  generalize w2.heap.size = xb at *
  go_loopw [12] (fun iv wr => RoomJ w.heap.size xb g k m w iv wr) (fun i _ => m - (intOf i).toNat)
  case atStart => exact ⟨0, Nat.zero_le _, rfl, H3.out, hB.out⟩
  case round =>
    obtain ⟨i, hi, rfl, hL, hb'⟩ := hrel
    clear H3 hB
    have hi0 : (0 : Int) ≤ i := by omega
    by_cases hlt : i < m
    · have hlt' : (i : Int) < m := by omega
      have hi6 : (i : Int) ≤ 30 := by omega
      have x0 := hL.hd.cell 0 _ rfl
      have x1 := hL.hd.cell 1 _ rfl
      have x2 := hL.hd.cell 2 _ rfl
      have x3 := hL.hd.cell 3 _ rfl
      have x4 := hL.hd.cell 4 _ rfl
      have x5 := hL.hd.cell 5 _ rfl
      have xl := hL.hd.lt
      simp only [ltX] at x0 x1 x2 x3 x4 x5
      have HB := Lib.hid hb'
      have HI1 : Hid (i + 1 ≤ m) := hlt
      by_cases hik : i < k
      · have hd : decide ((i : Int) < (k : Int)) = true := decide_eq_true (by omega)
        obtain ⟨e1, e2⟩ := putE_lt hik
        have T := hL.put 1 1 2 2 ⟨#[109]⟩ 0 (by omega) (by omega) (by decide) e1 e2
        clear hL hb' e1 e2
        go_wp2_with fail
        (with_reducible refine T.mono ?_); rintro e w4 ⟨rfl, h4, b4⟩
        have H4 := Lib.hid h4
        replace HB := Lib.hid (HB.out.trans b4)
        clear T h4 b4 x0 x1 x2 x3 x4 x5 xl
        go_wp2_with fail
        go_roundw
        case rel => exact ⟨i + 1, HI1.out, by go_num, H4.out, HB.out⟩
        case measure => simp [intOf]; omega
      · have hd : decide ((i : Int) < (k : Int)) = false := decide_eq_false (by omega)
        obtain ⟨e1, e2⟩ := putE_ge hik
        have T := hL.put 1 1 2 2 ⟨#[109]⟩ 0 (by omega) (by omega) (by decide) e1 e2
        clear hL hb' e1 e2
        go_wp2_with fail
        (with_reducible refine T.mono ?_); rintro e w4 ⟨rfl, h4, b4⟩
        have H4 := Lib.hid h4
        replace HB := Lib.hid (HB.out.trans b4)
        clear T h4 b4 x0 x1 x2 x3 x4 x5 xl
        go_wp2_with fail
        go_roundw
        case rel => exact ⟨i + 1, HI1.out, by go_num, H4.out, HB.out⟩
        case measure => simp [intOf]; omega
    · obtain rfl : i = m := by omega
      have hi6 : (i : Int) ≤ 30 := by omega
      have HB := Lib.hid hb'
      have hml : ((mL k i).length : Int) = (min i k : Nat) := by rw [mL_len]
      obtain ⟨nl, hnl⟩ : ∃ nl : Nat, min i k = nl := ⟨_, rfl⟩
      rw [hnl] at hml
      have hmin : (min (i : Int) (k : Int)) = (nl : Int) := by omega
      have T := hL.lenx hml
      have HL := Lib.hid hL
      clear hL hb' hml
      have hnll : (nl : Int) ≤ 20 := by omega
      go_wp2_with fail
      (with_reducible refine T.mono ?_); rintro e w4 ⟨rfl, rfl⟩
      have x0 := HL.out.hd.cell 0 _ rfl
      have x1 := HL.out.hd.cell 1 _ rfl
      have x2 := HL.out.hd.cell 2 _ rfl
      have x3 := HL.out.hd.cell 3 _ rfl
      have x4 := HL.out.hd.cell 4 _ rfl
      have x5 := HL.out.hd.cell 5 _ rfl
      have xl := HL.out.hd.lt
      simp only [ltX] at x0 x1 x2 x3 x4 x5
      have cv2 := cv (w4.alloc (.cells #[.int .u32 1, .int .u16 1, .int .u32 2, .int .u16 2, .string ⟨#[109]⟩, .int .u64 0] 37))
      simp only [World.size_alloc] at cv2
      clear T cv
      have h5 := ((HL.out.alloc [.int .u32 1, .int .u16 1, .int .u32 2, .int .u16 2, .string z, .int .u64 0] 37).keepA (.cells (madeCells #[.int .u8 0] n) 5)).keepA (.cells #[.int .u32 1, .int .u16 1, .int .u32 1, .int .u16 0, .string ⟨#[109]⟩, .int .u64 0] 37)
      have B5 : Below w.heap.size w (((w4.alloc (.cells #[.int .u32 1, .int .u16 1, .int .u32 2, .int .u16 2, .string z, .int .u64 0] 37)).alloc (.cells (madeCells #[.int .u8 0] n) 5)).alloc (.cells #[.int .u32 1, .int .u16 1, .int .u32 1, .int .u16 0, .string ⟨#[109]⟩, .int .u64 0] 37)) := by
        have q1 := HB.out.alloc HB.out.size (.cells #[.int .u32 1, .int .u16 1, .int .u32 2, .int .u16 2, .string z, .int .u64 0] 37)
        have q2 := q1.alloc q1.size (.cells (madeCells #[.int .u8 0] n) 5)
        exact q2.alloc q2.size _
      replace HB := Lib.hid B5
      obtain ⟨e1, e2⟩ := put_none (room := k) (x := ⟨1, 1, 1, 0, ⟨#[109]⟩, 0⟩) (L := mL k i) rfl
      have T := h5.put 1 1 1 0 ⟨#[109]⟩ 0 (by omega) (by omega) (by decide) e1 e2
      clear e1 e2 h5 B5 HL
      go_wp2_with fail
      (with_reducible refine T.mono ?_); rintro e w5 ⟨rfl, h5, b5⟩
      replace HB := Lib.hid (HB.out.trans b5)
      obtain ⟨⟨y1, y2, y3, y4, y5, y6⟩, hy⟩ : ∃ y : Pi, takeX 18446744073709551615 0 (mL k i) = y := ⟨_, rfl⟩
      obtain ⟨er, her⟩ : ∃ er : Int, (pickE 18446744073709551615 0 (mL k i)).2 = er := ⟨_, rfl⟩
      have hdr := drop_room (i := i) hk1
      generalize hL2 : takeL 18446744073709551615 0 (mL k i) = L2 at *
      have T := h5.drop 0 (by omega) hy her hL2
      clear hy her hL2 h5 b5 x0 x1 x2 x3 x4 x5 xl
      go_wp2_with fail
      (with_reducible refine T.mono ?_); rintro e w6 ⟨rfl, h6, b6⟩
      replace HB := Lib.hid (HB.out.trans b6)
      have y0 := h6.hd.cell 0 _ rfl
      have y1 := h6.hd.cell 1 _ rfl
      have y2 := h6.hd.cell 2 _ rfl
      have y3 := h6.hd.cell 3 _ rfl
      have y4 := h6.hd.cell 4 _ rfl
      have y5 := h6.hd.cell 5 _ rfl
      have yl := h6.hd.lt
      by_cases hz0 : n = 0
      · have hd1 : ((n : Int) == 0) = true := by rw [beq_iff_eq]; omega
        obtain ⟨e1, e2⟩ := put_long (room := k) (x := ⟨1, 1, 2, 2, z, 0⟩) (L := L2) rfl (.inl (by show z.size = 0; omega))
        have T := h6.put 1 1 2 2 z 0 (by omega) (by omega) (by omega) e1 e2
        clear hz0 e1 e2 h6 b6
        go_wp2_with fail
        (with_reducible refine T.mono ?_); rintro e w7 ⟨rfl, h7, b7⟩
        replace HB := Lib.hid (HB.out.trans b7)
        clear y0 y1 y2 y3 y4 y5 yl
        have y4 := h7.hd.cell 4 _ rfl
        have yl := h7.hd.lt
        clear h7 b7
        go_wp2_with fail
        go_ret
        exact ⟨rfl, HB.out⟩
      · have hd1 : ((n : Int) == 0) = false := by rw [beq_eq_false_iff_ne]; omega
        by_cases hz1 : 1024 < n
        · have hd2 : decide (1024 < (n : Int)) = true := decide_eq_true (by omega)
          obtain ⟨e1, e2⟩ := put_long (room := k) (x := ⟨1, 1, 2, 2, z, 0⟩) (L := L2) rfl (.inr (by show 1024 < z.size; omega))
          have T := h6.put 1 1 2 2 z 0 (by omega) (by omega) (by omega) e1 e2
          clear e1 e2 h6 b6
          go_wp2_with fail
          (with_reducible refine T.mono ?_); rintro e w7 ⟨rfl, h7, b7⟩
          replace HB := Lib.hid (HB.out.trans b7)
          clear y0 y1 y2 y3 y4 y5 yl
          have y4 := h7.hd.cell 4 _ rfl
          have yl := h7.hd.lt
          clear h7 b7
          go_wp2_with fail
          go_ret
          exact ⟨rfl, HB.out⟩
        · have hd2 : decide (1024 < (n : Int)) = false := decide_eq_false (by omega)
          obtain ⟨e1, e2⟩ := put_good (room := k) (x := ⟨1, 1, 2, 2, z, 0⟩) (L := L2) rfl (by show ¬ (z.size = 0 ∨ 1024 < z.size); omega) (by omega)
          have T := h6.put 1 1 2 2 z 0 (by omega) (by omega) (by omega) e1 e2
          clear e1 e2 h6 b6
          go_wp2_with fail
          (with_reducible refine T.mono ?_); rintro e w7 ⟨rfl, h7, b7⟩
          replace HB := Lib.hid (HB.out.trans b7)
          clear y0 y1 y2 y3 y4 y5 yl
          have y4 := h7.hd.cell 4 _ rfl
          have yl := h7.hd.lt
          clear h7 b7
          go_wp2_with fail
          go_ret
          exact ⟨rfl, HB.out⟩
theorem bagRoom_run (a b s : Int) (w : World) (wa : (Lit.int .u8 a).wf = true) (wb : (Lit.int .u8 b).wf = true) (ws : (Lit.int .u16 s).wf = true) :
    Calls Try.prog 6 #[.int .u8 a, .int .u8 b, .int .u16 s] w fun e w' => e = .returned (.bool true) ∧ Below w.heap.size w w' := by
  obtain ⟨ha0, ha1⟩ := bounds_u8 wa
  obtain ⟨hb0, hb1⟩ := bounds_u8 wb
  obtain ⟨hs0, hs1⟩ := bounds_u16 ws
  have e1 : a.tmod 20 = a % 20 := tmod_pos _ _ ha0
  have e2 : b.tmod 30 = b % 30 := tmod_pos _ _ hb0
  have e3 : s.tmod 1200 = s % 1200 := tmod_pos _ _ hs0
  exact bagRoom_walk a b s (a % 20 + 1).toNat (b % 30).toNat (s % 1200).toNat (by rw [e1]; omega) (by rw [e2]; omega) (by rw [e3]; omega) ha0 ha1 hb0 hb1 hs0 hs1 (by omega) (by omega) (by omega) (by omega) w
theorem bagRoom_own : ownKnob Try.prog.godebug = none := by kernel_rfl
theorem bagRoom_laid : laidOutB Try.prog = true := by kernel_rfl
set_option maxRecDepth 100000 in
theorem bagRoom_lifted (os : Os) (started : os.Started) (H : Type) (enc : TypeId × Value → H) :
    ReturnsInHanded {} Try.checked os 6 .any (Rows.bagRoomSpec.pre6 enc Try.prog Try.f6 Rows.bagRoomRow.domain false) (Rows.bagRoomSpec.post enc Try.prog Try.f6 false true false false) := by
  refine returnsInHanded_of_change (C := Try.checked) bagRoom_own started (by kernel_rfl) Try.func6
    (ChangeSpec.witness6 (enc := enc) (C := Try.checked) false ⟨#[], #[.int .u8 0, .int .u8 0, .int .u16 0], []⟩ 8 (by kernel_rfl) (by kernel_rfl) (by kernel_rfl) (by kernel_rfl)) ?_
  intro W base args ds gs before hval0 hW hcnd _
  have hval : ∀ (j : Nat) t v, Try.f6.params[j]? = some t → args[j]? = some v → Value.okWide Try.prog W .any base t v := hval0
  have hW' := hW
  obtain ⟨p, q, hA0, hV, rfl, hfz, hnd⟩ := hW
  have hA : DataW.TrodAll enc Try.prog W 0 (fun _ => true) true Try.f6.params.toList args.toList ds p := hA0
  rw [Try.params6] at hA hval
  obtain ⟨v0, vs0, d0, ds0, p0, q0, hargs, rfl, rfl, h0, r0⟩ := trodAll_cons hA
  obtain ⟨v1, vs1, d1, ds1, p1, q1, rfl, rfl, rfl, h1, r1⟩ := trodAll_cons r0
  obtain ⟨v2, vs2, d2, ds2, p2, q2, rfl, rfl, rfl, h2, r2⟩ := trodAll_cons r1
  obtain ⟨rfl, rfl, rfl⟩ := trodAll_nil r2
  obtain rfl : args = #[v0, v1, v2] := by cases args; simp_all
  obtain ⟨rfl, rfl⟩ := trodVars_none hV
  obtain ⟨a0, rfl, rfl, rfl, w0⟩ := open_int Try.underlying5 (hval 0 5 v0 rfl rfl) h0
  obtain ⟨a1, rfl, rfl, rfl, w1⟩ := open_int Try.underlying5 (hval 1 5 v1 rfl rfl) h1
  obtain ⟨a2, rfl, rfl, rfl, w2⟩ := open_int Try.underlying32 (hval 2 32 v2 rfl rfl) h2
  clear hA0 hval0
  refine (bagRoom_run a0 a1 a2 W w0 w1 w2).mono fun e W' ⟨he, bel⟩ => ?_
  subst he
  exact ⟨_, rfl, _, _, _, [], _, [], hW', trodAll_mk1 (shut_bool Try.underlying4 _), (trodAll_cons_mk (shut_int Try.underlying5 w0) (trodAll_cons_mk (shut_int Try.underlying5 w1) (trodAll_cons_mk (shut_int Try.underlying32 w2) trodAll_mk0))), rfl, bel.frame _, fun h => by cases h⟩
theorem bagRoom_over : Rows.bagRoomRow.holds Try.pinned (OpenSpec.ofChange Rows.bagRoomSpec) :=
  OpenClaim.holds_of_wide 6 Try.f6 rfl rfl rfl rfl rfl rfl rfl ⟨rfl, rfl, rfl, rfl, rfl⟩ rfl rfl rfl rfl rfl (by kernel_rfl) Try.func6 (by kernel_rfl)
    (of_decide_eq_true (by kernel_rfl)) (by unfold Func.isWrapper; first | (rw [if_pos (by decide +kernel)]; kernel_rfl) | (rw [if_neg (by decide +kernel)]; exact ⟨rfl, rfl⟩))
    (fun os started H enc _ => bagRoom_lifted os started H enc)
theorem bagRoom_holds : Rows.BagRoomSaid := bagRoom_over
#print axioms bagRoom_holds
end Go.Proofs.Ytnaghagcaiolmaa
