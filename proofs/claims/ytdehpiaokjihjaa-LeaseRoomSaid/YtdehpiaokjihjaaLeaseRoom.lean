/- LeaseRoom: there are never more clients than there is room; who is one is granted anew; who is refused is so only with no room: whoever asks, whatever the room and the time. -/
import Derived.Test.YtdehpiaokjihjaaLsArg
namespace Go.Proofs.Ytdehpiaokjihjaa
open Go.Sort Go.RowKit Go.BigFrame Go.ChangeShapes Go.WideShapes Go.Deep
set_option linter.unusedVariables false
set_option linter.unusedSimpArgs false

def RoJ (n h : Nat) (w : World) (g : Nat) (iv : Value) (wr : World) : Prop := ∃ (i : Nat) (k : Tb), iv = .int .i64 (i : Nat) ∧ i ≤ 60 ∧ k.room = (n : Int) ∧ k.hold = (h : Int) ∧ ((allV k.cl).length : Int) ≤ (n : Int) ∧ St w [hT g k] wr
theorem newT_all (r h : Int) : allV (newT r h).cl = [] := by
  have : allV (fun _ => zV) = [] := by kernel_rfl
  exact this
set_option maxHeartbeats 12800000 in
set_option maxRecDepth 100000 in
theorem room_walk (r hd : Int) (a : Option Addr) (n0 cap : Nat) (zs : List Int) (w : World) (hnl : n0 ≤ 9223372036854775807) (hn0 : Hid (zs.length = n0)) (h8 : Hid (∀ z ∈ zs, 0 ≤ z ∧ z < 256)) (hr : Hid (Rd .u8 w w.heap.size a zs)) (hr8 : 0 ≤ r ∧ r < 256) (hd8 : 0 ≤ hd ∧ hd < 256) :
    Calls Try.prog 3 #[.int .u8 r, .int .u8 hd, .slice a n0 cap] w fun e w' => e = .returned (.bool true) ∧ Below w.heap.size w w' := by
  have E := ex_any w
  obtain ⟨q, hq⟩ : ∃ q, r % 8 = q := ⟨_, rfl⟩
  obtain ⟨p, hp⟩ : ∃ p, hd % 40 = p := ⟨_, rfl⟩
  have hq2 : r.tmod 8 = q := by rw [tmod_pos _ _ hr8.1]; exact hq
  have hp2 : hd.tmod 40 = p := by rw [tmod_pos _ _ hd8.1]; exact hp
  obtain ⟨n, hn⟩ : ∃ n : Nat, 1 + q = n := ⟨(1 + q).toNat, by omega⟩
  obtain ⟨h, hh⟩ : ∃ h : Nat, 1 + p = h := ⟨(1 + p).toNat, by omega⟩
  have q8 := IntWalk.u8_in q ⟨by omega, by omega⟩
  have q64 := IntWalk.i64_in q ⟨by omega, by omega⟩
  have p8 := IntWalk.u8_in p ⟨by omega, by omega⟩
  have p64 := IntWalk.u64_in p ⟨by omega, by omega⟩
  have n64 : IntKind.i64.wrap (1 + q) = (n : Int) := by rw [hn]; exact IntWalk.i64_in _ ⟨by omega, by omega⟩
  have h64 : IntKind.u64.wrap (1 + p) = (h : Int) := by rw [hh]; exact IntWalk.u64_in _ ⟨by omega, by omega⟩
  have hn1 : 1 ≤ n := by omega
  have hn8 : n ≤ 8 := by omega
  have hh1 : 1 ≤ h := by omega
  have hh40 : h ≤ 40 := by omega
  have MY : mayI (n : Int) (h : Int) = true := mayI_iff.2 ⟨by omega, by omega, by omega, by omega⟩
  have HNI : Hid ((n : Int) ≤ 8 ∧ (1 : Int) ≤ n) := ⟨by omega, by omega⟩
  clear hq hp hn hh hr8 hd8
  go_enter Try.func3, Try.ntmps3
  go_wp2_with fail
  refine E.mono ?_; rintro e w0 ⟨rfl, b0'⟩
  have K := newT_l MY (St.start w w0 b0')
  clear E b0'
  go_wp2_with fail
  refine K.mono ?_; rintro e w1 ⟨g, rfl, s⟩
  have S0 : Hid (RoJ n h w g (.int .i64 0) w1) := ⟨0, _, rfl, by omega, rfl, rfl, by rw [newT_all]; show ((0 : Nat) : Int) ≤ n; omega, s⟩
  clear K s
  go_wp2_with fail
  go_loopw [12, 13, 14, 15, 16, 17, 18, 19, 20, 21, 22, 23] (fun iv _ _ _ _ _ _ _ _ _ _ _ wr => RoJ n h w g iv wr) (fun iv _ _ _ _ _ _ _ _ _ _ _ _ => 61 - (intOf iv).toNat)
  case atStart => exact S0.out
  case round =>
    obtain ⟨i, k, rfl, hi, hk1, hk2, hk3, hs⟩ := hrel
    clear S0
    have HS := Lib.hid hs
    have HK := Lib.hid (⟨hk1, hk2, hk3⟩ : k.room = (n : Int) ∧ k.hold = (h : Int) ∧ ((allV k.cl).length : Int) ≤ (n : Int))
    have hI0 : (0 : Int) ≤ i := by omega
    clear hs hk1 hk2 hk3
    obtain ⟨bb, hbb⟩ : ∃ bb, bb = (decide ((i : Int) < n0) && decide ((i : Int) < 60)) := ⟨_, rfl⟩
    replace hbb := Lib.hid hbb
    go_upto_region 10 with fail
    go_cut [54] (fun c wx => c = .bool bb ∧ wr = wx)
    case first =>
      by_cases c1 : (i : Int) < n0
      · by_cases c2 : (i : Int) < 60
        · have hq : bb = true := by rw [hbb.out, decide_eq_true c1, decide_eq_true c2]; rfl
          subst hq
          go_wp2_with fail
          go_meet
          exact ⟨rfl, rfl⟩
        · have hq : bb = false := by rw [hbb.out, decide_eq_false c2, Bool.and_false]
          subst hq
          go_wp2_with fail
          go_meet
          exact ⟨rfl, rfl⟩
      · have hq : bb = false := by rw [hbb.out, decide_eq_false c1, Bool.false_and]
        subst hq
        go_wp2_with fail
        go_meet
        exact ⟨rfl, rfl⟩
    case rest =>
    obtain ⟨rfl, rfl⟩ := hcut
    cases bb with
    | true =>
      have h1 : i < n0 ∧ i < 60 := by
        have := hbb.out
        simp only [Bool.true_eq, Bool.and_eq_true, decide_eq_true_eq] at this
        omega
      clear hbb
      have h1n : (i : Int) < n0 := by omega
      have hi1 : Hid (i + 1 ≤ 60) := by show i + 1 ≤ 60; omega
      obtain ⟨ba, oa, rfl, hbl, hcc⟩ := (hr.out.below HS.out.below) (by rw [hn0.out]; omega)
      have c0 := hcc i (by rw [hn0.out]; omega)
      have hx8 := h8.out (zs.getD i 0) (by rw [List.getD_eq_getElem?_getD, List.getElem?_eq_getElem (by rw [hn0.out]; omega)]; exact List.getElem_mem _)
      generalize zs.getD i 0 = x at *
      obtain ⟨v, hv⟩ : ∃ v, x % 32 = v := ⟨_, rfl⟩
      have hv2 : x.tmod 32 = v := by rw [tmod_pos _ _ hx8.1]; exact hv
      obtain ⟨m, hm⟩ : ∃ m : Nat, 1 + v = m := ⟨(1 + v).toNat, by omega⟩
      have v5 := IntWalk.u8_in v ⟨by omega, by omega⟩
      have v6 := IntWalk.i64_in v ⟨by omega, by omega⟩
      have v7 : IntKind.i64.wrap (1 + v) = (m : Int) := by rw [hm]; exact IntWalk.i64_in _ ⟨by omega, by omega⟩
      have v8 := IntWalk.i64_in ((i : Int) + 1) ⟨by omega, by omega⟩
      have v9 := IntWalk.u64_in (i : Int) ⟨by omega, by omega⟩
      have va := IntWalk.u32_in (m : Int) ⟨by omega, by omega⟩
      have vb := IntWalk.i64_in (m : Int) ⟨by omega, by omega⟩
      have vc := IntWalk.u64_in ((i : Int) + h) ⟨by omega, by omega⟩
      have RD := Lib.hid (room_round (HS.out.get (h := hT g k) (by simp)).ok HK.out.1 HK.out.2.1 HK.out.2.2 hI0 (by omega) (m := m) (by omega) (by omega))
      have hmb : m < 4294967296 := by omega
      have hI60 : (i : Int) < 60 := by omega
      clear hcc h1 hx8 hv hm
      rcases RD.out with ⟨was, many, k2, v2, R, hw, hip, hlate⟩ | ⟨many, k2, R, hmn⟩
      · obtain ⟨r1, r2, r3, r4, r5, r6, r7, r8, r9, r10⟩ := R
        obtain ⟨s1, hs1⟩ : ∃ s1, sweepD k (i : Int) = s1 := ⟨_, rfl⟩
        rw [hs1] at r2 r3 r4 r5
        obtain ⟨L1, hL1⟩ : ∃ L, allV s1.cl = L := ⟨_, rfl⟩
        rw [hL1] at r2
        obtain ⟨L2, hL2⟩ : ∃ L, allV k2.cl = L := ⟨_, rfl⟩
        rw [hL2] at r10
        obtain ⟨v0, hv0⟩ : ∃ v, ofA k (m : Int) (i : Int) = v := ⟨_, rfl⟩
        obtain ⟨L0, hL0⟩ : ∃ L, sweepL k (i : Int) = L := ⟨_, rfl⟩
        have HK2 := Lib.hid (⟨r8, r9, by rw [hL2]; exact r10⟩ : k2.room = (n : Int) ∧ k2.hold = (h : Int) ∧ ((allV k2.cl).length : Int) ≤ (n : Int))
        have K := of_l (m : Int) (i : Int) r1 hv0 HS.out (g := g) (by simp)
        have KS := Lib.hid (fun H1 wz (st : St w (H1 ++ hT g k :: []) wz) => sweep_l (i : Int) hL0 hs1 H1 [] st)
        have KC := Lib.hid (fun H wz (st : St w H wz) (hm : hT g s1 ∈ H) => clients_l hL1 st hm)
        have KG := Lib.hid (fun H1 wz (st : St w (H1 ++ hT g s1 :: []) wz) => grant_l (m : Int) m 9 (i : Int) hI0 hmb (by decide) r3 r4 r5 H1 [] st)
        have KO := Lib.hid (fun H wz (st : St w H wz) (hm : hT g k2 ∈ H) => of_l (m : Int) (i : Int) r6 r7 st hm)
        have KD := Lib.hid (fun H wz (st : St w H wz) (hm : hT g k2 ∈ H) => clients_l hL2 st hm)
        have hl1 : (L1.length : Int) = many := by omega
        rw [r2] at KC
        obtain ⟨c2, hc2⟩ : ∃ c, L2.length = c := ⟨_, rfl⟩
        rw [hc2] at r10 KD
        have hq : (decide ((many : Int) < n)) = true ∨ was = true := by
          rcases hw with hw | ⟨_, hw⟩
          · exact .inr hw
          · exact .inl (decide_eq_true hw)
        obtain ⟨lt, hlt⟩ : ∃ lt, decide ((many : Int) < n) = lt := ⟨_, rfl⟩
        have K3 := Lib.hid (fun H wz (st : St w H wz) (hm : hT g k2 ∈ H) => of_l (m : Int) ((i : Int) + h) hlate (rfl : ofA k2 (m : Int) ((i : Int) + h) = _) st hm)
        generalize ofA k2 (m : Int) ((i : Int) + h) = v3 at *
        rw [hlt] at hq
        clear hw hlate
        clear r1 r2 r3 r4 r5 r6 r7 r8 r9 hs1 hL1 hL2 hv0 hL0 HK HS hl1 RD hc2
        obtain ⟨w1', w2', w3', w4'⟩ := v0
        simp only at K
        go_wp2_with fail
        refine K.mono ?_; rintro e wa ⟨rfl, s⟩
        clear K c0
        have s2 := s.keep ((Below.refl _ wa).alloc (Nat.le_refl _) (.cells #[.int .u32 w2', .int .u16 w3'] 32))
        clear s
        go_upto_region 15 with fail
        generalize (wa.alloc (.cells #[.int .u32 w2', .int .u16 w3'] 32)) = wb at *
        generalize wa.heap.size = b15 at *
        have K := KS.out [] _ s2
        clear s2 KS
        go_wp2_with fail
        refine K.mono ?_; rintro e wc2 ⟨u1, rfl, s⟩
        clear K
        have K := KC.out _ _ s (by simp)
        clear KC
        go_wp2_with fail
        refine K.mono ?_; rintro e wd ⟨u2, rfl, s'⟩
        clear K s
        have K := KG.out [_, _] _ s'
        clear KG s'
        go_wp2_with fail
        refine K.mono ?_; rintro e we ⟨rfl, s⟩
        clear K
        have K := KO.out _ _ s (by simp)
        clear KO s
        obtain ⟨y1, y2, y3, y4⟩ := v2
        obtain ⟨z1, z2, z3, z4⟩ := v3
        simp only at hip K K3
        replace hip := hip.symm
        subst hip
        go_wp2_with fail
        refine K.mono ?_; rintro e wf ⟨rfl, s⟩
        clear K
        have s2 := s.box [.int .u32 m, .int .u16 y3] 32
        clear s
        go_upto_region 19 with fail
        generalize (wf.alloc (.cells #[.int .u32 (m : Int), .int .u16 y3] 32)) = wg at *
        generalize wf.heap.size = b20 at *
        have X := s2.cs (b := b20) (vs := [.int .u32 m, .int .u16 y3]) (by simp)
        have x0 := X.cell 0 _ rfl
        have xl := X.lt
        have K := KD.out _ _ s2 (by simp)
        clear KD X
        have hgt : decide ((n : Int) < c2) = false := decide_eq_false (by omega)
        have hgt2 : decide (n < c2) = false := decide_eq_false (by omega)
        cases was with
        | true =>
          go_wp2_with fail
          refine K.mono ?_; rintro e wh ⟨u3, rfl, s⟩
          clear K x0 xl
          have K := K3.out _ _ s (by simp)
          clear K3 s2
          go_wp2_with fail
          refine K.mono ?_; rintro e wj ⟨rfl, s3⟩
          clear K s
          have S9 : Hid (St w [hT g k2] (wj.alloc (.cells #[.int .u32 z2, .int .u16 z3] 32))) :=
            (s3.keep ((Below.refl _ wj).alloc (Nat.le_refl _) _)).sub (by simp only [List.cons_append, List.nil_append]; repeat (first | exact List.Sublist.refl _ | apply List.Sublist.cons))
          clear s3
          go_wp2
          go_roundw
          case rel => exact ⟨i + 1, k2, by go_num, hi1.out, HK2.out.1, HK2.out.2.1, HK2.out.2.2, S9.out⟩
          case measure => simp [intOf]; omega
        | false =>
          have hl2 : lt = true := by rcases hq with hq | hq; exact hq; exact absurd hq (by simp)
          rw [hl2] at hlt
          have hlt3 : (many : Int) < n := of_decide_eq_true hlt
          clear hq hlt
          go_wp2_with fail
          refine K.mono ?_; rintro e wh ⟨u3, rfl, s⟩
          clear K x0 xl
          have K := K3.out _ _ s (by simp)
          clear K3 s2
          go_wp2_with fail
          refine K.mono ?_; rintro e wj ⟨rfl, s3⟩
          clear K s
          have S9 : Hid (St w [hT g k2] (wj.alloc (.cells #[.int .u32 z2, .int .u16 z3] 32))) :=
            (s3.keep ((Below.refl _ wj).alloc (Nat.le_refl _) _)).sub (by simp only [List.cons_append, List.nil_append]; repeat (first | exact List.Sublist.refl _ | apply List.Sublist.cons))
          clear s3
          go_wp2
          go_roundw
          case rel => exact ⟨i + 1, k2, by go_num, hi1.out, HK2.out.1, HK2.out.2.1, HK2.out.2.2, S9.out⟩
          case measure => simp [intOf]; omega
      · obtain ⟨r1, r2, r3, r4, r5, r6, r7, r8, r9, r10⟩ := R
        obtain ⟨s1, hs1⟩ : ∃ s1, sweepD k (i : Int) = s1 := ⟨_, rfl⟩
        rw [hs1] at r2 r3 r4 r5
        obtain ⟨L1, hL1⟩ : ∃ L, allV s1.cl = L := ⟨_, rfl⟩
        rw [hL1] at r2
        obtain ⟨L2, hL2⟩ : ∃ L, allV k2.cl = L := ⟨_, rfl⟩
        rw [hL2] at r10
        obtain ⟨v0, hv0⟩ : ∃ v, ofA k (m : Int) (i : Int) = v := ⟨_, rfl⟩
        obtain ⟨L0, hL0⟩ : ∃ L, sweepL k (i : Int) = L := ⟨_, rfl⟩
        have HK2 := Lib.hid (⟨r8, r9, by rw [hL2]; exact r10⟩ : k2.room = (n : Int) ∧ k2.hold = (h : Int) ∧ ((allV k2.cl).length : Int) ≤ (n : Int))
        have K := of_l (m : Int) (i : Int) r1 hv0 HS.out (g := g) (by simp)
        have KS := Lib.hid (fun H1 wz (st : St w (H1 ++ hT g k :: []) wz) => sweep_l (i : Int) hL0 hs1 H1 [] st)
        have KC := Lib.hid (fun H wz (st : St w H wz) (hm : hT g s1 ∈ H) => clients_l hL1 st hm)
        have KG := Lib.hid (fun H1 wz (st : St w (H1 ++ hT g s1 :: []) wz) => grant_l (m : Int) m 9 (i : Int) hI0 hmb (by decide) r3 r4 r5 H1 [] st)
        have KO := Lib.hid (fun H wz (st : St w H wz) (hm : hT g k2 ∈ H) => of_l (m : Int) (i : Int) r6 r7 st hm)
        have KD := Lib.hid (fun H wz (st : St w H wz) (hm : hT g k2 ∈ H) => clients_l hL2 st hm)
        have hl1 : (L1.length : Int) = many := by omega
        rw [r2] at KC
        obtain ⟨c2, hc2⟩ : ∃ c, L2.length = c := ⟨_, rfl⟩
        rw [hc2] at r10 KD
        have hge : decide ((many : Int) < n) = false := decide_eq_false (by omega)
        have hge2 : decide (many < n) = false := decide_eq_false (by omega)
        clear hmn
        clear r1 r2 r3 r4 r5 r6 r7 r8 r9 hs1 hL1 hL2 hv0 hL0 HK HS hl1 RD hc2
        obtain ⟨w1', w2', w3', w4'⟩ := v0
        simp only at K
        go_wp2_with fail
        refine K.mono ?_; rintro e wa ⟨rfl, s⟩
        clear K c0
        have s2 := s.keep ((Below.refl _ wa).alloc (Nat.le_refl _) (.cells #[.int .u32 w2', .int .u16 w3'] 32))
        clear s
        go_upto_region 15 with fail
        generalize (wa.alloc (.cells #[.int .u32 w2', .int .u16 w3'] 32)) = wb at *
        generalize wa.heap.size = b15 at *
        have K := KS.out [] _ s2
        clear s2 KS
        go_wp2_with fail
        refine K.mono ?_; rintro e wc2 ⟨u1, rfl, s⟩
        clear K
        have K := KC.out _ _ s (by simp)
        clear KC
        go_wp2_with fail
        refine K.mono ?_; rintro e wd ⟨u2, rfl, s'⟩
        clear K s
        have K := KG.out [_, _] _ s'
        clear KG s'
        go_wp2_with fail
        refine K.mono ?_; rintro e we ⟨rfl, s⟩
        clear K
        have K := KO.out _ _ s (by simp)
        clear KO s
        simp only [zV] at K
        go_wp2_with fail
        refine K.mono ?_; rintro e wf ⟨rfl, s⟩
        clear K
        have s2 := s.box [.int .u32 0, .int .u16 0] 32
        clear s
        go_upto_region 19 with fail
        generalize (wf.alloc (.cells #[.int .u32 0, .int .u16 0] 32)) = wg at *
        generalize wf.heap.size = b20 at *
        have K := KD.out _ _ s2 (by simp)
        clear KD
        have hgt : decide ((n : Int) < c2) = false := decide_eq_false (by omega)
        have hgt2 : decide (n < c2) = false := decide_eq_false (by omega)
        go_wp2_with fail
        refine K.mono ?_; rintro e wh ⟨u3, rfl, s⟩
        clear K
        have S9 : Hid (St w [hT g k2] wh) :=
          s.sub (by simp only [List.cons_append, List.nil_append]; repeat (first | exact List.Sublist.refl _ | apply List.Sublist.cons))
        clear s s2
        go_wp2
        go_roundw
        case rel => exact ⟨i + 1, k2, by go_num, hi1.out, HK2.out.1, HK2.out.2.1, HK2.out.2.2, S9.out⟩
        case measure => simp [intOf]; omega
    | false =>
      have BE := Lib.hid HS.out.below
      clear HS
      go_wp2
      refine bodyPost_ret (v := (.bool true)) (by simp [results, Try.results3, go_sem, *]) rfl ?_
      exact ⟨rfl, BE.out⟩
theorem room_run (r hd : Int) (a : Option Addr) (len cap : Nat) (zs : List Int) (w : World) (wr : (Lit.int .u8 r).wf = true) (wh : (Lit.int .u8 hd).wf = true) (wz : ArgRow .u8 w a len cap zs) :
    Calls Try.prog 3 #[.int .u8 r, .int .u8 hd, .slice a len cap] w fun e w' => e = .returned (.bool true) ∧ Below w.heap.size w w' := by
  obtain ⟨za, h1, h2, h3, h4⟩ := arg_u8m wz
  have h5 := bounds_u8 wr
  have h6 := bounds_u8 wh
  exact room_walk r hd a len cap za w h4 h1 h2 h3 ⟨h5.1, by omega⟩ ⟨h6.1, by omega⟩
theorem leaseRoom_own : ownKnob Try.prog.godebug = none := by kernel_rfl
theorem leaseRoom_laid : laidOutB Try.prog = true := by kernel_rfl
set_option maxRecDepth 100000 in
theorem leaseRoom_lifted (os : Os) (started : os.Started) (H : Type) (enc : TypeId × Value → H) :
    ReturnsInHanded {} Try.checked os 3 .any (Rows.leaseRoomSpec.pre6 enc Try.prog Try.f3 Rows.leaseRoomRow.domain false) (Rows.leaseRoomSpec.post enc Try.prog Try.f3 false true false false) := by
  refine returnsInHanded_of_change (C := Try.checked) leaseRoom_own started (by kernel_rfl) Try.func3
    (ChangeSpec.witness6 (enc := enc) (C := Try.checked) false ⟨#[], #[.int .u8 0, .int .u8 0, .slice none 0 0], []⟩ 8 (by kernel_rfl) (by kernel_rfl) (by kernel_rfl) (by kernel_rfl)) ?_
  intro W base args ds gs before hval0 hW hcnd _
  have hval : ∀ (j : Nat) t v, Try.f3.params[j]? = some t → args[j]? = some v → Value.okWide Try.prog W .any base t v := hval0
  have hW' := hW
  obtain ⟨p, q, hA0, hV, rfl, hfz, hnd⟩ := hW
  have hA : DataW.TrodAll enc Try.prog W 0 (fun _ => true) true Try.f3.params.toList args.toList ds p := hA0
  rw [Try.params3] at hA hval
  obtain ⟨v0, vs0, d0, ds0, p0, q0, hargs, rfl, rfl, h0, r0⟩ := trodAll_cons hA
  obtain ⟨v1, vs1, d1, ds1, p1, q1, rfl, rfl, rfl, h1, r1⟩ := trodAll_cons r0
  obtain ⟨v2, vs2, d2, ds2, p2, q2, rfl, rfl, rfl, h2, r2⟩ := trodAll_cons r1
  obtain ⟨rfl, rfl, rfl⟩ := trodAll_nil r2
  obtain rfl : args = #[v0, v1, v2] := by cases args; simp_all
  obtain ⟨rfl, rfl⟩ := trodVars_none hV
  obtain ⟨a0, rfl, rfl, rfl, w0⟩ := open_int Try.underlying5 (hval 0 5 v0 rfl rfl) h0
  obtain ⟨a1, rfl, rfl, rfl, w1⟩ := open_int Try.underlying5 (hval 1 5 v1 rfl rfl) h1
  obtain ⟨a2, len2, cap2, rfl⟩ := okWide_slice Try.underlying22 (hval 2 22 v2 rfl rfl)
  have k2 := h2
  have lt2 : ∀ x ∈ p2, x.block < W.heap.size := by obtain ⟨m, hm⟩ := k2; exact DataW.trod_lt m _ _ _ hm
  obtain ⟨z2, w2⟩ : ∃ zs, ArgRow .u8 W a2 len2 cap2 zs := by
    obtain ⟨fuel, hf⟩ := h2
    rcases open_ints Try.underlying22 Try.underlying5 (by kernel_rfl) hf with ⟨hcs, _⟩ | ⟨x, l, c, zs, hcs, _, hl, hm, hz, _, hcell, hwz⟩
    · simp [Value.cells] at hcs
      obtain ⟨rfl, rfl, rfl⟩ := hcs
      exact ⟨[], .inl ⟨rfl, rfl, rfl, rfl⟩⟩
    · simp [Value.cells] at hcs
      obtain ⟨rfl, rfl, rfl⟩ := hcs
      exact ⟨zs, .inr ⟨_, rfl, hl, hm, by simpa using hz, hcell, hwz⟩⟩
  clear hA0 hval0
  refine (room_run a0 a1 a2 len2 cap2 z2 W w0 w1 w2).mono fun e W' ⟨he, bel⟩ => ?_
  subst he
  exact ⟨_, rfl, _, _, _, [], _, [], hW', trodAll_mk1 (shut_bool Try.underlying4 _), (trodAll_cons_mk (shut_int Try.underlying5 w0) (trodAll_cons_mk (shut_int Try.underlying5 w1) (trodAll_cons_mk (Below.trod leaseRoom_laid (by kernel_rfl) (of_decide_eq_true (by kernel_rfl)) k2 bel lt2) trodAll_mk0))), rfl, bel.frame _, fun h => by cases h⟩
theorem leaseRoom_over : Rows.leaseRoomRow.holds Try.pinned (OpenSpec.ofChange Rows.leaseRoomSpec) :=
  OpenClaim.holds_of_wide 3 Try.f3 rfl rfl rfl rfl rfl rfl rfl ⟨rfl, rfl, rfl, rfl, rfl⟩ rfl rfl rfl rfl rfl (by kernel_rfl) Try.func3 (by kernel_rfl)
    (of_decide_eq_true (by kernel_rfl)) (by unfold Func.isWrapper; first | (rw [if_pos (by decide +kernel)]; kernel_rfl) | (rw [if_neg (by decide +kernel)]; exact ⟨rfl, rfl⟩))
    (fun os started H enc _ => leaseRoom_lifted os started H enc)
theorem leaseRoom_holds : Rows.LeaseRoomSaid := leaseRoom_over
#print axioms leaseRoom_holds
end Go.Proofs.Ytdehpiaokjihjaa
