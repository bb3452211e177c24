/- PathTries: a way that is wanted is tried just as often as it may be, each time twice as long after the one ahead; then it is relayed, and tried again when that is over: however often, however long. -/
import Derived.Test.YtpeoallhbbleaaaPaEx
import Derived.Deep.DeepCutAuto
import Derived.ChangeOld
import Derived.ChangeMaps5
import Derived.ShutString
import Derived.OpenShut
import Derived.SizedLaws
namespace Go.Proofs.Ytpeoallhbbleaaa
open Go.Sort Go.RowKit Go.BigFrame Go.ChangeShapes Go.WideShapes Go.Deep
set_option linter.unusedVariables false
set_option linter.unusedSimpArgs false

def kT (n : Nat) (b h : Int) : Tk := newK n b 7 h
/-- the one path, tried so often, next at that time -/
def tX (i : Nat) (now : Int) : Pt := ⟨9, 2, i, 0, 0, now, 0⟩
theorem kT_one (n : Nat) (b h : Int) : newK n b 7 h = oneK (kT n b h) 9 zP := one_new n b 7 h 9
theorem t_due {n : Nat} {b h : Int} {i : Nat} {now y : Int} (hi : i < n) (hn : now ≤ 100000) (hy : b * 2 ^ i = y) : dueL (oneK (kT n b h) 9 (tX i now)) now = [(9, 1)] ∧ dueD (oneK (kT n b h) 9 (tX i now)) now = oneK (kT n b h) 9 (tX (i + 1) (now + y)) := by
  have d : isD (tX i now) now = true := by unfold isD isS tX; simp
  have ht : ¬ (i : Int) = n := by omega
  have e1 : dueK (kT n b h) (tX i now) now = 1 := by
    unfold dueK; rw [d, if_pos rfl]
    show (if (i : Int) = n then (0 : Int) else 1) = 1
    rw [if_neg ht]
  have e2 : dueX (kT n b h) (tX i now) now = tX (i + 1) (now + y) := by
    unfold dueX; rw [d, if_pos rfl]
    show (if (i : Int) = n then _ else (⟨9, 2, i + 1, 0, 0, now + b * 2 ^ i, 0⟩ : Pt)) = _
    rw [if_neg ht, hy]; rfl
  refine ⟨?_, ?_⟩
  · rw [one_dueL _ _ (by decide) (by omega), e1]; rfl
  · rw [one_dueD _ _ (by decide) (by omega), e2]
/-- nothing is due ahead of its time -/
theorem one_idle {k : Tk} {i : Nat} {x : Pt} {now : Int} (hi : i < 33) (hn : now ≤ 4611686018427387904) (hx : now < x.nx) : (dueL (oneK k i x) now).length = 0 ∧ dueD (oneK k i x) now = oneK k i x := by
  have d : isD x now = false := by unfold isD; rw [decide_eq_false (by omega), Bool.and_false]
  have e1 : dueK k x now = 0 := by unfold dueK; rw [d, if_neg (by decide)]
  have e2 : dueX k x now = x := by unfold dueX; rw [d, if_neg (by decide)]
  refine ⟨?_, ?_⟩
  · rw [one_dueL _ _ hi hn, e1]; rfl
  · rw [one_dueD _ _ hi hn, e2]
theorem t_end {n : Nat} {b h : Int} {now : Int} (hn : now ≤ 100000) : (dueL (oneK (kT n b h) 9 (tX n now)) now).length = 0 ∧ dueD (oneK (kT n b h) 9 (tX n now)) now = oneK (kT n b h) 9 ⟨9, 1, n, 0, 0, now + h, 0⟩ := by
  have d : isD (tX n now) now = true := by unfold isD isS tX; simp
  have e1 : dueK (kT n b h) (tX n now) now = 0 := by
    unfold dueK; rw [d, if_pos rfl]
    show (if (n : Int) = n then (0 : Int) else 1) = 0
    rw [if_pos rfl]
  have e2 : dueX (kT n b h) (tX n now) now = ⟨9, 1, n, 0, 0, now + h, 0⟩ := by
    unfold dueX; rw [d, if_pos rfl]
    show (if (n : Int) = n then (⟨9, 1, n, 0, 0, now + h, 0⟩ : Pt) else _) = _
    rw [if_pos rfl]
  refine ⟨?_, ?_⟩
  · rw [one_dueL _ _ (by decide) (by omega), e1]; rfl
  · rw [one_dueD _ _ (by decide) (by omega), e2]
theorem t_again {n : Nat} {b h : Int} {now m : Int} (h1 : 1 ≤ n) (hn : now ≤ 100000) (hm : m = now) : dueL (oneK (kT n b h) 9 ⟨9, 1, n, 0, 0, m, 0⟩) now = [(9, 1)] ∧ dueD (oneK (kT n b h) 9 ⟨9, 1, n, 0, 0, m, 0⟩) now = oneK (kT n b h) 9 ⟨9, 2, 1, 0, 0, now + b, 0⟩ := by
  subst hm
  have d : isD ⟨9, 1, n, 0, 0, m, 0⟩ m = true := by unfold isD isS; simp
  have ht : ¬ (0 : Int) = n := by omega
  have e1 : dueK (kT n b h) ⟨9, 1, n, 0, 0, m, 0⟩ m = 1 := by
    unfold dueK; rw [d, if_pos rfl]
    show (if ((0 : Nat) : Int) = n then (0 : Int) else 1) = 1
    rw [if_neg (by omega)]
  have e2 : dueX (kT n b h) ⟨9, 1, n, 0, 0, m, 0⟩ m = ⟨9, 2, 1, 0, 0, m + b, 0⟩ := by
    unfold dueX; rw [d, if_pos rfl]
    show (if ((0 : Nat) : Int) = n then _ else (⟨9, 2, 1, 0, 0, m + b * 2 ^ 0, 0⟩ : Pt)) = _
    rw [if_neg (by omega), Int.pow_zero, Int.mul_one]
  refine ⟨?_, ?_⟩
  · rw [one_dueL _ _ (by decide) (by omega), e1]; rfl
  · rw [one_dueD _ _ (by decide) (by omega), e2]
def TrJ (n : Nat) (b h : Int) (w : World) (g : Nat) (nv iv : Value) (wr : World) : Prop :=
  ∃ (i : Nat) (now : Int), iv = .int .i64 (i : Nat) ∧ nv = .int .u64 now ∧ i ≤ n ∧ 0 ≤ now ∧ now ≤ 1280 * i ∧ St w [hT g (oneK (kT n b h) 9 (tX i now))] wr
set_option maxHeartbeats 12800000 in
set_option maxRecDepth 100000 in
theorem tries_walk (t0 b0 h0 : Int) (n : Nat) (b h : Int) (ht0 : 0 ≤ t0) (hb0 : 0 ≤ b0) (hh0 : 0 ≤ h0) (en : t0 % 8 + 1 = n) (eb : b0 % 10 + 1 = b) (eh : h0 % 50 + 1 = h) (w : World) :
    Calls Try.prog 4 #[.int .u8 t0, .int .u8 b0, .int .u8 h0] w fun e w' => e = .returned (.bool true) ∧ Below w.heap.size w w' := by
  have E := ex_any w
  have hn : 1 ≤ n ∧ n ≤ 8 := by omega
  have hb : 1 ≤ b ∧ b ≤ 10 := by omega
  have hh : 1 ≤ h ∧ h ≤ 50 := by omega
  have ra : t0.tmod 8 = n - 1 := by rw [tmod_pos _ _ ht0]; omega
  have rb : b0.tmod 10 = b - 1 := by rw [tmod_pos _ _ hb0]; omega
  have rh : h0.tmod 50 = h - 1 := by rw [tmod_pos _ _ hh0]; omega
  have ya := IntWalk.u8_in ((n : Int) - 1) ⟨by omega, by omega⟩
  have yb := IntWalk.u8_in (b - 1) ⟨by omega, by omega⟩
  have yh := IntWalk.u8_in (h - 1) ⟨by omega, by omega⟩
  have za := IntWalk.i64_in ((n : Int) - 1) ⟨by omega, by omega⟩
  have zb := IntWalk.u64_in (b - 1) ⟨by omega, by omega⟩
  have zh := IntWalk.u64_in (h - 1) ⟨by omega, by omega⟩
  have sa : (1 : Int) + (n - 1) = n := by omega
  have sb : (1 : Int) + (b - 1) = b := by omega
  have sh : (1 : Int) + (h - 1) = h := by omega
  have va := IntWalk.i64_in (n : Int) ⟨by omega, by omega⟩
  have vb := IntWalk.u64_in b ⟨by omega, by omega⟩
  have vh := IntWalk.u64_in h ⟨by omega, by omega⟩
  have MAY : mayI n b 7 h = true := mayI_iff.2 ⟨by omega, by omega, by omega, by omega, by omega⟩
  have HN := Lib.hid hn
  have HB := Lib.hid hb
  have HH := Lib.hid hh
  clear ht0 hb0 hh0 en eb eh hn hb hh
  go_enter Try.func4, Try.ntmps4
  go_wp2_with fail
  refine E.mono ?_; rintro e w0 ⟨rfl, b0'⟩
  have K := newT_l MAY (St.start w w0 b0')
  rw [kT_one] at K
  clear E b0' MAY
  go_wp2_with fail
  refine K.mono ?_; rintro e w1 ⟨g, rfl, s⟩
  clear K ra rb rh ya yb yh za zb zh sa sb sh va vb vh
  have W1 := one_want (kT n b h) (i := 9) (by decide) (by decide) (now := 0) (by decide)
  have K := want_l (k' := oneK (kT n b h) 9 (tX 0 0)) (e := 0) 9 0 (by decide) W1.1 W1.2 [] [] s
  clear s W1
  go_wp2_with fail
  refine K.mono ?_; rintro e w2 ⟨rfl, s⟩
  have S0 : Hid (TrJ n b h w g (.int .u64 0) (.int .i64 0) w2) := ⟨0, 0, rfl, rfl, Nat.zero_le _, by decide, by decide, s⟩
  clear K s
  go_wp2_with fail
  go_loopw [13, 14] (fun nv iv wr => TrJ n b h w g nv iv wr) (fun _ iv _ => n - (intOf iv).toNat)
  case atStart => exact S0.out
  case round =>
    obtain ⟨i, now, rfl, rfl, hi, hn0, hn1, hs⟩ := hrel
    have HS := Lib.hid hs
    clear hs S0
    have hnn := HN.out
    have hbb := HB.out
    have hhh := HH.out
    by_cases hlt : i < n
    · have hlt2 : (i : Int) < n := by omega
      have hw := wait_le (n := i) hbb.1 (by omega) (by omega)
      obtain ⟨y, hy⟩ : ∃ y, b * 2 ^ i = y := ⟨_, rfl⟩
      have hy2 : y ≤ 1280 := by
        have p0 := pow_le (n := i) (by omega)
        have p1 := pow_pos1 i
        have := Int.mul_le_mul hbb.2 p0 (by omega) (by decide)
        omega
      have D := t_due (h := h) hlt (now := now) (by omega) hy
      have D2 := one_idle (k := kT n b h) (i := 9) (x := tX (i + 1) (now + y)) (now := now + y - 1) (by decide) (by omega) (by show now + y - 1 < now + y; omega)
      rw [hy] at hw
      have q1 : (0 : Int) ≤ i := by omega
      have q2 : (i : Int) ≤ 64 := by omega
      have q3 : ((i : Int)).toNat = i := by omega
      have p1 : IntKind.u64.wrap (b * 2 ^ i) = y := by rw [hy]; exact IntWalk.u64_in y ⟨by omega, by omega⟩
      have p2 := IntWalk.u64_in (now + y) ⟨by omega, by omega⟩
      have p3 := IntWalk.u64_in (now + y - 1) ⟨by omega, by omega⟩
      have p4 := IntWalk.i64_in ((i : Int) + 1) ⟨by omega, by omega⟩
      have K := due_l now hn0 D.1 D.2 [] [] HS.out
      have X1 : Hid (i + 1 ≤ n ∧ 0 ≤ now + y ∧ now + y ≤ 1280 * ((i + 1 : Nat) : Int)) := ⟨by omega, by omega, by omega⟩
      have X2 : Hid (0 ≤ now + y - 1) := by show 0 ≤ now + y - 1; omega
      have HY := Lib.hid hy
      clear D HS hw hy2 hbb hhh hnn hy hn0 hn1
      go_wp2_with fail
      refine K.mono ?_; rintro e w3 ⟨u, rfl, s⟩
      clear K
      obtain ⟨ua, un, uc⟩ := u
      simp only [List.length_cons, List.length_nil, Nat.zero_add]
      obtain ⟨xb, xo, hxb, xl, xc⟩ := s.step (u := ⟨ua, un, uc⟩) (L := [(9, 1)]) (by simp) (by decide)
      simp only at hxb
      subst hxb
      have c0 : w3.cell? ⟨xb, xo, none⟩ = some (.int .i64 9) := by simpa using xc 0 (9, 1) rfl 0 _ rfl
      have c1 : w3.cell? ⟨xb, xo + 1, none⟩ = some (.int .i64 1) := by simpa using xc 0 (9, 1) rfl 1 _ rfl
      have K := due_n (now + y - 1) X2.out D2.1 D2.2 [_] [] s
      clear xc D2 s
      go_wp2_with fail
      refine K.mono ?_; rintro e w4 ⟨da, dc, rfl, s⟩
      have S1 := Lib.hid s.drop
      clear K s c0 c1 xl
      go_wp2
      go_roundw
      case rel => exact ⟨i + 1, now + y, by go_num, rfl, X1.out.1, X1.out.2.1, X1.out.2.2, S1.out⟩
      case measure => simp [intOf]; omega
    · obtain rfl : i = n := by omega
      have hge2 : ¬ ((i : Int) < i) := by omega
      have p1 := IntWalk.u64_in (now + h) ⟨by omega, by omega⟩
      have p2 := IntWalk.u64_in (now + h - 1) ⟨by omega, by omega⟩
      have D1 := t_end (n := i) (b := b) (h := h) (now := now) (by omega)
      have D2 := one_idle (k := kT i b h) (i := 9) (x := ⟨9, 1, i, 0, 0, now + h, 0⟩) (now := now + h - 1) (by decide) (by omega) (by show now + h - 1 < now + h; omega)
      have D3 := t_again (n := i) (b := b) (h := h) (now := now + h) (m := now + h) (by omega) (by omega) rfl
      have K := due_n now hn0 D1.1 D1.2 [] [] HS.out
      have X1 : Hid (0 ≤ now + h - 1 ∧ 0 ≤ now + h) := ⟨by omega, by omega⟩
      replace D2 := Lib.hid D2
      replace D3 := Lib.hid D3
      clear D1 HS hbb hhh hnn hn0 hn1
      go_wp2_with fail
      refine K.mono ?_; rintro e w3 ⟨ea, ec, rfl, s⟩
      clear K
      have K := of_l (b := true) (x := ⟨9, 1, i, 0, 0, now + h, 0⟩) 9 (one_isP (kT i b h) (i := 9) ⟨9, 1, i, 0, 0, now + h, 0⟩ (by decide) (by decide)) (one_of (kT i b h) (i := 9) ⟨9, 1, i, 0, 0, now + h, 0⟩ (by decide) (by decide) rfl) s (g := g) (by simp)
      clear s
      go_wp2_with fail
      refine K.mono ?_; rintro e w4 ⟨rfl, s⟩
      clear K
      simp only [Int.natCast_zero, Int.ofNat_zero, Int.cast_ofNat_Int]
      have s2 := s.box [.int .i64 9, .int .i64 1, .int .i64 i, .int .u32 0, .int .u16 0, .int .u64 (now + h), .int .u64 0] 61
      clear s
      go_upto_region 23 with fail
      generalize (w4.alloc (.cells #[.int .i64 9, .int .i64 1, .int .i64 i, .int .u32 0, .int .u16 0, .int .u64 (now + h), .int .u64 0] 61)) = w5 at *
      generalize w4.heap.size = bx at *
      have K := due_n (now + h - 1) X1.out.1 D2.out.1 D2.out.2 [_] [] s2
      clear s2
      go_wp2_with fail
      refine K.mono ?_; rintro e w6 ⟨fa, fc, rfl, s⟩
      clear K
      have K := due_l (now + h) X1.out.2 D3.out.1 D3.out.2 [_] [] s
      clear s
      go_wp2_with fail
      refine K.mono ?_; rintro e w7 ⟨u, rfl, s⟩
      clear K
      have K := of_l (b := true) (x := ⟨9, 2, 1, 0, 0, now + h + b, 0⟩) 9 (one_isP (kT i b h) (i := 9) ⟨9, 2, 1, 0, 0, now + h + b, 0⟩ (by decide) (by decide)) (one_of (kT i b h) (i := 9) ⟨9, 2, 1, 0, 0, now + h + b, 0⟩ (by decide) (by decide) rfl) s (g := g) (by simp)
      clear s
      obtain ⟨ua, un, uc⟩ := u
      simp only [List.length_cons, List.length_nil, Nat.zero_add]
      go_wp2_with fail
      refine K.mono ?_; rintro e w8 ⟨rfl, s⟩
      clear K
      simp only [Int.natCast_zero, Int.ofNat_zero, Int.cast_ofNat_Int]
      have s2 := s.box [.int .i64 9, .int .i64 2, .int .i64 1, .int .u32 0, .int .u16 0, .int .u64 (now + h + b), .int .u64 0] 61
      clear s
      obtain ⟨yb, yo, hyb, yl, yc⟩ := s2.step (u := ⟨ua, un, uc⟩) (L := [(9, 1)]) (by simp) (by decide)
      simp only at hyb
      subst hyb
      go_upto_region 26 with fail
      generalize (w8.alloc (.cells #[.int .i64 9, .int .i64 2, .int .i64 1, .int .u32 0, .int .u16 0, .int .u64 (now + h + b), .int .u64 0] 61)) = w9 at *
      generalize w8.heap.size = by' at *
      have k1 : w9.cell? ⟨yb, yo + 1, none⟩ = some (.int .i64 1) := by simpa using yc 0 (9, 1) rfl 1 _ rfl
      have cx := s2.cs (b := bx) (vs := [.int .i64 9, .int .i64 1, .int .i64 i, .int .u32 0, .int .u16 0, .int .u64 (now + h), .int .u64 0]) (by simp)
      have cy := s2.cs (b := by') (vs := [.int .i64 9, .int .i64 2, .int .i64 1, .int .u32 0, .int .u16 0, .int .u64 (now + h + b), .int .u64 0]) (by simp)
      have k2 := cx.cell 1 _ rfl
      have k3 := cy.cell 1 _ rfl
      have k4 := cy.cell 2 _ rfl
      have F := Lib.hid s2.below
      clear cx cy yc s2 D2 D3
      go_wp2
      refine bodyPost_ret (v := (.bool true)) (by simp [results, Try.results4, go_sem, *]) rfl ?_
      exact ⟨rfl, F.out⟩
theorem tries_run (t b h : Int) (w : World) (w1 : (Lit.int .u8 t).wf = true) (w2 : (Lit.int .u8 b).wf = true) (w3 : (Lit.int .u8 h).wf = true) :
    Calls Try.prog 4 #[.int .u8 t, .int .u8 b, .int .u8 h] w fun e w' => e = .returned (.bool true) ∧ Below w.heap.size w w' := by
  have h1 := bounds_u8 w1
  obtain ⟨n, hn⟩ : ∃ n : Nat, t % 8 + 1 = n := ⟨(t % 8 + 1).toNat, by omega⟩
  exact tries_walk t b h n _ _ h1.1 (bounds_u8 w2).1 (bounds_u8 w3).1 hn rfl rfl w
theorem pathTries_own : ownKnob Try.prog.godebug = none := by kernel_rfl
theorem pathTries_laid : laidOutB Try.prog = true := by kernel_rfl
set_option maxRecDepth 100000 in
theorem pathTries_lifted (os : Os) (started : os.Started) (H : Type) (enc : TypeId × Value → H) :
    ReturnsInHanded {} Try.checked os 4 .any (Rows.pathTriesSpec.pre6 enc Try.prog Try.f4 Rows.pathTriesRow.domain false) (Rows.pathTriesSpec.post enc Try.prog Try.f4 false true false false) := by
  refine returnsInHanded_of_change (C := Try.checked) pathTries_own started (by kernel_rfl) Try.func4
    (ChangeSpec.witness6 (enc := enc) (C := Try.checked) false ⟨#[], #[.int .u8 0, .int .u8 0, .int .u8 0], []⟩ 8 (by kernel_rfl) (by kernel_rfl) (by kernel_rfl) (by kernel_rfl)) ?_
  intro W base args ds gs before hval0 hW hcnd _
  have hval : ∀ (j : Nat) t v, Try.f4.params[j]? = some t → args[j]? = some v → Value.okWide Try.prog W .any base t v := hval0
  have hW' := hW
  obtain ⟨p, q, hA0, hV, rfl, hfz, hnd⟩ := hW
  have hA : DataW.TrodAll enc Try.prog W 0 (fun _ => true) true Try.f4.params.toList args.toList ds p := hA0
  rw [Try.params4] at hA hval
  obtain ⟨v0, vs0, d0, ds0, p0, q0, hargs, rfl, rfl, h0, r0⟩ := trodAll_cons hA
  obtain ⟨v1, vs1, d1, ds1, p1, q1, rfl, rfl, rfl, h1, r1⟩ := trodAll_cons r0
  obtain ⟨v2, vs2, d2, ds2, p2, q2, rfl, rfl, rfl, h2, r2⟩ := trodAll_cons r1
  obtain ⟨rfl, rfl, rfl⟩ := trodAll_nil r2
  obtain rfl : args = #[v0, v1, v2] := by cases args; simp_all
  obtain ⟨rfl, rfl⟩ := trodVars_none hV
  obtain ⟨a0, rfl, rfl, rfl, w0⟩ := open_int Try.underlying5 (hval 0 5 v0 rfl rfl) h0
  obtain ⟨a1, rfl, rfl, rfl, w1⟩ := open_int Try.underlying5 (hval 1 5 v1 rfl rfl) h1
  obtain ⟨a2, rfl, rfl, rfl, w2⟩ := open_int Try.underlying5 (hval 2 5 v2 rfl rfl) h2
  clear hA0 hval0
  refine (tries_run a0 a1 a2 W w0 w1 w2).mono fun e W' ⟨he, bel⟩ => ?_
  subst he
  exact ⟨_, rfl, _, _, _, [], _, [], hW', trodAll_mk1 (shut_bool Try.underlying4 _), (trodAll_cons_mk (shut_int Try.underlying5 w0) (trodAll_cons_mk (shut_int Try.underlying5 w1) (trodAll_cons_mk (shut_int Try.underlying5 w2) trodAll_mk0))), rfl, bel.frame _, fun h => by cases h⟩
theorem pathTries_over : Rows.pathTriesRow.holds Try.pinned (OpenSpec.ofChange Rows.pathTriesSpec) :=
  OpenClaim.holds_of_wide 4 Try.f4 rfl rfl rfl rfl rfl rfl rfl ⟨rfl, rfl, rfl, rfl, rfl⟩ rfl rfl rfl rfl rfl (by kernel_rfl) Try.func4 (by kernel_rfl)
    (of_decide_eq_true (by kernel_rfl)) (by unfold Func.isWrapper; first | (rw [if_pos (by decide +kernel)]; kernel_rfl) | (rw [if_neg (by decide +kernel)]; exact ⟨rfl, rfl⟩))
    (fun os started H enc _ => pathTries_lifted os started H enc)
theorem pathTries_holds : Rows.PathTriesSaid := pathTries_over
#print axioms pathTries_holds
end Go.Proofs.Ytpeoallhbbleaaa
