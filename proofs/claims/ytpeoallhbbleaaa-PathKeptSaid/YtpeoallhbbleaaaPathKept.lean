/- PathKept: a way that is open is kept by what is sent at its times as long as something is heard; with nothing heard it is tried anew: however often it is kept, however long it holds, till whatever time something is heard. -/
import Derived.Test.YtpeoallhbbleaaaPaEx
import Derived.Test.YtpeoallhbbleaaaKeptMath
import Derived.Deep.DeepCutAuto
import Derived.ChangeOld
import Derived.ChangeMaps5
import Derived.ShutString
import Derived.OpenShut
import Derived.SizedLaws
namespace Go.Proofs.Ytpeoallhbbleaaa
open Go.Sort Go.RowKit Go.BigFrame Go.ChangeShapes Go.WideShapes Go.Deep
set_option linter.unusedVariables false
set_option linter.unusedSimpArgs false

def KpJ (kp h : Int) (w : World) (g ba : Nat) (lv nv : Value) (wr : World) : Prop :=
  ∃ (now last : Int) (x : Pt), nv = .int .u64 now ∧ lv = .int .u64 last ∧ 1 ≤ now ∧ now ≤ 160 ∧ KInv kp h now last x ∧ St w [hC ba [.int .u32 4, .int .u16 4], hT g (oneK (kK kp h) 2 x)] wr
set_option maxHeartbeats 12800000 in
set_option maxRecDepth 100000 in
theorem kept_walk (k0 h0 till kp h : Int) (hk0 : 0 ≤ k0) (hh0 : 0 ≤ h0) (ht0 : 0 ≤ till ∧ till < 256) (ek : k0 % 10 + 1 = kp) (eh : kp + h0 % 40 = h) (w : World) :
    Calls Try.prog 5 #[.int .u8 k0, .int .u8 h0, .int .u8 till] w fun e w' => e = .returned (.bool true) ∧ Below w.heap.size w w' := by
  have E := ex_any w
  have hk : 1 ≤ kp ∧ kp ≤ 10 := by omega
  have hh : kp ≤ h ∧ h ≤ 50 := by omega
  have ra : k0.tmod 10 = kp - 1 := by rw [tmod_pos _ _ hk0]; omega
  have rb : h0.tmod 40 = h - kp := by rw [tmod_pos _ _ hh0]; omega
  have ya := IntWalk.u8_in (kp - 1) ⟨by omega, by omega⟩
  have yb := IntWalk.u8_in (h - kp) ⟨by omega, by omega⟩
  have za := IntWalk.u64_in (kp - 1) ⟨by omega, by omega⟩
  have zb := IntWalk.u64_in (h - kp) ⟨by omega, by omega⟩
  have sa : (1 : Int) + (kp - 1) = kp := by omega
  have sb : kp + (h - kp) = h := by omega
  have va := IntWalk.u64_in kp ⟨by omega, by omega⟩
  have vb := IntWalk.u64_in h ⟨by omega, by omega⟩
  have vt := IntWalk.u64_in till ⟨by omega, by omega⟩
  have MAY : mayI 3 2 kp h = true := mayI_iff.2 ⟨by omega, by omega, by omega, by omega, by omega⟩
  have HK := Lib.hid hk
  have HH := Lib.hid hh
  have HT := Lib.hid ht0
  clear hk0 hh0 ek eh hk hh ht0
  go_enter Try.func5, Try.ntmps5
  go_wp2_with fail
  refine E.mono ?_; rintro e w0 ⟨rfl, b0'⟩
  have K := newT_l MAY (St.start w w0 b0')
  rw [kK_one] at K
  clear E b0' MAY
  go_wp2_with fail
  refine K.mono ?_; rintro e w1 ⟨g, rfl, s⟩
  clear K ra rb ya yb za zb sa sb va vb
  have s2 := s.box [.int .u32 4, .int .u16 4] 35
  clear s
  go_upto_region 8 with fail
  generalize (w1.alloc (.cells #[.int .u32 4, .int .u16 4] 35)) = w2 at *
  generalize w1.heap.size = ba at *
  have O1 : openE 2 4 4 0 = 0 ∧ openD (oneK (kK kp h) 2 zP) 2 4 4 0 = oneK (kK kp h) 2 ⟨2, 3, 0, 4, 4, kp, h⟩ := by
    have h1 := one_open (kK kp h) (i := 2) zP (by decide) (by decide) (ip := 4) (pt := 4) (by decide) (now := 0) (by decide)
    rw [show (0 : Int) + (kK kp h).keep = kp by show 0 + kp = kp; omega, show (0 : Int) + (kK kp h).hold = h by show 0 + h = h; omega] at h1
    exact h1
  have cells := s2.cs (b := ba) (vs := [.int .u32 4, .int .u16 4]) (by simp)
  have c0 := cells.cell 0 _ rfl
  have c1 := cells.cell 1 _ rfl
  have cl := cells.lt
  clear cells
  have K := open_l (k' := oneK (kK kp h) 2 ⟨2, 3, 0, 4, 4, kp, h⟩) (e := 0) 2 4 4 0 (by decide) (by decide) (by decide) O1.1 O1.2 [_] [] s2
  clear s2 O1
  go_wp2_with fail
  refine K.mono ?_; rintro e w3 ⟨rfl, s⟩
  have S0 : Hid (KpJ kp h w g ba (.int .u64 0) (.int .u64 1) w3) := ⟨1, 0, ⟨2, 3, 0, 4, 4, kp, h⟩, rfl, rfl, by decide, by decide, ⟨rfl, by decide, by decide, fun _ => ⟨⟨rfl, rfl⟩, by show h = 0 + h; omega, by have := HH.out; have := HK.out; show kp < 0 + h + kp; omega, by have := HK.out; show 1 ≤ kp; omega⟩⟩, s⟩
  clear K s c0 c1 cl
  go_wp2_with fail
  go_loopw [13, 14] (fun lv nv wr => KpJ kp h w g ba lv nv wr) (fun _ nv _ => (160 - intOf nv).toNat)
  case atStart => exact S0.out
  case round =>
    obtain ⟨now, last, x, rfl, rfl, hn1, hn2, hi, hs⟩ := hrel
    have HS := Lib.hid hs
    have HI := Lib.hid hi
    clear hs S0 hi
    by_cases hlt : now < 160
    · have p1 := IntWalk.u64_in (now + 1) ⟨by omega, by omega⟩
      have NN : Hid ((1 ≤ now ∧ now ≤ 160) ∧ now < 160) := ⟨⟨hn1, hn2⟩, hlt⟩
      have K := of_l (b := true) (x := x) 2 (by rw [show (2 : Int) = ((2 : Nat) : Int) from rfl, one_isP _ x (by decide) (by decide)]; exact HI.out.is) (one_of (kK kp h) (i := 2) x (by decide) (by decide) HI.out.is) HS.out (g := g) (k := oneK (kK kp h) 2 x) (by simp)
      clear HS hn1 hn2
      go_wp2_with fail
      refine K.mono ?_; rintro e w4 ⟨rfl, s⟩
      clear K
      have s2 := s.box [.int .i64 x.peer, .int .i64 x.st, .int .i64 x.tr, .int .u32 x.ip, .int .u16 x.pt, .int .u64 x.nx, .int .u64 x.un] 61
      clear s
      go_upto_region 15 with fail
      generalize (w4.alloc (.cells #[.int .i64 x.peer, .int .i64 x.st, .int .i64 x.tr, .int .u32 x.ip, .int .u16 x.pt, .int .u64 x.nx, .int .u64 x.un] 61)) = w5 at *
      generalize w4.heap.size = bx at *
      have SX := Lib.hid s2
      clear s2
      obtain ⟨q, hq⟩ : ∃ q, q = (decide (now ≤ till) && (x.st == 3)) := ⟨_, rfl⟩
      replace hq := Lib.hid hq
      go_upto_region 17 with fail
      go_cut [75] (fun c wx => c = .bool q ∧ St w [hC bx [.int .i64 x.peer, .int .i64 x.st, .int .i64 x.tr, .int .u32 x.ip, .int .u16 x.pt, .int .u64 x.nx, .int .u64 x.un], hC ba [.int .u32 4, .int .u16 4], hT g (oneK (kK kp h) 2 (hX h now x q))] wx)
      case first =>
        cases d1 : decide (now ≤ till) with
        | false =>
          have hq2 : q = false := by rw [hq.out, d1]; rfl
          subst hq2
          go_wp2_with fail
          go_meet
          exact ⟨rfl, SX.out⟩
        | true =>
          have hq2 : q = (x.st == 3) := by rw [hq.out, d1]; rfl
          have H := one_heard (kK kp h) (i := 2) x (by decide) (by decide) 4 4 (now := now) (by omega)
          rw [kept_isH HI.out, ← hq2] at H
          have K := heard_l (b := q) (k' := oneK (kK kp h) 2 (hX h now x q)) 2 4 4 now (by have := NN.out; omega) H.1 H.2 [_, _] [] SX.out
          have cells := SX.out.cs (b := ba) (vs := [.int .u32 4, .int .u16 4]) (by simp)
          have c0 := cells.cell 0 _ rfl
          have c1 := cells.cell 1 _ rfl
          have cl := cells.lt
          clear cells
          clear SX H hq2 hq
          go_wp2_with fail
          refine K.mono ?_; rintro e w6 ⟨rfl, s⟩
          have SY := Lib.hid s
          clear K s c0 c1 cl
          go_wp2_with fail
          go_meet
          exact ⟨rfl, SY.out⟩
      case rest =>
      obtain ⟨rfl, hs⟩ := hcut
      generalize wc = w6 at *
      have SM := Lib.hid hs
      have HM := kept_heard HI.out (by have := NN.out; omega) (by have := HH.out; have := HK.out; omega) q (fun e => by
        have := hq.out
        rw [e] at this
        have := (Bool.and_eq_true _ _).mp this.symm
        exact beq_iff_eq.1 this.2)
      clear hs SX hq HI
      obtain ⟨lst, hlst⟩ : ∃ l, hL now last q = l := ⟨_, rfl⟩
      obtain ⟨x', hx'⟩ : ∃ l, hX h now x q = l := ⟨_, rfl⟩
      replace hlst := Lib.hid hlst
      rw [hx', hlst.out] at HM
      replace SM : Hid (St w [hC bx [.int .i64 x.peer, .int .i64 x.st, .int .i64 x.tr, .int .u32 x.ip, .int .u16 x.pt, .int .u64 x.nx, .int .u64 x.un], hC ba [.int .u32 4, .int .u16 4], hT g (oneK (kK kp h) 2 x')] w6) := by rw [← hx']; exact SM.out
      obtain ⟨hm, hst⟩ := HM
      obtain ⟨y, L, e1, e2, hy, hc⟩ := kept_due (by have := HK.out; omega) (by omega) hm
      clear hx'
      go_upto_if 75 with fail
      go_cut [13] (fun lv wx => lv = .int .u64 lst ∧ w6 = wx)
      case first =>
        unfold hL at hlst
        cases q with
        | true =>
          obtain rfl : now = lst := by simpa using hlst.out
          go_wp2_with fail
          go_meet
          exact ⟨rfl, rfl⟩
        | false =>
          obtain rfl : last = lst := by simpa using hlst.out
          go_wp2_with fail
          go_meet
          exact ⟨rfl, rfl⟩
      case rest =>
      obtain ⟨rfl, rfl⟩ := hcut
      clear hlst
      have K := due_l now (by have := NN.out; omega) e1 e2 [_, _] [] SM.out
      clear SM e1 e2
      go_wp2_with fail
      refine K.mono ?_; rintro e w7 ⟨u, rfl, s⟩
      clear K
      have K := of_l (b := true) (x := y) 2 (by rw [show (2 : Int) = ((2 : Nat) : Int) from rfl, one_isP _ y (by decide) (by decide)]; exact hy.is) (one_of (kK kp h) (i := 2) y (by decide) (by decide) hy.is) s (g := g) (k := oneK (kK kp h) 2 y) (by simp)
      clear s
      go_wp2_with fail
      refine K.mono ?_; rintro e w8 ⟨rfl, s⟩
      clear K
      have s2 := s.box [.int .i64 y.peer, .int .i64 y.st, .int .i64 y.tr, .int .u32 y.ip, .int .u16 y.pt, .int .u64 y.nx, .int .u64 y.un] 61
      clear s
      go_upto_region 21 with fail
      generalize (w8.alloc (.cells #[.int .i64 y.peer, .int .i64 y.st, .int .i64 y.tr, .int .u32 y.ip, .int .u16 y.pt, .int .u64 y.nx, .int .u64 y.un] 61)) = w9 at *
      generalize w8.heap.size = bb at *
      simp only [List.cons_append, List.nil_append] at s2
      have cx := s2.cs (b := bx) (vs := [.int .i64 x.peer, .int .i64 x.st, .int .i64 x.tr, .int .u32 x.ip, .int .u16 x.pt, .int .u64 x.nx, .int .u64 x.un]) (by simp)
      have cy := s2.cs (b := bb) (vs := [.int .i64 y.peer, .int .i64 y.st, .int .i64 y.tr, .int .u32 y.ip, .int .u16 y.pt, .int .u64 y.nx, .int .u64 y.un]) (by simp)
      have cells := s2.cs (b := ba) (vs := [.int .u32 4, .int .u16 4]) (by simp)
      have c0 := cells.cell 0 _ rfl
      have c1 := cells.cell 1 _ rfl
      have cl := cells.lt
      clear cells
      have x1 := cx.cell 1 _ rfl
      have y1 := cy.cell 1 _ rfl
      have y3 := cy.cell 3 _ rfl
      have y4 := cy.cell 4 _ rfl
      have y6 := cy.cell 6 _ rfl
      have S9 : Hid (St w [hC ba [.int .u32 4, .int .u16 4], hT g (oneK (kK kp h) 2 y)] w9) := s2.sub (by repeat (first | exact List.Sublist.refl _ | apply List.Sublist.cons_cons | apply List.Sublist.cons))
      have HY := Lib.hid hy
      have HHo := HH.out
      have HKo := HK.out
      have l0 := hm.l0
      have l1 := hm.l1
      have p2 := IntWalk.u64_in (lst + h) ⟨by omega, by omega⟩
      clear cx cy hy
      obtain ⟨ua, un, uc⟩ := u
      rcases hc with ⟨a, b⟩ | ⟨a, b, c⟩ | ⟨a, b, c⟩ | ⟨a, b, c, d⟩
      · have a' : (x.st == 3) = false := beq_eq_false_iff_ne.2 (by rw [← hst]; exact a)
        have b' : (y.st == 3) = false := beq_eq_false_iff_ne.2 b
        clear s2 hm a b
        generalize L.length = m at *
        go_wp2
        go_roundw
        case rel => exact ⟨now + 1, lst, y, rfl, rfl, by have := NN.out; omega, by have := NN.out; omega, HY.out, S9.out⟩
        case measure => simp [intOf]; have := NN.out; omega
      · rw [hst] at a
        subst c
        have op := HY.out.op b
        rw [a] at x1
        rw [b] at y1
        rw [op.1.1] at y3
        rw [op.1.2] at y4
        rw [op.2.1] at y6
        replace y3 : w9.cell? ⟨bb, 3, none⟩ = some (.int .u32 4) := y3
        replace y4 : w9.cell? ⟨bb, 4, none⟩ = some (.int .u16 4) := y4
        clear op
        simp only [List.length_nil]
        clear s2 hm
        cases dz : decide (now < lst + h) with
        | true =>
          go_wp2
          go_roundw
          case rel => exact ⟨now + 1, lst, y, rfl, rfl, by have := NN.out; omega, by have := NN.out; omega, HY.out, S9.out⟩
          case measure => simp [intOf]; have := NN.out; omega
        | false =>
          go_wp2
          go_roundw
          case rel => exact ⟨now + 1, lst, y, rfl, rfl, by have := NN.out; omega, by have := NN.out; omega, HY.out, S9.out⟩
          case measure => simp [intOf]; have := NN.out; omega
      · rw [hst] at a
        subst c
        have op := HY.out.op b
        rw [a] at x1
        rw [b] at y1
        rw [op.1.1] at y3
        rw [op.1.2] at y4
        rw [op.2.1] at y6
        replace y3 : w9.cell? ⟨bb, 3, none⟩ = some (.int .u32 4) := y3
        replace y4 : w9.cell? ⟨bb, 4, none⟩ = some (.int .u16 4) := y4
        clear op
        obtain ⟨zb, zo, hzb, zl, zc⟩ := s2.step (u := ⟨ua, un, uc⟩) (L := [(2, 2)]) (by simp) (by decide)
        simp only at hzb
        subst hzb
        have z1 : w9.cell? ⟨zb, zo + 1, none⟩ = some (.int .i64 2) := by simpa using zc 0 (2, 2) rfl 1 _ rfl
        simp only [List.length_cons, List.length_nil, Nat.zero_add]
        clear zc
        clear s2 hm
        cases dz : decide (now < lst + h) with
        | true =>
          go_wp2
          go_roundw
          case rel => exact ⟨now + 1, lst, y, rfl, rfl, by have := NN.out; omega, by have := NN.out; omega, HY.out, S9.out⟩
          case measure => simp [intOf]; have := NN.out; omega
        | false =>
          go_wp2
          go_roundw
          case rel => exact ⟨now + 1, lst, y, rfl, rfl, by have := NN.out; omega, by have := NN.out; omega, HY.out, S9.out⟩
          case measure => simp [intOf]; have := NN.out; omega
      · rw [hst] at a
        subst c
        have b' : (y.st == 3) = false := beq_eq_false_iff_ne.2 b
        have d' : decide (now < lst + h) = false := decide_eq_false (by omega)
        rw [a] at x1
        obtain ⟨zb, zo, hzb, zl, zc⟩ := s2.step (u := ⟨ua, un, uc⟩) (L := [(2, 1)]) (by simp) (by decide)
        simp only at hzb
        subst hzb
        have z1 : w9.cell? ⟨zb, zo + 1, none⟩ = some (.int .i64 1) := by simpa using zc 0 (2, 1) rfl 1 _ rfl
        simp only [List.length_cons, List.length_nil, Nat.zero_add]
        clear zc
        clear s2 hm b
        go_wp2
        go_roundw
        case rel => exact ⟨now + 1, lst, y, rfl, rfl, by have := NN.out; omega, by have := NN.out; omega, HY.out, S9.out⟩
        case measure => simp [intOf]; have := NN.out; omega
    · obtain rfl : now = 160 := by omega
      have hge : ¬ ((160 : Int) < 160) := by omega
      have K := of_l (b := true) (x := x) 2 (by rw [show (2 : Int) = ((2 : Nat) : Int) from rfl, one_isP _ x (by decide) (by decide)]; exact HI.out.is) (one_of (kK kp h) (i := 2) x (by decide) (by decide) HI.out.is) HS.out (g := g) (k := oneK (kK kp h) 2 x) (by simp)
      clear HS hn1 hn2
      go_wp2_with fail
      refine K.mono ?_; rintro e w4 ⟨rfl, s⟩
      clear K
      have s2 := s.box [.int .i64 x.peer, .int .i64 x.st, .int .i64 x.tr, .int .u32 x.ip, .int .u16 x.pt, .int .u64 x.nx, .int .u64 x.un] 61
      clear s
      go_upto_region 29 with fail
      generalize (w4.alloc (.cells #[.int .i64 x.peer, .int .i64 x.st, .int .i64 x.tr, .int .u32 x.ip, .int .u16 x.pt, .int .u64 x.nx, .int .u64 x.un] 61)) = w5 at *
      generalize w4.heap.size = bx at *
      have H := one_heard (kK kp h) (i := 2) x (by decide) (by decide) 5 5 (now := 170) (by decide)
      rw [kept_other HI.out, if_neg (by decide)] at H
      have K := heard_l (b := false) (k' := oneK (kK kp h) 2 x) 2 5 5 170 (by decide) H.1 H.2 [_, _] [] s2
      clear s2 H
      go_wp2_with fail
      refine K.mono ?_; rintro e w6 ⟨rfl, s⟩
      clear K
      have x1 := (s.cs (b := bx) (vs := [.int .i64 x.peer, .int .i64 x.st, .int .i64 x.tr, .int .u32 x.ip, .int .u16 x.pt, .int .u64 x.nx, .int .u64 x.un]) (by simp)).cell 1 _ rfl
      have F := Lib.hid s.below
      have KE := Lib.hid (fun e => kept_end HI.out e)
      have l0 := HI.out.l0
      have l1 := HI.out.l1
      have HHo := HH.out
      have HKo := HK.out
      have p2 := IntWalk.u64_in (last + h) ⟨by omega, by omega⟩
      have p3 := IntWalk.u64_in (last + h + kp) ⟨by omega, by omega⟩
      clear s HI
      by_cases ht : 160 ≤ till
      · have ht2 : decide (160 ≤ till) = true := decide_eq_true ht
        go_wp2
        refine bodyPost_ret (v := (.bool true)) (by simp [results, Try.results5, go_sem, *]) rfl ?_
        exact ⟨rfl, F.out⟩
      · have ht2 : decide (160 ≤ till) = false := decide_eq_false ht
        by_cases h3 : x.st = 3
        · have hke := KE.out h3
          have hke2 : decide (160 ≤ last + h + kp) = true := decide_eq_true hke
          rw [h3] at x1
          go_wp2
          refine bodyPost_ret (v := (.bool true)) (by simp [results, Try.results5, go_sem, *]) rfl ?_
          exact ⟨rfl, F.out⟩
        · have h3' : (x.st == 3) = false := beq_eq_false_iff_ne.2 h3
          go_wp2
          refine bodyPost_ret (v := (.bool true)) (by simp [results, Try.results5, go_sem, *]) rfl ?_
          exact ⟨rfl, F.out⟩
theorem kept_run (k h t : Int) (w : World) (w1 : (Lit.int .u8 k).wf = true) (w2 : (Lit.int .u8 h).wf = true) (w3 : (Lit.int .u8 t).wf = true) :
    Calls Try.prog 5 #[.int .u8 k, .int .u8 h, .int .u8 t] w fun e w' => e = .returned (.bool true) ∧ Below w.heap.size w w' := by
  have h3 := bounds_u8 w3
  exact kept_walk k h t _ _ (bounds_u8 w1).1 (bounds_u8 w2).1 (by omega) rfl rfl w
theorem pathKept_own : ownKnob Try.prog.godebug = none := by kernel_rfl
theorem pathKept_laid : laidOutB Try.prog = true := by kernel_rfl
set_option maxRecDepth 100000 in
theorem pathKept_lifted (os : Os) (started : os.Started) (H : Type) (enc : TypeId × Value → H) :
    ReturnsInHanded {} Try.checked os 5 .any (Rows.pathKeptSpec.pre6 enc Try.prog Try.f5 Rows.pathKeptRow.domain false) (Rows.pathKeptSpec.post enc Try.prog Try.f5 false true false false) := by
  refine returnsInHanded_of_change (C := Try.checked) pathKept_own started (by kernel_rfl) Try.func5
    (ChangeSpec.witness6 (enc := enc) (C := Try.checked) false ⟨#[], #[.int .u8 0, .int .u8 0, .int .u8 0], []⟩ 8 (by kernel_rfl) (by kernel_rfl) (by kernel_rfl) (by kernel_rfl)) ?_
  intro W base args ds gs before hval0 hW hcnd _
  have hval : ∀ (j : Nat) t v, Try.f5.params[j]? = some t → args[j]? = some v → Value.okWide Try.prog W .any base t v := hval0
  have hW' := hW
  obtain ⟨p, q, hA0, hV, rfl, hfz, hnd⟩ := hW
  have hA : DataW.TrodAll enc Try.prog W 0 (fun _ => true) true Try.f5.params.toList args.toList ds p := hA0
  rw [Try.params5] at hA hval
  obtain ⟨v0, vs0, d0, ds0, p0, q0, hargs, rfl, rfl, h0, r0⟩ := trodAll_cons hA
  obtain ⟨v1, vs1, d1, ds1, p1, q1, rfl, rfl, rfl, h1, r1⟩ := trodAll_cons r0
  obtain ⟨v2, vs2, d2, ds2, p2, q2, rfl, rfl, rfl, h2, r2⟩ := trodAll_cons r1
  obtain ⟨rfl, rfl, rfl⟩ := trodAll_nil r2
  obtain rfl : args = #[v0, v1, v2] := by cases args; simp_all
  obtain ⟨rfl, rfl⟩ := trodVars_none hV
  obtain ⟨a0, rfl, rfl, rfl, w0⟩ := open_int Try.underlying5 (hval 0 5 v0 rfl rfl) h0
  obtain ⟨a1, rfl, rfl, rfl, w1⟩ := open_int Try.underlying5 (hval 1 5 v1 rfl rfl) h1
  obtain ⟨a2, rfl, rfl, rfl, w2⟩ := open_int Try.underlying5 (hval 2 5 v2 rfl rfl) h2
  clear hA0 hval0
  refine (kept_run a0 a1 a2 W w0 w1 w2).mono fun e W' ⟨he, bel⟩ => ?_
  subst he
  exact ⟨_, rfl, _, _, _, [], _, [], hW', trodAll_mk1 (shut_bool Try.underlying4 _), (trodAll_cons_mk (shut_int Try.underlying5 w0) (trodAll_cons_mk (shut_int Try.underlying5 w1) (trodAll_cons_mk (shut_int Try.underlying5 w2) trodAll_mk0))), rfl, bel.frame _, fun h => by cases h⟩
theorem pathKept_over : Rows.pathKeptRow.holds Try.pinned (OpenSpec.ofChange Rows.pathKeptSpec) :=
  OpenClaim.holds_of_wide 5 Try.f5 rfl rfl rfl rfl rfl rfl rfl ⟨rfl, rfl, rfl, rfl, rfl⟩ rfl rfl rfl rfl rfl (by kernel_rfl) Try.func5 (by kernel_rfl)
    (of_decide_eq_true (by kernel_rfl)) (by unfold Func.isWrapper; first | (rw [if_pos (by decide +kernel)]; kernel_rfl) | (rw [if_neg (by decide +kernel)]; exact ⟨rfl, rfl⟩))
    (fun os started H enc _ => pathKept_lifted os started H enc)
theorem pathKept_holds : Rows.PathKeptSaid := pathKept_over
#print axioms pathKept_holds
end Go.Proofs.Ytpeoallhbbleaaa
