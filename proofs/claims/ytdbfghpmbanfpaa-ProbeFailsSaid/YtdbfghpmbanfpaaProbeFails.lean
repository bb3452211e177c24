/- ProbeFails: it fails just when both stages ran out, with no answer of its Seq: first others are asked, then it fails, each once, each at its time; an answer ends it at once: for both times, whenever the answer comes, and whether it is of its Seq. -/
import Derived.Test.YtdbfghpmbanfpaaPbEx
import Derived.Deep.DeepCutAuto
import Derived.ChangeOld
import Derived.ChangeMaps5
import Derived.ShutString
import Derived.OpenShut
import Derived.SizedLaws
namespace Go.Proofs.Ytdbfghpmbanfpaa
open Go.Sort Go.RowKit Go.BigFrame Go.ChangeShapes Go.WideShapes Go.Deep
set_option linter.unusedVariables false
set_option linter.unusedSimpArgs false

theorem St.pbox2 {w0 w : World} {H : List Hl} (s : St w0 H w) (p q : Pr) : St w0 (hP (w.heap.size + 1) q :: hP w.heap.size p :: H) ((w.alloc (.cells #[.int .i64 p.st, .int .i64 p.tg, .int .i64 p.nk, .int .u32 p.sq, .int .u64 p.un, .int .u64 p.fi, .int .u64 p.se] 26)).alloc (.cells #[.int .i64 q.st, .int .i64 q.tg, .int .i64 q.nk, .int .u32 q.sq, .int .u64 q.un, .int .u64 q.fi, .int .u64 q.se] 26)) := by
  have h := (s.pbox p).pbox q
  rwa [World.size_alloc] at h
/-- where a probe stands behind k ticks, the answer (at AT) being behind what was done below m -/
inductive Ph (A B TA TB AT : Int) (own : Bool) (m k : Int) : Int → Int → Pr → Prop
  | d : k ≤ A → (own = true → m ≤ AT) → Ph A B TA TB AT own m k 0 0 ⟨1, 3, 0, 7, TA, A, B⟩
  | i : A < k → k ≤ A + B → (own = true → m ≤ AT) → Ph A B TA TB AT own m k 1 0 ⟨2, 3, 0, 7, TB, A, B⟩
  | f : A + B < k → (own = true → A + B < AT) → Ph A B TA TB AT own m k 1 1 ⟨0, 0, 0, 0, 0, A, B⟩
  | e : own = true → AT ≤ A → AT < m → Ph A B TA TB AT own m k 0 0 ⟨0, 0, 0, 0, 0, A, B⟩
  | l : own = true → A < AT → AT ≤ A + B → AT < m → Ph A B TA TB AT own m k 1 0 ⟨0, 0, 0, 0, 0, A, B⟩
def FaJ (A B TA TB AT : Int) (own : Bool) (w : World) (d1 d2 : Nat) (av fv iv : Value) (wr : World) : Prop :=
  ∃ (k x y : Int) (p : Pr), iv = .int .u64 k ∧ 0 ≤ k ∧ k ≤ 120 ∧ av = .int .i64 x ∧ fv = .int .i64 y ∧ Ph A B TA TB AT own k k x y p ∧ St w [hP d2 ⟨0, 0, 0, 0, 0, A, B⟩, hP d1 p] wr
set_option maxHeartbeats 6400000 in
set_option maxRecDepth 100000 in
theorem fails_walk (f s y : Int) (own : Bool) (hf : 0 ≤ f ∧ f ≤ 255) (hs : 0 ≤ s ∧ s ≤ 255) (hy : 0 ≤ y ∧ y ≤ 255) (w : World) :
    Calls Try.prog 3 #[.int .u8 f, .int .u8 s, .int .u8 y, .bool own] w fun e w' => e = .returned (.bool true) ∧ Below w.heap.size w w' := by
  have E := ex_any w
  obtain ⟨x1, hx1⟩ : ∃ x, f % 50 = x := ⟨_, rfl⟩
  obtain ⟨x2, hx2⟩ : ∃ x, s % 50 = x := ⟨_, rfl⟩
  obtain ⟨AT, hAT⟩ : ∃ x, y % 130 = x := ⟨_, rfl⟩
  have t1 : f.tmod 50 = x1 := by rw [tmod_pos _ _ hf.1]; exact hx1
  have t2 : s.tmod 50 = x2 := by rw [tmod_pos _ _ hs.1]; exact hx2
  have t3 : y.tmod 130 = AT := by rw [tmod_pos _ _ hy.1]; exact hAT
  have b1 : 0 ≤ x1 ∧ x1 < 50 := by omega
  have b2 : 0 ≤ x2 ∧ x2 < 50 := by omega
  have b3 : 0 ≤ AT ∧ AT < 130 := by omega
  have u1 := IntWalk.u8_in x1 ⟨by omega, by omega⟩
  have u2 := IntWalk.u8_in x2 ⟨by omega, by omega⟩
  have v1 := IntWalk.u64_in x1 ⟨by omega, by omega⟩
  have v2 := IntWalk.u64_in x2 ⟨by omega, by omega⟩
  have v3 := IntWalk.u64_in y ⟨by omega, by omega⟩
  have v4 := IntWalk.u64_in AT ⟨by omega, by omega⟩
  obtain ⟨A, hA⟩ : ∃ A, 1 + x1 = A := ⟨_, rfl⟩
  obtain ⟨B, hB⟩ : ∃ B, 1 + x2 = B := ⟨_, rfl⟩
  obtain ⟨TA, hTA⟩ : ∃ x, 100 + A = x := ⟨_, rfl⟩
  obtain ⟨TB, hTB⟩ : ∃ x, TA + B = x := ⟨_, rfl⟩
  obtain ⟨C, hC⟩ : ∃ x, A + B = x := ⟨_, rfl⟩
  have a1 : 1 ≤ A ∧ A ≤ 50 := by omega
  have a2 : 1 ≤ B ∧ B ≤ 50 := by omega
  have k1 : IntKind.u64.wrap (1 + x1) = A := by rw [hA]; exact IntWalk.u64_in A ⟨by omega, by omega⟩
  have k2 : IntKind.u64.wrap (1 + x2) = B := by rw [hB]; exact IntWalk.u64_in B ⟨by omega, by omega⟩
  have k3 : IntKind.u64.wrap (100 + A) = TA := by rw [hTA]; exact IntWalk.u64_in _ ⟨by omega, by omega⟩
  have k4 : IntKind.u64.wrap (TA + B) = TB := by rw [hTB]; exact IntWalk.u64_in _ ⟨by omega, by omega⟩
  have k5 : IntKind.u64.wrap (A + B) = C := by rw [hC]; exact IntWalk.u64_in _ ⟨by omega, by omega⟩
  have c_new : Hid (newP A B = (⟨0, 0, 0, 0, 0, A, B⟩, 0)) := by
    show newP A B = _
    unfold newP mayB
    rw [if_pos (by simp; omega)]
  have c_start : Hid (startP ⟨0, 0, 0, 0, 0, A, B⟩ 3 7 100 = (⟨1, 3, 0, 7, TA, A, B⟩, 0)) := by
    show startP _ _ _ _ = _
    unfold startP
    rw [if_neg (by omega), if_pos rfl, ← k3]
  have c_ackD : Hid (ackP ⟨1, 3, 0, 7, TA, A, B⟩ 7 = (⟨0, 0, 0, 0, 0, A, B⟩, true)) := by show ackP _ _ = _; simp [ackP, endP]
  have c_ackJ : Hid (ackP ⟨2, 3, 0, 7, TB, A, B⟩ 7 = (⟨0, 0, 0, 0, 0, A, B⟩, true)) := by show ackP _ _ = _; simp [ackP, endP]
  have c_noD : Hid (ackP ⟨1, 3, 0, 7, TA, A, B⟩ 8 = (⟨1, 3, 0, 7, TA, A, B⟩, false)) := by show ackP _ _ = _; simp [ackP]
  have c_noJ : Hid (ackP ⟨2, 3, 0, 7, TB, A, B⟩ 8 = (⟨2, 3, 0, 7, TB, A, B⟩, false)) := by show ackP _ _ = _; simp [ackP]
  have c_noI : Hid (∀ q, ackP ⟨0, 0, 0, 0, 0, A, B⟩ q = (⟨0, 0, 0, 0, 0, A, B⟩, false)) := by intro q; simp [ackP]
  have c_tD0 : Hid (∀ k, k < TA → tickP ⟨1, 3, 0, 7, TA, A, B⟩ k = (⟨1, 3, 0, 7, TA, A, B⟩, 0)) := by intro k h; simp [tickP, h]
  have c_tD1 : Hid (∀ k, k = TA → tickP ⟨1, 3, 0, 7, TA, A, B⟩ k = (⟨2, 3, 0, 7, TB, A, B⟩, 1)) := by intro k h; subst h; simp [tickP, k4]
  have c_tJ0 : Hid (∀ k, k < TB → tickP ⟨2, 3, 0, 7, TB, A, B⟩ k = (⟨2, 3, 0, 7, TB, A, B⟩, 0)) := by intro k h; simp [tickP, h]
  have c_tJ1 : Hid (∀ k, k = TB → tickP ⟨2, 3, 0, 7, TB, A, B⟩ k = (⟨0, 0, 0, 0, 0, A, B⟩, 2)) := by intro k h; subst h; simp [tickP, endP]
  have c_tI : Hid (∀ k, tickP ⟨0, 0, 0, 0, 0, A, B⟩ k = (⟨0, 0, 0, 0, 0, A, B⟩, 0)) := by intro k; simp [tickP]
  replace hTA := Lib.hid hTA
  replace hTB := Lib.hid hTB
  replace hC := Lib.hid hC
  clear hA hB hx1 hx2 hAT
  go_enter Try.func3, Try.ntmps3
  go_wp2_with fail
  refine E.mono ?_; rintro e w0 ⟨rfl, b0⟩
  have K := new_l A B c_new.out (St.start w w0 b0)
  clear E b0
  go_wp2_with fail
  refine K.mono ?_; rintro e w1 ⟨rfl, s⟩
  have S := Lib.hid (s.pbox2 ⟨0, 0, 0, 0, 0, A, B⟩ ⟨0, 0, 0, 0, 0, A, B⟩)
  have K := start_l ⟨0, 0, 0, 0, 0, A, B⟩ 3 7 100 c_start.out S.out
  clear s
  go_wp2_with fail
  refine K.mono ?_; rintro e w2 ⟨rfl, s⟩
  clear K S
  generalize w1.heap.size + 1 = d2 at *
  generalize w1.heap.size = d1 at *
  obtain ⟨f0, f1, f2, f3, f4, f5, f6⟩ := s.pf (b := d1) (p := ⟨0, 0, 0, 0, 0, A, B⟩) (by simp)
  obtain ⟨c0, c1, c2, c3, c4, c5, c6⟩ := s.pc (b := d1) (p := ⟨0, 0, 0, 0, 0, A, B⟩) (by simp)
  have l1 := s.pl (b := d1) (p := ⟨0, 0, 0, 0, 0, A, B⟩) (by simp)
  have S := Lib.hid (s.pset [_] [] ⟨1, 3, 0, 7, TA, A, B⟩)
  clear s c_new c_start
  go_wp2_with fail
  go_loopw [16, 17, 19] (fun av fv iv wr => FaJ A B TA TB AT own w d1 d2 av fv iv wr) (fun _ _ iv _ => 120 - (intOf iv).toNat)
  case atStart => exact ⟨0, 0, 0, _, rfl, by omega, by omega, rfl, rfl, .d (by omega) (fun _ => by omega), S.out⟩
  case round =>
    obtain ⟨k, x, z, p, rfl, h0, h1, rfl, rfl, hph, hs⟩ := hrel
    clear S f0 f1 f2 f3 f4 f5 f6 c0 c1 c2 c3 c4 c5 c6 l1
    by_cases hlt : k < 120
    · have S := Lib.hid hs
      clear hs
      go_upto_if 65 with fail
      go_cut [] (fun wx => ∃ p', Ph A B TA TB AT own (k + 1) k x z p' ∧ St w [hP d2 ⟨0, 0, 0, 0, 0, A, B⟩, hP d1 p'] wx)
      case first =>
        by_cases hk : k = AT
        · have hkb : (k == AT) = true := beq_iff_eq.2 hk
          subst hk
          cases own
          · cases hph with
            | d hA1 hA2 =>
              obtain ⟨c0, c1, c2, c3, c4, c5, c6⟩ := S.out.pc (b := d1) (p := ⟨1, 3, 0, 7, TA, A, B⟩) (by simp)
              have K := ack_l ⟨1, 3, 0, 7, TA, A, B⟩ 8 c_noD.out S.out
              go_wp2_with fail
              refine K.mono ?_; rintro e w3 ⟨rfl, s⟩
              clear K S c0 c1 c2 c3 c4 c5 c6
              obtain ⟨f0, f1, f2, f3, f4, f5, f6⟩ := s.pf (b := d1) (p := ⟨1, 3, 0, 7, TA, A, B⟩) (by simp)
              obtain ⟨c0, c1, c2, c3, c4, c5, c6⟩ := s.pc (b := d1) (p := ⟨1, 3, 0, 7, TA, A, B⟩) (by simp)
              have l1 := s.pl (b := d1) (p := ⟨1, 3, 0, 7, TA, A, B⟩) (by simp)
              have S := Lib.hid ((s.pset [_] [] ⟨1, 3, 0, 7, TA, A, B⟩).alloc (.cells (pcs ⟨1, 3, 0, 7, TA, A, B⟩).toArray 26))
              clear s
              go_wp2_with fail
              go_meet
              exact ⟨_, .d hA1 (fun h => by simp at h), S.out⟩
            | i hA1 hA2 hA3 =>
              obtain ⟨c0, c1, c2, c3, c4, c5, c6⟩ := S.out.pc (b := d1) (p := ⟨2, 3, 0, 7, TB, A, B⟩) (by simp)
              have K := ack_l ⟨2, 3, 0, 7, TB, A, B⟩ 8 c_noJ.out S.out
              go_wp2_with fail
              refine K.mono ?_; rintro e w3 ⟨rfl, s⟩
              clear K S c0 c1 c2 c3 c4 c5 c6
              obtain ⟨f0, f1, f2, f3, f4, f5, f6⟩ := s.pf (b := d1) (p := ⟨2, 3, 0, 7, TB, A, B⟩) (by simp)
              obtain ⟨c0, c1, c2, c3, c4, c5, c6⟩ := s.pc (b := d1) (p := ⟨2, 3, 0, 7, TB, A, B⟩) (by simp)
              have l1 := s.pl (b := d1) (p := ⟨2, 3, 0, 7, TB, A, B⟩) (by simp)
              have S := Lib.hid ((s.pset [_] [] ⟨2, 3, 0, 7, TB, A, B⟩).alloc (.cells (pcs ⟨2, 3, 0, 7, TB, A, B⟩).toArray 26))
              clear s
              go_wp2_with fail
              go_meet
              exact ⟨_, .i hA1 hA2 (fun h => by simp at h), S.out⟩
            | f hA1 hA2 =>
              obtain ⟨c0, c1, c2, c3, c4, c5, c6⟩ := S.out.pc (b := d1) (p := ⟨0, 0, 0, 0, 0, A, B⟩) (by simp)
              have K := ack_l ⟨0, 0, 0, 0, 0, A, B⟩ 8 (c_noI.out 8) S.out
              go_wp2_with fail
              refine K.mono ?_; rintro e w3 ⟨rfl, s⟩
              clear K S c0 c1 c2 c3 c4 c5 c6
              obtain ⟨f0, f1, f2, f3, f4, f5, f6⟩ := s.pf (b := d1) (p := ⟨0, 0, 0, 0, 0, A, B⟩) (by simp)
              obtain ⟨c0, c1, c2, c3, c4, c5, c6⟩ := s.pc (b := d1) (p := ⟨0, 0, 0, 0, 0, A, B⟩) (by simp)
              have l1 := s.pl (b := d1) (p := ⟨0, 0, 0, 0, 0, A, B⟩) (by simp)
              have S := Lib.hid ((s.pset [_] [] ⟨0, 0, 0, 0, 0, A, B⟩).alloc (.cells (pcs ⟨0, 0, 0, 0, 0, A, B⟩).toArray 26))
              clear s
              go_wp2_with fail
              go_meet
              exact ⟨_, .f hA1 (fun h => by simp at h), S.out⟩
            | e hA1 hA2 hA3 => simp at hA1
            | l hA1 hA2 hA3 hA4 => simp at hA1
          · cases hph with
            | d hA1 hA2 =>
              obtain ⟨c0, c1, c2, c3, c4, c5, c6⟩ := S.out.pc (b := d1) (p := ⟨1, 3, 0, 7, TA, A, B⟩) (by simp)
              have K := ack_l ⟨1, 3, 0, 7, TA, A, B⟩ 7 c_ackD.out S.out
              go_wp2_with fail
              refine K.mono ?_; rintro e w3 ⟨rfl, s⟩
              clear K S c0 c1 c2 c3 c4 c5 c6
              obtain ⟨f0, f1, f2, f3, f4, f5, f6⟩ := s.pf (b := d1) (p := ⟨1, 3, 0, 7, TA, A, B⟩) (by simp)
              obtain ⟨c0, c1, c2, c3, c4, c5, c6⟩ := s.pc (b := d1) (p := ⟨1, 3, 0, 7, TA, A, B⟩) (by simp)
              have l1 := s.pl (b := d1) (p := ⟨1, 3, 0, 7, TA, A, B⟩) (by simp)
              have S := Lib.hid ((s.pset [_] [] ⟨0, 0, 0, 0, 0, A, B⟩).alloc (.cells (pcs ⟨0, 0, 0, 0, 0, A, B⟩).toArray 26))
              clear s
              go_wp2_with fail
              go_meet
              exact ⟨_, .e rfl hA1 (by omega), S.out⟩
            | i hA1 hA2 hA3 =>
              obtain ⟨c0, c1, c2, c3, c4, c5, c6⟩ := S.out.pc (b := d1) (p := ⟨2, 3, 0, 7, TB, A, B⟩) (by simp)
              have K := ack_l ⟨2, 3, 0, 7, TB, A, B⟩ 7 c_ackJ.out S.out
              go_wp2_with fail
              refine K.mono ?_; rintro e w3 ⟨rfl, s⟩
              clear K S c0 c1 c2 c3 c4 c5 c6
              obtain ⟨f0, f1, f2, f3, f4, f5, f6⟩ := s.pf (b := d1) (p := ⟨2, 3, 0, 7, TB, A, B⟩) (by simp)
              obtain ⟨c0, c1, c2, c3, c4, c5, c6⟩ := s.pc (b := d1) (p := ⟨2, 3, 0, 7, TB, A, B⟩) (by simp)
              have l1 := s.pl (b := d1) (p := ⟨2, 3, 0, 7, TB, A, B⟩) (by simp)
              have S := Lib.hid ((s.pset [_] [] ⟨0, 0, 0, 0, 0, A, B⟩).alloc (.cells (pcs ⟨0, 0, 0, 0, 0, A, B⟩).toArray 26))
              clear s
              go_wp2_with fail
              go_meet
              exact ⟨_, .l rfl hA1 hA2 (by omega), S.out⟩
            | f hA1 hA2 =>
              obtain ⟨c0, c1, c2, c3, c4, c5, c6⟩ := S.out.pc (b := d1) (p := ⟨0, 0, 0, 0, 0, A, B⟩) (by simp)
              have K := ack_l ⟨0, 0, 0, 0, 0, A, B⟩ 7 (c_noI.out 7) S.out
              go_wp2_with fail
              refine K.mono ?_; rintro e w3 ⟨rfl, s⟩
              clear K S c0 c1 c2 c3 c4 c5 c6
              obtain ⟨f0, f1, f2, f3, f4, f5, f6⟩ := s.pf (b := d1) (p := ⟨0, 0, 0, 0, 0, A, B⟩) (by simp)
              obtain ⟨c0, c1, c2, c3, c4, c5, c6⟩ := s.pc (b := d1) (p := ⟨0, 0, 0, 0, 0, A, B⟩) (by simp)
              have l1 := s.pl (b := d1) (p := ⟨0, 0, 0, 0, 0, A, B⟩) (by simp)
              have S := Lib.hid ((s.pset [_] [] ⟨0, 0, 0, 0, 0, A, B⟩).alloc (.cells (pcs ⟨0, 0, 0, 0, 0, A, B⟩).toArray 26))
              clear s
              go_wp2_with fail
              go_meet
              exact ⟨_, .f hA1 (fun _ => by first | exact hA2 trivial | exact hA2 rfl), S.out⟩
            | e hA1 hA2 hA3 => omega
            | l hA1 hA2 hA3 hA4 => omega
        · have hkb : (k == AT) = false := beq_eq_false_iff_ne.2 hk
          have hph2 : Hid (Ph A B TA TB AT own (k + 1) k x z p) := by
            show Ph _ _ _ _ _ _ _ _ _ _ _
            cases hph with
            | d q1 q2 => exact .d q1 (fun h => by have := q2 h; omega)
            | i q1 q2 q3 => exact .i q1 q2 (fun h => by have := q3 h; omega)
            | f q1 q2 => exact .f q1 q2
            | e q1 q2 q3 => exact .e q1 q2 (by omega)
            | l q1 q2 q3 q4 => exact .l q1 q2 q3 (by omega)
          clear hph hk
          go_wp2_with fail
          go_meet
          exact ⟨_, hph2.out, S.out⟩
      case rest =>
        clear S hph
        obtain ⟨p', hph, hs⟩ := hcut
        generalize wc = w3 at *
        obtain ⟨N, hN⟩ : ∃ N, 100 + k = N := ⟨_, rfl⟩
        have kN : IntKind.u64.wrap (100 + k) = N := by rw [hN]; exact IntWalk.u64_in _ ⟨by omega, by omega⟩
        have kk : IntKind.u64.wrap (k + 1) = k + 1 := IntWalk.u64_in _ ⟨by omega, by omega⟩
        have HN := Lib.hid hN
        clear hN
        have S := Lib.hid hs
        clear hs
        cases hph with
        | d hA1 hA2 =>
          by_cases hkA : k < A
          · have hh := Lib.hid (c_tD0.out N (by have := HN.out; have := hTA.out; omega))
            obtain ⟨c0, c1, c2, c3, c4, c5, c6⟩ := S.out.pc (b := d1) (p := ⟨1, 3, 0, 7, TA, A, B⟩) (by simp)
            have K := tick_l ⟨1, 3, 0, 7, TA, A, B⟩ N hh.out S.out
            go_wp2_with fail
            refine K.mono ?_; rintro e w4 ⟨rfl, s⟩
            clear K S c0 c1 c2 c3 c4 c5 c6
            obtain ⟨f0, f1, f2, f3, f4, f5, f6⟩ := s.pf (b := d1) (p := ⟨1, 3, 0, 7, TA, A, B⟩) (by simp)
            obtain ⟨c0, c1, c2, c3, c4, c5, c6⟩ := s.pc (b := d1) (p := ⟨1, 3, 0, 7, TA, A, B⟩) (by simp)
            have l1 := s.pl (b := d1) (p := ⟨1, 3, 0, 7, TA, A, B⟩) (by simp)
            obtain ⟨g0, g1, g2, g3, g4, g5, g6⟩ := s.pc (b := d2) (p := ⟨0, 0, 0, 0, 0, A, B⟩) (by simp)
            have l2 := s.pl (b := d2) (p := ⟨0, 0, 0, 0, 0, A, B⟩) (by simp)
            have S := Lib.hid ((s.pset [_] [] ⟨1, 3, 0, 7, TA, A, B⟩).alloc (.cells (pcs ⟨1, 3, 0, 7, TA, A, B⟩).toArray 26))
            have hne : ¬ d2 = d1 := fun h => (s.two (H1 := []) (h := hP d2 ⟨0, 0, 0, 0, 0, A, B⟩) (H2 := [hP d1 ⟨1, 3, 0, 7, TA, A, B⟩]) (k := hP d1 ⟨1, 3, 0, 7, TA, A, B⟩) (by simp) d1 rfl) h.symm
            have hne2 : ¬ d1 = d2 := fun h => hne h.symm
            clear s
            go_wp2_with fail
            go_roundw
            case rel => exact ⟨k + 1, 0, 0, _, by go_num, by omega, by omega, rfl, rfl, .d (by omega) hA2, S.out⟩
            case measure => simp [intOf]; omega
          · have hkb : (k == A) = true := beq_iff_eq.2 (by omega)
            have hkn : (k != A) = false := by rw [bne, hkb]; rfl
            have hh := Lib.hid (c_tD1.out N (by have := HN.out; have := hTA.out; omega))
            obtain ⟨c0, c1, c2, c3, c4, c5, c6⟩ := S.out.pc (b := d1) (p := ⟨1, 3, 0, 7, TA, A, B⟩) (by simp)
            have K := tick_l ⟨1, 3, 0, 7, TA, A, B⟩ N hh.out S.out
            go_wp2_with fail
            refine K.mono ?_; rintro e w4 ⟨rfl, s⟩
            clear K S c0 c1 c2 c3 c4 c5 c6
            obtain ⟨f0, f1, f2, f3, f4, f5, f6⟩ := s.pf (b := d1) (p := ⟨1, 3, 0, 7, TA, A, B⟩) (by simp)
            obtain ⟨c0, c1, c2, c3, c4, c5, c6⟩ := s.pc (b := d1) (p := ⟨1, 3, 0, 7, TA, A, B⟩) (by simp)
            have l1 := s.pl (b := d1) (p := ⟨1, 3, 0, 7, TA, A, B⟩) (by simp)
            obtain ⟨g0, g1, g2, g3, g4, g5, g6⟩ := s.pc (b := d2) (p := ⟨0, 0, 0, 0, 0, A, B⟩) (by simp)
            have l2 := s.pl (b := d2) (p := ⟨0, 0, 0, 0, 0, A, B⟩) (by simp)
            have S := Lib.hid ((s.pset [_] [] ⟨2, 3, 0, 7, TB, A, B⟩).alloc (.cells (pcs ⟨2, 3, 0, 7, TB, A, B⟩).toArray 26))
            have hne : ¬ d2 = d1 := fun h => (s.two (H1 := []) (h := hP d2 ⟨0, 0, 0, 0, 0, A, B⟩) (H2 := [hP d1 ⟨1, 3, 0, 7, TA, A, B⟩]) (k := hP d1 ⟨1, 3, 0, 7, TA, A, B⟩) (by simp) d1 rfl) h.symm
            have hne2 : ¬ d1 = d2 := fun h => hne h.symm
            clear s
            go_wp2_with fail
            go_roundw
            case rel => exact ⟨k + 1, 1, 0, _, by go_num, by omega, by omega, rfl, rfl, .i (by omega) (by omega) hA2, S.out⟩
            case measure => simp [intOf]; omega
        | i hA1 hA2 hA3 =>
          by_cases hkC : k < C
          · have hh := Lib.hid (c_tJ0.out N (by have := HN.out; have := hTA.out; have := hTB.out; have := hC.out; omega))
            obtain ⟨c0, c1, c2, c3, c4, c5, c6⟩ := S.out.pc (b := d1) (p := ⟨2, 3, 0, 7, TB, A, B⟩) (by simp)
            have K := tick_l ⟨2, 3, 0, 7, TB, A, B⟩ N hh.out S.out
            go_wp2_with fail
            refine K.mono ?_; rintro e w4 ⟨rfl, s⟩
            clear K S c0 c1 c2 c3 c4 c5 c6
            obtain ⟨f0, f1, f2, f3, f4, f5, f6⟩ := s.pf (b := d1) (p := ⟨2, 3, 0, 7, TB, A, B⟩) (by simp)
            obtain ⟨c0, c1, c2, c3, c4, c5, c6⟩ := s.pc (b := d1) (p := ⟨2, 3, 0, 7, TB, A, B⟩) (by simp)
            have l1 := s.pl (b := d1) (p := ⟨2, 3, 0, 7, TB, A, B⟩) (by simp)
            obtain ⟨g0, g1, g2, g3, g4, g5, g6⟩ := s.pc (b := d2) (p := ⟨0, 0, 0, 0, 0, A, B⟩) (by simp)
            have l2 := s.pl (b := d2) (p := ⟨0, 0, 0, 0, 0, A, B⟩) (by simp)
            have S := Lib.hid ((s.pset [_] [] ⟨2, 3, 0, 7, TB, A, B⟩).alloc (.cells (pcs ⟨2, 3, 0, 7, TB, A, B⟩).toArray 26))
            have hne : ¬ d2 = d1 := fun h => (s.two (H1 := []) (h := hP d2 ⟨0, 0, 0, 0, 0, A, B⟩) (H2 := [hP d1 ⟨2, 3, 0, 7, TB, A, B⟩]) (k := hP d1 ⟨2, 3, 0, 7, TB, A, B⟩) (by simp) d1 rfl) h.symm
            have hne2 : ¬ d1 = d2 := fun h => hne h.symm
            clear s
            go_wp2_with fail
            go_roundw
            case rel => exact ⟨k + 1, 1, 0, _, by go_num, by omega, by omega, rfl, rfl, .i (by omega) (by have := hC.out; omega) hA3, S.out⟩
            case measure => simp [intOf]; omega
          · have hkb : (k == C) = true := beq_iff_eq.2 (by have := hC.out; omega)
            have hkn : (k != C) = false := by rw [bne, hkb]; rfl
            have hh := Lib.hid (c_tJ1.out N (by have := HN.out; have := hTA.out; have := hTB.out; have := hC.out; omega))
            obtain ⟨c0, c1, c2, c3, c4, c5, c6⟩ := S.out.pc (b := d1) (p := ⟨2, 3, 0, 7, TB, A, B⟩) (by simp)
            have K := tick_l ⟨2, 3, 0, 7, TB, A, B⟩ N hh.out S.out
            go_wp2_with fail
            refine K.mono ?_; rintro e w4 ⟨rfl, s⟩
            clear K S c0 c1 c2 c3 c4 c5 c6
            obtain ⟨f0, f1, f2, f3, f4, f5, f6⟩ := s.pf (b := d1) (p := ⟨2, 3, 0, 7, TB, A, B⟩) (by simp)
            obtain ⟨c0, c1, c2, c3, c4, c5, c6⟩ := s.pc (b := d1) (p := ⟨2, 3, 0, 7, TB, A, B⟩) (by simp)
            have l1 := s.pl (b := d1) (p := ⟨2, 3, 0, 7, TB, A, B⟩) (by simp)
            obtain ⟨g0, g1, g2, g3, g4, g5, g6⟩ := s.pc (b := d2) (p := ⟨0, 0, 0, 0, 0, A, B⟩) (by simp)
            have l2 := s.pl (b := d2) (p := ⟨0, 0, 0, 0, 0, A, B⟩) (by simp)
            have S := Lib.hid ((s.pset [_] [] ⟨0, 0, 0, 0, 0, A, B⟩).alloc (.cells (pcs ⟨0, 0, 0, 0, 0, A, B⟩).toArray 26))
            have hne : ¬ d2 = d1 := fun h => (s.two (H1 := []) (h := hP d2 ⟨0, 0, 0, 0, 0, A, B⟩) (H2 := [hP d1 ⟨2, 3, 0, 7, TB, A, B⟩]) (k := hP d1 ⟨2, 3, 0, 7, TB, A, B⟩) (by simp) d1 rfl) h.symm
            have hne2 : ¬ d1 = d2 := fun h => hne h.symm
            clear s
            go_wp2_with fail
            go_roundw
            case rel => exact ⟨k + 1, 1, 1, _, by go_num, by omega, by omega, rfl, rfl, .f (by have := hC.out; omega) (fun h => by have := hA3 h; have := hC.out; omega), S.out⟩
            case measure => simp [intOf]; omega
        | f hA1 hA2 =>
          obtain ⟨c0, c1, c2, c3, c4, c5, c6⟩ := S.out.pc (b := d1) (p := ⟨0, 0, 0, 0, 0, A, B⟩) (by simp)
          have K := tick_l ⟨0, 0, 0, 0, 0, A, B⟩ N (c_tI.out N) S.out
          go_wp2_with fail
          refine K.mono ?_; rintro e w4 ⟨rfl, s⟩
          clear K S c0 c1 c2 c3 c4 c5 c6
          obtain ⟨f0, f1, f2, f3, f4, f5, f6⟩ := s.pf (b := d1) (p := ⟨0, 0, 0, 0, 0, A, B⟩) (by simp)
          obtain ⟨c0, c1, c2, c3, c4, c5, c6⟩ := s.pc (b := d1) (p := ⟨0, 0, 0, 0, 0, A, B⟩) (by simp)
          have l1 := s.pl (b := d1) (p := ⟨0, 0, 0, 0, 0, A, B⟩) (by simp)
          obtain ⟨g0, g1, g2, g3, g4, g5, g6⟩ := s.pc (b := d2) (p := ⟨0, 0, 0, 0, 0, A, B⟩) (by simp)
          have l2 := s.pl (b := d2) (p := ⟨0, 0, 0, 0, 0, A, B⟩) (by simp)
          have S := Lib.hid ((s.pset [_] [] ⟨0, 0, 0, 0, 0, A, B⟩).alloc (.cells (pcs ⟨0, 0, 0, 0, 0, A, B⟩).toArray 26))
          have hne : ¬ d2 = d1 := fun h => (s.two (H1 := []) (h := hP d2 ⟨0, 0, 0, 0, 0, A, B⟩) (H2 := [hP d1 ⟨0, 0, 0, 0, 0, A, B⟩]) (k := hP d1 ⟨0, 0, 0, 0, 0, A, B⟩) (by simp) d1 rfl) h.symm
          have hne2 : ¬ d1 = d2 := fun h => hne h.symm
          clear s
          go_wp2_with fail
          go_roundw
          case rel => exact ⟨k + 1, 1, 1, _, by go_num, by omega, by omega, rfl, rfl, .f (by omega) hA2, S.out⟩
          case measure => simp [intOf]; omega
        | e hA1 hA2 hA3 =>
          subst hA1
          obtain ⟨c0, c1, c2, c3, c4, c5, c6⟩ := S.out.pc (b := d1) (p := ⟨0, 0, 0, 0, 0, A, B⟩) (by simp)
          have K := tick_l ⟨0, 0, 0, 0, 0, A, B⟩ N (c_tI.out N) S.out
          go_wp2_with fail
          refine K.mono ?_; rintro e w4 ⟨rfl, s⟩
          clear K S c0 c1 c2 c3 c4 c5 c6
          obtain ⟨f0, f1, f2, f3, f4, f5, f6⟩ := s.pf (b := d1) (p := ⟨0, 0, 0, 0, 0, A, B⟩) (by simp)
          obtain ⟨c0, c1, c2, c3, c4, c5, c6⟩ := s.pc (b := d1) (p := ⟨0, 0, 0, 0, 0, A, B⟩) (by simp)
          have l1 := s.pl (b := d1) (p := ⟨0, 0, 0, 0, 0, A, B⟩) (by simp)
          obtain ⟨g0, g1, g2, g3, g4, g5, g6⟩ := s.pc (b := d2) (p := ⟨0, 0, 0, 0, 0, A, B⟩) (by simp)
          have l2 := s.pl (b := d2) (p := ⟨0, 0, 0, 0, 0, A, B⟩) (by simp)
          have S := Lib.hid ((s.pset [_] [] ⟨0, 0, 0, 0, 0, A, B⟩).alloc (.cells (pcs ⟨0, 0, 0, 0, 0, A, B⟩).toArray 26))
          have hne : ¬ d2 = d1 := fun h => (s.two (H1 := []) (h := hP d2 ⟨0, 0, 0, 0, 0, A, B⟩) (H2 := [hP d1 ⟨0, 0, 0, 0, 0, A, B⟩]) (k := hP d1 ⟨0, 0, 0, 0, 0, A, B⟩) (by simp) d1 rfl) h.symm
          have hne2 : ¬ d1 = d2 := fun h => hne h.symm
          clear s
          go_wp2_with fail
          go_roundw
          case rel => exact ⟨k + 1, 0, 0, _, by go_num, by omega, by omega, rfl, rfl, .e rfl hA2 (by omega), S.out⟩
          case measure => simp [intOf]; omega
        | l hA1 hA2 hA3 hA4 =>
          subst hA1
          obtain ⟨c0, c1, c2, c3, c4, c5, c6⟩ := S.out.pc (b := d1) (p := ⟨0, 0, 0, 0, 0, A, B⟩) (by simp)
          have K := tick_l ⟨0, 0, 0, 0, 0, A, B⟩ N (c_tI.out N) S.out
          go_wp2_with fail
          refine K.mono ?_; rintro e w4 ⟨rfl, s⟩
          clear K S c0 c1 c2 c3 c4 c5 c6
          obtain ⟨f0, f1, f2, f3, f4, f5, f6⟩ := s.pf (b := d1) (p := ⟨0, 0, 0, 0, 0, A, B⟩) (by simp)
          obtain ⟨c0, c1, c2, c3, c4, c5, c6⟩ := s.pc (b := d1) (p := ⟨0, 0, 0, 0, 0, A, B⟩) (by simp)
          have l1 := s.pl (b := d1) (p := ⟨0, 0, 0, 0, 0, A, B⟩) (by simp)
          obtain ⟨g0, g1, g2, g3, g4, g5, g6⟩ := s.pc (b := d2) (p := ⟨0, 0, 0, 0, 0, A, B⟩) (by simp)
          have l2 := s.pl (b := d2) (p := ⟨0, 0, 0, 0, 0, A, B⟩) (by simp)
          have S := Lib.hid ((s.pset [_] [] ⟨0, 0, 0, 0, 0, A, B⟩).alloc (.cells (pcs ⟨0, 0, 0, 0, 0, A, B⟩).toArray 26))
          have hne : ¬ d2 = d1 := fun h => (s.two (H1 := []) (h := hP d2 ⟨0, 0, 0, 0, 0, A, B⟩) (H2 := [hP d1 ⟨0, 0, 0, 0, 0, A, B⟩]) (k := hP d1 ⟨0, 0, 0, 0, 0, A, B⟩) (by simp) d1 rfl) h.symm
          have hne2 : ¬ d1 = d2 := fun h => hne h.symm
          clear s
          go_wp2_with fail
          go_roundw
          case rel => exact ⟨k + 1, 1, 0, _, by go_num, by omega, by omega, rfl, rfl, .l rfl hA2 hA3 (by omega), S.out⟩
          case measure => simp [intOf]; omega
    · obtain rfl : k = 120 := by omega
      have S := Lib.hid hs.below
      cases hph with
      | d hA1 hA2 => omega
      | i hA1 hA2 hA3 => omega
      | f hA1 hA2 =>
        cases own
        · clear hA1 hA2
          obtain ⟨c0, c1, c2, c3, c4, c5, c6⟩ := hs.pc (b := d1) (p := ⟨0, 0, 0, 0, 0, A, B⟩) (by simp)
          obtain ⟨g0, g1, g2, g3, g4, g5, g6⟩ := hs.pc (b := d2) (p := ⟨0, 0, 0, 0, 0, A, B⟩) (by simp)
          clear hs
          go_wp2
          go_ret
          exact ⟨rfl, S.out⟩
        · have e1 := hA2 rfl
          have e2 : decide (AT ≤ A) = false := decide_eq_false (by omega)
          have e3 : decide (AT ≤ C) = false := decide_eq_false (by have := hC.out; omega)
          clear hA1 hA2 e1
          obtain ⟨c0, c1, c2, c3, c4, c5, c6⟩ := hs.pc (b := d1) (p := ⟨0, 0, 0, 0, 0, A, B⟩) (by simp)
          obtain ⟨g0, g1, g2, g3, g4, g5, g6⟩ := hs.pc (b := d2) (p := ⟨0, 0, 0, 0, 0, A, B⟩) (by simp)
          clear hs
          go_wp2
          go_ret
          exact ⟨rfl, S.out⟩
      | e hA1 hA2 hA3 =>
        subst hA1
        have e2 : decide (AT ≤ A) = true := decide_eq_true hA2
        have e3 : decide (AT ≤ C) = true := decide_eq_true (by have := hC.out; omega)
        have e4 : decide (AT < 120) = true := decide_eq_true (by omega)
        clear hA2 hA3
        obtain ⟨c0, c1, c2, c3, c4, c5, c6⟩ := hs.pc (b := d1) (p := ⟨0, 0, 0, 0, 0, A, B⟩) (by simp)
        obtain ⟨g0, g1, g2, g3, g4, g5, g6⟩ := hs.pc (b := d2) (p := ⟨0, 0, 0, 0, 0, A, B⟩) (by simp)
        clear hs
        go_wp2
        go_ret
        exact ⟨rfl, S.out⟩
      | l hA1 hA2 hA3 hA4 =>
        subst hA1
        have e2 : decide (AT ≤ A) = false := decide_eq_false (by omega)
        have e3 : decide (AT ≤ C) = true := decide_eq_true (by have := hC.out; omega)
        have e4 : decide (AT < 120) = true := decide_eq_true (by omega)
        clear hA2 hA3 hA4
        obtain ⟨c0, c1, c2, c3, c4, c5, c6⟩ := hs.pc (b := d1) (p := ⟨0, 0, 0, 0, 0, A, B⟩) (by simp)
        obtain ⟨g0, g1, g2, g3, g4, g5, g6⟩ := hs.pc (b := d2) (p := ⟨0, 0, 0, 0, 0, A, B⟩) (by simp)
        clear hs
        go_wp2
        go_ret
        exact ⟨rfl, S.out⟩
theorem fails_run (f s y : Int) (own : Bool) (w : World) (wf : (Lit.int .u8 f).wf = true) (ws : (Lit.int .u8 s).wf = true) (wy : (Lit.int .u8 y).wf = true) :
    Calls Try.prog 3 #[.int .u8 f, .int .u8 s, .int .u8 y, .bool own] w fun e w' => e = .returned (.bool true) ∧ Below w.heap.size w w' :=
  fails_walk f s y own (bounds_u8 wf) (bounds_u8 ws) (bounds_u8 wy) w
theorem probeFails_own : ownKnob Try.prog.godebug = none := by kernel_rfl
theorem probeFails_laid : laidOutB Try.prog = true := by kernel_rfl
set_option maxRecDepth 100000 in
theorem probeFails_lifted (os : Os) (started : os.Started) (H : Type) (enc : TypeId × Value → H) :
    ReturnsInHanded {} Try.checked os 3 .any (Rows.probeFailsSpec.pre6 enc Try.prog Try.f3 Rows.probeFailsRow.domain false) (Rows.probeFailsSpec.post enc Try.prog Try.f3 false true false false) := by
  refine returnsInHanded_of_change (C := Try.checked) probeFails_own started (by kernel_rfl) Try.func3
    (ChangeSpec.witness6 (enc := enc) (C := Try.checked) false ⟨#[], #[.int .u8 0, .int .u8 0, .int .u8 0, .bool false], []⟩ 8 (by kernel_rfl) (by kernel_rfl) (by kernel_rfl) (by kernel_rfl)) ?_
  intro W base args ds gs before hval0 hW hcnd _
  have hval : ∀ (j : Nat) t v, Try.f3.params[j]? = some t → args[j]? = some v → Value.okWide Try.prog W .any base t v := hval0
  have hW' := hW
  obtain ⟨p, q, hA0, hV, rfl, hfz, hnd⟩ := hW
  have hA : DataW.TrodAll enc Try.prog W 0 (fun _ => true) true Try.f3.params.toList args.toList ds p := hA0
  rw [Try.params3] at hA hval
  obtain ⟨v0, vs0, d0, ds0, p0, q0, hargs, rfl, rfl, h0, r0⟩ := trodAll_cons hA
  obtain ⟨v1, vs1, d1, ds1, p1, q1, rfl, rfl, rfl, h1, r1⟩ := trodAll_cons r0
  obtain ⟨v2, vs2, d2, ds2, p2, q2, rfl, rfl, rfl, h2, r2⟩ := trodAll_cons r1
  obtain ⟨v3, vs3, d3, ds3, p3, q3, rfl, rfl, rfl, h3, r3⟩ := trodAll_cons r2
  obtain ⟨rfl, rfl, rfl⟩ := trodAll_nil r3
  obtain rfl : args = #[v0, v1, v2, v3] := by cases args; simp_all
  obtain ⟨rfl, rfl⟩ := trodVars_none hV
  obtain ⟨a0, rfl, rfl, rfl, w0⟩ := open_int Try.underlying5 (hval 0 5 v0 rfl rfl) h0
  obtain ⟨a1, rfl, rfl, rfl, w1⟩ := open_int Try.underlying5 (hval 1 5 v1 rfl rfl) h1
  obtain ⟨a2, rfl, rfl, rfl, w2⟩ := open_int Try.underlying5 (hval 2 5 v2 rfl rfl) h2
  obtain ⟨a3, rfl, rfl, rfl⟩ := open_bool Try.underlying4 (hval 3 4 v3 rfl rfl) h3
  clear hA0 hval0
  refine (fails_run a0 a1 a2 a3 W w0 w1 w2).mono fun e W' ⟨he, bel⟩ => ?_
  subst he
  exact ⟨_, rfl, _, _, _, [], _, [], hW', trodAll_mk1 (shut_bool Try.underlying4 _), (trodAll_cons_mk (shut_int Try.underlying5 w0) (trodAll_cons_mk (shut_int Try.underlying5 w1) (trodAll_cons_mk (shut_int Try.underlying5 w2) (trodAll_cons_mk (shut_bool Try.underlying4 _) trodAll_mk0)))), rfl, bel.frame _, fun h => by cases h⟩
theorem probeFails_over : Rows.probeFailsRow.holds Try.pinned (OpenSpec.ofChange Rows.probeFailsSpec) :=
  OpenClaim.holds_of_wide 3 Try.f3 rfl rfl rfl rfl rfl rfl rfl ⟨rfl, rfl, rfl, rfl, rfl⟩ rfl rfl rfl rfl rfl (by kernel_rfl) Try.func3 (by kernel_rfl)
    (of_decide_eq_true (by kernel_rfl)) (by unfold Func.isWrapper; first | (rw [if_pos (by decide +kernel)]; kernel_rfl) | (rw [if_neg (by decide +kernel)]; exact ⟨rfl, rfl⟩))
    (fun os started H enc _ => probeFails_lifted os started H enc)
theorem probeFails_holds : Rows.ProbeFailsSaid := probeFails_over
#print axioms probeFails_holds
end Go.Proofs.Ytdbfghpmbanfpaa
