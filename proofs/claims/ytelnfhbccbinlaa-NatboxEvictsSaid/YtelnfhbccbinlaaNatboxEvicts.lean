/- The statement NatboxEvicts: for any room of 2 to 6 and whichever one is used again: with no room left the binding goes that is the nearest to its end. No conditions. -/
import Derived.Test.YtelnfhbccbinlaaBoxLaw
import Derived.ChangeOld
import Derived.ChangeMaps5
import Derived.ShutString
import Derived.OpenShut
import Derived.SizedLaws
namespace Go.Proofs.Ytelnfhbccbinlaa
open Go.Sort Go.RowKit Go.BigFrame Go.ChangeShapes Go.WideShapes Go.ChangeAt
open Go.ChangeMaps (open_string shut_string)
set_option linter.unusedVariables false
set_option linter.unusedSimpArgs false

def evL (k : Nat) : Nat → List Pb
  | 0 => []
  | i + 1 => (outP 0 100 k (i : Nat) (100 + (i : Nat)) 1 50 1 (evL k i)).2
def evA (k u : Nat) : List Pb := (outP 0 100 k (k : Nat) (100 + (u : Nat)) 1 50 1 (evL k k)).2
def evB (k u : Nat) : List Pb := (outP 0 100 k ((k : Nat) + 1) 200 1 50 1 (evA k u)).2
def evGone (u : Nat) : Int := if u = 0 then 1 else 0
def evOk (g : Int) (b : Pb) : Bool := (!(b.ii == 100 + g)) && (!(b.ii == 200) || b.po == 20000 + g)
set_option maxRecDepth 100000 in
theorem ev_fin : ∀ k : Fin 7, ∀ u : Fin 7, 2 ≤ k.val → u.val < k.val → (evB k.val u.val).length = k.val ∧ (evB k.val u.val).all (evOk (evGone u.val)) = true := by decide +kernel
theorem ev_fact {k u : Nat} (h1 : 2 ≤ k) (h2 : k ≤ 6) (h3 : u < k) : (evB k u).length = k ∧ (evB k u).all (evOk (evGone u)) = true := ev_fin ⟨k, by omega⟩ ⟨u, by omega⟩ h1 h3
def EvJ (B s g k : Nat) (w : World) (iv : Value) (wr : World) : Prop := ∃ i : Nat, i ≤ k ∧ iv = .int .i64 (i : Nat) ∧ L1 B [(s, [.int .u32 50, .int .u16 1])] g ⟨0, 0, 9, 100, k, evL k i⟩ wr ∧ Below B w wr
def EwJ (k : Nat) (w : World) (iv : Value) (wr : World) : Prop := ∃ i : Nat, i ≤ k ∧ iv = .int .i64 (i : Nat) ∧ wr = w
theorem badO_ev {si now : Int} (h1 : ¬ si = 0) (h2 : now ≤ 1000) : badO si 1 50 1 now = false := by
  unfold badO noneI; simp [h1]; omega
theorem badN_ev {k : Nat} (h1 : 2 ≤ k) (h2 : k ≤ 6) : badN 0 0 9 100 (k : Nat) = false := by
  unfold badN
  have : rightT 0 0 = true := rfl
  rw [this]; simp; omega
set_option maxHeartbeats 32000000 in
set_option maxRecDepth 100000 in
theorem natboxEvicts_walk (a b : Int) (k u : Nat) (hk : 2 + a % 5 = (k : Int)) (hu : b % (k : Int) = (u : Int)) (w : World) (ha0 : 0 ≤ a) (ha1 : a ≤ 255) (hb0 : 0 ≤ b) (hb1 : b ≤ 255) :
    Calls Try.prog 9 #[.int .u8 a, .int .u8 b] w fun e w' => e = .returned (.bool true) ∧ Below w.heap.size w w' := by
  have hk1 : 2 ≤ k := by omega
  have hk2 : k ≤ 6 := by omega
  have hu1 : (u : Int) < (k : Int) := by rw [← hu]; exact Int.emod_lt_of_pos _ (by omega)
  have hu2 : u < k := by omega
  have FA := Lib.hid (ev_fact hk1 hk2 hu2)
  have NB := Lib.hid (badN_ev hk1 hk2)
  have hm3 : a.tmod 5 = a % 5 := tmod_pos _ _ ha0
  have hm4 : b.tmod (k : Int) = (u : Int) := by rw [tmod_pos _ _ hb0]; exact hu
  have hkz : ((k : Int) == 0) = false := by rw [beq_eq_false_iff_ne]; omega
  go_enter Try.func9, Try.ntmps9
  go_wp2_with fail
  refine (examples_yes _).mono ?_; rintro e w1 ⟨rfl, b1⟩
  have HI := Lib.hid b1
  have h0 : Cl [] w1 := fun x hx => by simp at hx
  have N1 := newL (B := w.heap.size) (l := []) b1.size h0 NB.out (by omega)
  clear b1 h0
  go_wp2_with fail
  refine N1.mono ?_; rintro e w2 ⟨g, rfl, ht, b2⟩
  have ht := ht.alloc [.int .u32 50, .int .u16 1] 38
  have hB : Hid (Below w.heap.size w (w2.alloc (.cells #[.int .u32 50, .int .u16 1] 38))) := (HI.out.trans (b2.mono HI.out.size)).alloc (HI.out.trans (b2.mono HI.out.size)).size _
  have HT := Lib.hid ht
  clear N1 b2 HI ht
  go_wp2_with fail
  generalize (w2.alloc (.cells #[.int .u32 50, .int .u16 1] 38)) = w3 at *
  generalize w2.heap.size = s at *
  go_loopw [10] (fun iv wr => EvJ w.heap.size s g k w iv wr) (fun i _ => k - (intOf i).toNat)
  case atStart => exact ⟨0, Nat.zero_le _, rfl, HT.out, hB.out⟩
  case round =>
    obtain ⟨i, hi, rfl, hL, hb⟩ := hrel
    clear HT hB
    have hi0 : (0 : Int) ≤ i := by omega
    by_cases hlt : i < k
    · have hlt' : (i : Int) < k := by omega
      have hi6 : (i : Int) ≤ 6 := by omega
      have x0 := (hL.c.at s [.int .u32 50, .int .u16 1] (by simp)).cell 0 _ rfl
      have x1 := (hL.c.at s [.int .u32 50, .int .u16 1] (by simp)).cell 1 _ rfl
      have C := hL.outx (si := 100 + (i : Int)) (sp := 1) (di := 50) (dp := 1) (now := (i : Int)) (j := _) (l' := evL k (i + 1)) (badO_ev (by omega) (by omega)) (by omega) rfl rfl
      have hb := Lib.hid hb
      have HI1 : Hid (i + 1 ≤ k) := hlt
      clear hL
      go_wp2_with fail
      refine C.mono ?_; rintro e w4 ⟨rfl, ht, b4⟩
      have HT := Lib.hid ht
      have HB4 := Lib.hid (hb.out.trans b4)
      clear C ht b4 x0 x1
      go_wp2_with fail
      go_roundw
      case rel => exact ⟨i + 1, HI1.out, by go_num, HT.out, HB4.out⟩
      case measure => simp [intOf]; omega
    · obtain rfl : i = k := by omega
      have x0 := (hL.c.at s [.int .u32 50, .int .u16 1] (by simp)).cell 0 _ rfl
      have x1 := (hL.c.at s [.int .u32 50, .int .u16 1] (by simp)).cell 1 _ rfl
      have C := hL.outx (si := 100 + (u : Int)) (sp := 1) (di := 50) (dp := 1) (now := (i : Int)) (j := _) (l' := evA i u) (badO_ev (by omega) (by omega)) (by omega) rfl rfl
      have hb := Lib.hid hb
      have hi6 : (i : Int) ≤ 6 := by omega
      have hu0 : (0 : Int) ≤ u := by omega
      clear hL
      go_wp2_with fail
      refine C.mono ?_; rintro e w4 ⟨rfl, ht, b4⟩
      have HB4 := Lib.hid (hb.out.trans b4)
      clear C x0 x1 b4 hb
      have x0 := (ht.c.at s [.int .u32 50, .int .u16 1] (by simp)).cell 0 _ rfl
      have x1 := (ht.c.at s [.int .u32 50, .int .u16 1] (by simp)).cell 1 _ rfl
      have C := ht.outx (si := 200) (sp := 1) (di := 50) (dp := 1) (now := (i : Int) + 1) (j := _) (l' := evB i u) (badO_ev (by omega) (by omega)) (by omega) rfl rfl
      clear ht
      go_wp2_with fail
      refine C.mono ?_; rintro e w5 ⟨rfl, ht, b5⟩
      have HB5 := Lib.hid (HB4.out.trans b5)
      have HT := Lib.hid ht
      clear C x0 x1 b5 HB4 ht
      obtain ⟨go, hgo⟩ : ∃ go, evGone u = go := ⟨_, rfl⟩
      have HGO := Lib.hid hgo
      have hg01 : go = 0 ∨ go = 1 := by rw [← hgo]; unfold evGone; split <;> simp
      have FA2 : Hid ((evB i u).length = i ∧ (evB i u).all (evOk go) = true) := by rw [← hgo]; exact FA.out
      clear hgo
      go_upto_if 70 with fail
      go_cut [12] (fun x wx => x = .int .i64 go ∧ wx = w5)
      case first =>
        by_cases hz : u = 0
        · obtain rfl : go = 1 := by rw [← HGO.out, hz]; rfl
          subst hz
          go_wp2_with fail
          go_meet
          exact ⟨rfl, rfl⟩
        · obtain rfl : go = 0 := by rw [← HGO.out]; exact if_neg hz
          have hz2 : ((u : Int) == 0) = false := by rw [beq_eq_false_iff_ne]; omega
          go_wp2_with fail
          go_meet
          exact ⟨rfl, rfl⟩
      case rest =>
        obtain ⟨rfl, rfl⟩ := hcut
        have BI := bindsO HT.out.t
        clear HGO
        go_wp2_with fail
        refine BI.mono ?_; rintro e w6 ⟨ba, bn, bc, rfl, ⟨hn, M, hM, hr, -⟩, b6⟩
        obtain rfl : bn = i := by rw [hn]; exact FA2.out.1
        have HB6 := Lib.hid (HB5.out.trans (b6.mono HB5.out.size))
        have hMl0 : M.length = bn := by have := congrArg List.length hM; simpa [FA2.out.1] using this
        have hMl := Lib.hid hMl0
        clear hMl0
        have HM := Lib.hid hM
        have HR := Lib.hid hr
        have hbi6 : (bn : Int) ≤ 6 := by omega
        clear BI hn hM hr b6 HB5 HT
        go_wp2_with fail
        go_loopw [14] (fun iv wr => EwJ bn w6 iv wr) (fun i _ => bn - (intOf i).toNat)
        case atStart => exact ⟨0, Nat.zero_le _, rfl, rfl⟩
        case round =>
          obtain ⟨j, hj, rfl, rfl⟩ := hrel
          have hj0 : (0 : Int) ≤ j := by omega
          by_cases hlt : j < bn
          · have hlt' : (j : Int) < bn := by omega
            have hjM : j < M.length := by rw [hMl.out]; exact hlt
            obtain ⟨b', off, rfl, hbl, hcc⟩ := HR.out (by omega)
            have hx : M[j]? = some M[j] := List.getElem?_eq_getElem hjM
            have c0 := hcc j _ hx 0 _ rfl
            have c4 := hcc j _ hx 4 _ rfl
            have hok : evOk go M[j].1 = true := by
              have h1 := List.all_eq_true.1 FA2.out.2
              rw [← HM.out] at h1
              exact h1 _ (List.mem_map.2 ⟨M[j], List.getElem_mem hjM, rfl⟩)
            generalize M[j] = y at *
            obtain ⟨⟨y1, y2, y3, y4, y5, y6, y7⟩, ⟨z1, z2, z3⟩⟩ := y
            simp only [Nat.add_zero] at c0 c4
            unfold evOk at hok
            simp only [Bool.and_eq_true, Bool.not_eq_true', Bool.or_eq_true, beq_iff_eq, beq_eq_false_iff_ne] at hok
            have hmeas : Hid (j + 1 ≤ bn) := hlt
            clear hcc hx hjM
            rcases hg01 with rfl | rfl
            · have e1 : (y1 == 100) = false := by rw [beq_eq_false_iff_ne]; simpa using hok.1
              by_cases h2 : y1 = 200
              · have h3 : y5 = 20000 := by rcases hok.2 with h | h; exact absurd h2 h; simpa using h
                subst h2 h3
                clear hok e1
                go_wp2_with fail
                go_roundw
                case rel => exact ⟨j + 1, hmeas.out, by go_num, rfl⟩
                case measure => simp [intOf]; omega
              · have e2 : (y1 == 200) = false := by rw [beq_eq_false_iff_ne]; exact h2
                clear hok
                go_wp2_with fail
                go_roundw
                case rel => exact ⟨j + 1, hmeas.out, by go_num, rfl⟩
                case measure => simp [intOf]; omega
            · have e1 : (y1 == 101) = false := by rw [beq_eq_false_iff_ne]; simpa using hok.1
              by_cases h2 : y1 = 200
              · have h3 : y5 = 20001 := by rcases hok.2 with h | h; exact absurd h2 h; simpa using h
                subst h2 h3
                clear hok e1
                go_wp2_with fail
                go_roundw
                case rel => exact ⟨j + 1, hmeas.out, by go_num, rfl⟩
                case measure => simp [intOf]; omega
              · have e2 : (y1 == 200) = false := by rw [beq_eq_false_iff_ne]; exact h2
                clear hok
                go_wp2_with fail
                go_roundw
                case rel => exact ⟨j + 1, hmeas.out, by go_num, rfl⟩
                case measure => simp [intOf]; omega
          · obtain rfl : j = bn := by omega
            go_wp2_with fail
            go_ret
            exact ⟨rfl, HB6.out⟩
theorem natboxEvicts_run (a b : Int) (w : World) (wa : (Lit.int .u8 a).wf = true) (wb : (Lit.int .u8 b).wf = true) :
    Calls Try.prog 9 #[.int .u8 a, .int .u8 b] w fun e w' => e = .returned (.bool true) ∧ Below w.heap.size w w' := by
  obtain ⟨ha0, ha1⟩ := bounds_u8 wa
  obtain ⟨hb0, hb1⟩ := bounds_u8 wb
  obtain ⟨k, hk⟩ : ∃ k : Nat, 2 + a % 5 = (k : Int) := ⟨(2 + a % 5).toNat, by omega⟩
  obtain ⟨u, hu⟩ : ∃ u : Nat, b % (k : Int) = (u : Int) := ⟨(b % (k : Int)).toNat, by have := Int.emod_nonneg b (show (k : Int) ≠ 0 by omega); omega⟩
  exact natboxEvicts_walk a b k u hk hu w ha0 ha1 hb0 hb1
theorem natboxEvicts_own : ownKnob Try.prog.godebug = none := by kernel_rfl
theorem natboxEvicts_laid : laidOutB Try.prog = true := by kernel_rfl
set_option maxRecDepth 100000 in
theorem natboxEvicts_lifted (os : Os) (started : os.Started) (H : Type) (enc : TypeId × Value → H) :
    ReturnsInHanded {} Try.checked os 9 .any (Rows.natboxEvictsSpec.pre6 enc Try.prog Try.f9 Rows.natboxEvictsRow.domain false) (Rows.natboxEvictsSpec.post enc Try.prog Try.f9 false true false false) := by
  refine returnsInHanded_of_change (C := Try.checked) natboxEvicts_own started (by kernel_rfl) Try.func9
    (ChangeSpec.witness6 (enc := enc) (C := Try.checked) false ⟨#[], #[.int .u8 0, .int .u8 0], []⟩ 8 (by kernel_rfl) (by kernel_rfl) (by kernel_rfl) (by kernel_rfl)) ?_
  intro W base args ds gs before hval0 hW hcnd _
  have hval : ∀ (j : Nat) t v, Try.f9.params[j]? = some t → args[j]? = some v → Value.okWide Try.prog W .any base t v := hval0
  have hW' := hW
  obtain ⟨p, q, hA0, hV, rfl, hfz, hnd⟩ := hW
  have hA : DataW.TrodAll enc Try.prog W 0 (fun _ => true) true Try.f9.params.toList args.toList ds p := hA0
  rw [Try.params9] at hA hval
  obtain ⟨v0, vs0, d0, ds0, p0, q0, hargs, rfl, rfl, h0, r0⟩ := trodAll_cons hA
  obtain ⟨v1, vs1, d1, ds1, p1, q1, rfl, rfl, rfl, h1, r1⟩ := trodAll_cons r0
  obtain ⟨rfl, rfl, rfl⟩ := trodAll_nil r1
  obtain rfl : args = #[v0, v1] := by cases args; simp_all
  obtain ⟨rfl, rfl⟩ := trodVars_none hV
  obtain ⟨a0, rfl, rfl, rfl, w0⟩ := open_int Try.underlying5 (hval 0 5 v0 rfl rfl) h0
  obtain ⟨a1, rfl, rfl, rfl, w1⟩ := open_int Try.underlying5 (hval 1 5 v1 rfl rfl) h1
  clear hA0 hval0
  refine (natboxEvicts_run a0 a1 W w0 w1).mono fun e W' ⟨he, bel⟩ => ?_
  subst he
  exact ⟨_, rfl, _, _, _, [], _, [], hW', trodAll_mk1 (shut_bool Try.underlying4 _), (trodAll_cons_mk (shut_int Try.underlying5 w0) (trodAll_cons_mk (shut_int Try.underlying5 w1) trodAll_mk0)), rfl, bel.frame _, fun h => by cases h⟩
theorem natboxEvicts_over : Rows.natboxEvictsRow.holds Try.pinned (OpenSpec.ofChange Rows.natboxEvictsSpec) :=
  OpenClaim.holds_of_wide 9 Try.f9 rfl rfl rfl rfl rfl rfl rfl ⟨rfl, rfl, rfl, rfl, rfl⟩ rfl rfl rfl rfl rfl (by kernel_rfl) Try.func9 (by kernel_rfl)
    (of_decide_eq_true (by kernel_rfl)) (by unfold Func.isWrapper; first | (rw [if_pos (by decide +kernel)]; kernel_rfl) | (rw [if_neg (by decide +kernel)]; exact ⟨rfl, rfl⟩))
    (fun os started H enc _ => natboxEvicts_lifted os started H enc)
theorem natboxEvicts_holds : Rows.NatboxEvictsSaid := natboxEvicts_over
#print axioms natboxEvicts_holds
end Go.Proofs.Ytelnfhbccbinlaa
