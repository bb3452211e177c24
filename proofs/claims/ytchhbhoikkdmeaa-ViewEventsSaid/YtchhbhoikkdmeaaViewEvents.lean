/- ViewEvents: only the last events are kept, in order; they are all counted: however many turns there are. -/
import Derived.Test.YtchhbhoikkdmeaaViEx
import Derived.ChangeOld
import Derived.ChangeMaps5
import Derived.ShutString
import Derived.OpenShut
import Derived.SizedLaws
namespace Go.Proofs.Ytchhbhoikkdmeaa
open Go.Sort Go.RowKit Go.BigFrame Go.ChangeShapes Go.WideShapes Go.ChangeAt
open Go.ChangeMaps (open_string shut_string)
set_option linter.unusedVariables false
set_option linter.unusedSimpArgs false

def evR (j : Nat) : Rec := ⟨((1 + j % 3 : Nat) : Int), ((j / 3 % 2 : Nat) : Int), j / 3 + 1, 1, 1⟩
def evE (j : Nat) : Ev := ⟨((1 + j % 3 : Nat) : Int), if j < 3 then -1 else (((j - 3) / 3 % 2 : Nat) : Int), ((j / 3 % 2 : Nat) : Int), j / 3 + 1⟩
def evL (n : Nat) : List Ev := (List.range n).map evE
theorem evL_succ (n : Nat) : evL (n + 1) = evL n ++ [evE n] := by unfold evL; rw [List.range_succ, List.map_append]; rfl
theorem evL_len (n : Nat) : (evL n).length = n := by simp [evL]
theorem evR_ok {j : Nat} (h : j ≤ 1000) : (evR j).Ok := ⟨by show j / 3 + 1 < _; omega, by show (1 : Nat) < _; omega, by show (1 : Nat) < _; omega⟩
theorem evR_right (j : Nat) : (evR j).right = true := by
  unfold Rec.right rightI stI noneI evR
  simp only [Bool.and_eq_true, decide_eq_true_eq]
  refine ⟨by omega, by omega, rfl⟩
structure EvI (n : Nat) (v : Vw) : Prop where
  E : v.E = evL n
  k : ∀ j, j < n → n ≤ j + 3 → v.k (1 + j % 3) = evR j
  no : ∀ j, n ≤ j → j < 3 → knows v ((1 + j : Nat) : Int) = false
theorem ev_start : EvI 0 newV := ⟨rfl, by intro j h; omega, fun j _ _ => knows_new _⟩
theorem ev_step {n : Nat} {v : Vw} (h : EvI n v) : turns v (evR n) = true ∧ EvI (n + 1) (takeV v (evR n)) := by
  have hid : (evR n).id.toNat = 1 + n % 3 := by show (((1 + n % 3 : Nat) : Int)).toNat = _; omega
  have hk0 : n < 3 → knows v (evR n).id = false := fun h3 => by
    have := h.no n (Nat.le_refl _) h3
    show knows v (((1 + n % 3 : Nat) : Int)) = false
    rw [Nat.mod_eq_of_lt h3]; exact this
  have hold : 3 ≤ n → v.k (1 + n % 3) = evR (n - 3) := fun h3 => by
    have := h.k (n - 3) (by omega) (by omega)
    rw [show (n - 3) % 3 = n % 3 by omega] at this
    exact this
  have hk1 : 3 ≤ n → knows v (evR n).id = true := fun h3 => by
    show knows v (((1 + n % 3 : Nat) : Int)) = true
    rw [knowsN_iff, hold h3]
    exact ⟨by omega, by omega, evR_right _⟩
  have ht : turns v (evR n) = true := by
    by_cases h3 : n < 3
    · exact turns_new (evR_right n) (hk0 h3)
    · rw [turns_old (evR_right n) (hk1 (by omega)), hid, hold (by omega)]
      unfold overR
      rw [decide_eq_true_eq, ordR_gt]
      left
      show (n - 3) / 3 + 1 < n / 3 + 1
      omega
  have hwas : wasV v (evR n).id = (evE n).was := by
    by_cases h3 : n < 3
    · rw [was_no (hk0 h3)]; show -1 = if n < 3 then (-1 : Int) else _; rw [if_pos h3]
    · rw [was_yes (hk1 (by omega)), hid, hold (by omega)]
      show (((n - 3) / 3 % 2 : Nat) : Int) = if n < 3 then (-1 : Int) else (((n - 3) / 3 % 2 : Nat) : Int)
      rw [if_neg h3]
  have hne : ¬ (evR n).st = wasV v (evR n).id := by
    rw [hwas]
    show ¬ ((n / 3 % 2 : Nat) : Int) = if n < 3 then (-1 : Int) else (((n - 3) / 3 % 2 : Nat) : Int)
    split <;> omega
  refine ⟨ht, ?_⟩
  rw [take_yes ht]
  refine ⟨?_, fun j hj h3 => ?_, fun j hj h3 => ?_⟩
  · show noteE v (evR n) = _
    rw [note_yes hne, h.E, evL_succ]
    congr 1
    unfold evV
    rw [hwas]; rfl
  · show upd v.k (evR n).id.toNat (evR n) (1 + j % 3) = evR j
    rw [hid]
    by_cases he : j = n
    · subst he; exact upd_same _ _ _
    · rw [upd_ne (by omega)]
      exact h.k j (by omega) (by omega)
  · have := h.no j (by omega) h3
    cases hh : knows (⟨upd v.k (evR n).id.toNat (evR n), noteE v (evR n)⟩ : Vw) ((1 + j : Nat) : Int) with
    | false => rfl
    | true =>
      rw [knowsN_iff] at hh
      have h2 : (upd v.k (evR n).id.toNat (evR n) (1 + j)).right = true := hh.2.2
      rw [hid, upd_ne (by omega)] at h2
      rw [← this, eq_comm, knowsN_iff]
      exact ⟨hh.1, hh.2.1, h2⟩
theorem ev_last {n i : Nat} (hi : i < min n 128) : (lastE (evL n))[i]? = some (evE (n - min n 128 + i)) := by
  unfold lastE
  rw [evL_len, List.getElem?_drop]
  unfold evL
  rw [List.getElem?_map, List.getElem?_range (by omega)]
  rw [show n - 128 + i = n - min n 128 + i by omega]; rfl
theorem ev_lastl (n : Nat) : (lastE (evL n)).length = min n 128 := by unfold lastE; rw [List.length_drop, evL_len]; omega
def EvPost (w : World) (e : Ending) (w' : World) : Prop := e = .returned (.bool true) ∧ Below w.heap.size w w'
def EvLJ (n : Nat) (w0 : World) (g : Nat) (iv : Value) (wr : World) : Prop := ∃ (i : Nat) (v : Vw), iv = .int .i64 (i : Nat) ∧ i ≤ n ∧ EvI i v ∧ LS w0 [(g, v)] [] wr
def EvMJ (m : Nat) (w0 : World) (P : World → Prop) (iv : Value) (wr : World) : Prop := ∃ i : Nat, iv = .int .i64 (i : Nat) ∧ i ≤ m ∧ P wr
set_option maxHeartbeats 6400000 in
set_option maxRecDepth 20000 in
theorem events_walk (q : Int) (w : World) (hq : (Lit.int .u16 q).wf = true) :
    Calls Try.prog 7 #[.int .u16 q] w (EvPost w) := by
  have K0 := ex_any w
  obtain ⟨q0, q1⟩ := bounds_u16 hq
  clear hq
  obtain ⟨n, hn⟩ : ∃ n : Nat, q % 301 = n := ⟨(q % 301).toNat, by omega⟩
  have hn2 : q.tmod 301 = n := by rw [tmod_pos _ _ q0]; exact hn
  have hn1 : n ≤ 300 := by omega
  have hn3 : (n : Int) ≤ 300 := by omega
  have hn0 : (0 : Int) ≤ n := by omega
  go_enter Try.func7, Try.ntmps7
  go_wp2_with fail
  refine K0.mono ?_; rintro e w1 ⟨rfl, b1⟩
  have K := new_l (LS.start w w1 b1)
  clear K0 b1
  go_wp2_with fail
  refine K.mono ?_; rintro e w2 ⟨g, rfl, h⟩
  clear K
  have S0 : Hid (EvLJ n w g (.int .i64 0) w2) := ⟨0, newV, rfl, Nat.zero_le _, ev_start, h⟩
  clear h
  go_wp2_with fail
  go_loopw [6] (fun iv wr => EvLJ n w g iv wr) (fun iv _ => 400 - (intOf iv).toNat)
  case atStart => exact S0.out
  case round =>
    obtain ⟨i, v, rfl, hi, hI, h⟩ := hrel
    clear S0
    have hi0 : (0 : Int) ≤ i := by omega
    by_cases hlt : i < n
    · have hlt' : (i : Int) < n := by omega
      obtain ⟨ht, hI2⟩ := ev_step hI
      have HI2 := Lib.hid hI2
      have HL : Hid (i + 1 ≤ n) := hlt
      have hER := err_ok (evR_right i)
      have hok := evR_ok (j := i) (by omega)
      have TK := fun wx (hx : LS w [(g, v)] [] wx) => take_l (evR i) hok [] [] hx (by rw [hI.E, evL_len]; omega)
      rw [ht, hER] at TK
      obtain ⟨V', hV'⟩ : ∃ V', takeV v (evR i) = V' := ⟨_, rfl⟩
      rw [hV'] at TK HI2
      obtain ⟨a, ha⟩ : ∃ a, i % 3 = a := ⟨_, rfl⟩
      obtain ⟨b, hb⟩ : ∃ b, i / 3 = b := ⟨_, rfl⟩
      obtain ⟨c, hc⟩ : ∃ c, b % 2 = c := ⟨_, rfl⟩
      have e1 : (i : Int).tmod 3 = a := by rw [tmod_pos _ _ hi0]; omega
      have e1' : (i : Int) % 3 = a := by omega
      have e2 : (i : Int).tdiv 3 = b := by rw [Int.tdiv_eq_ediv_of_nonneg hi0]; omega
      have e2' : (i : Int) / 3 = b := by omega
      have e3 : (b : Int).tmod 2 = c := by rw [tmod_pos _ _ (by omega)]; omega
      have e3' : (b : Int) % 2 = c := by omega
      have a3 : a < 3 := by omega
      have b3 : b ≤ 100 := by omega
      have hR : evR i = ⟨((1 + a : Nat) : Int), (c : Nat), b + 1, 1, 1⟩ := by unfold evR; rw [ha, hb, hc]
      rw [hR] at TK
      simp only [] at TK
      rw [show (((1 + a : Nat) : Int)) = 1 + (a : Int) by omega, show (((b + 1 : Nat) : Int)) = (b : Int) + 1 by omega] at TK
      replace TK := Lib.hid TK
      have w1' := IntWalk.u32_in (b : Int) ⟨by omega, by omega⟩
      have w2' := IntWalk.u32_in ((b : Int) + 1) ⟨by omega, by omega⟩
      have w3' := IntWalk.i64_in (1 + (a : Int)) ⟨by omega, by omega⟩
      have BX := Lib.hid (h.alloc (.cells #[.int .i64 (1 + (a : Int)), .int .i64 c, .int .u32 ((b : Int) + 1), .int .u32 1, .int .u16 1] 37))
      have X0 := Cs.new wr [.int .i64 (1 + (a : Int)), .int .i64 c, .int .u32 ((b : Int) + 1), .int .u32 1, .int .u16 1] 37
      have x0 := X0.cell 0 _ rfl
      have x1 := X0.cell 1 _ rfl
      have x2 := X0.cell 2 _ rfl
      have x3 := X0.cell 3 _ rfl
      have x4 := X0.cell 4 _ rfl
      have xl := X0.lt
      clear ht hI hI2 hER hok hR ha hb hc h hV' X0
      go_upto_region 14 with fail
      generalize (wr.alloc (.cells #[.int .i64 (1 + (a : Int)), .int .i64 c, .int .u32 ((b : Int) + 1), .int .u32 1, .int .u16 1] 37)) = wb at *
      have K := TK.out wb BX.out
      clear TK BX
      go_wp2_with fail
      refine K.mono ?_; rintro e w3 ⟨rfl, h⟩
      have H : Hid (LS w [(g, V')] [] w3) := h
      clear K h x0 x1 x2 x3 x4 xl
      go_wp2_with fail
      go_roundw
      case rel => exact ⟨i + 1, V', by go_num, HL.out, HI2.out, H.out⟩
      case measure => have := HL.out; simp [intOf]; omega
    · obtain rfl : i = n := by omega
      have K := events_l [] [] h (by rw [hI.E, evL_len]; omega)
      have hEl : v.E.length = i := by rw [hI.E, evL_len]
      have KS := fun wx R (hx : LS w [(g, v)] R wx) => seen_l [] [] hx
      rw [hEl] at KS
      rw [hI.E, ev_lastl] at K
      obtain ⟨m, hm⟩ : ∃ m, min i 128 = m := ⟨_, rfl⟩
      rw [hm] at K
      have hm2 : (if (128 : Int) < (i : Int) then (128 : Int) else (i : Int)) = (m : Nat) := by split <;> omega
      have hm0 : (0 : Int) ≤ m := by omega
      have hm1 : m ≤ 128 := by omega
      have hmi : m ≤ i := by omega
      have HA : Hid (∀ t, t < m → (lastE (evL i))[t]? = some (evE (i - m + t))) := fun t ht => by have := ev_last (n := i) (i := t) (by omega); rw [hm] at this; exact this
      have HLL : Hid ((lastE (evL i)).length = m) := by show _ = _; rw [ev_lastl, hm]
      have KS := Lib.hid KS
      have hw9 := IntWalk.u64_in (i : Int) ⟨by omega, by omega⟩
      clear hI h hEl hm hlt
      generalize lastE (evL i) = L at *
      go_wp2_with fail
      refine K.mono ?_; rintro e w3 ⟨u, rfl, h⟩
      have h : LS w [(g, v)] [iE u L] w3 := h
      have K2 := KS.out w3 _ h
      have H := Lib.hid h
      clear K h
      go_wp2_with fail
      refine K2.mono ?_; rintro e w4 ⟨rfl, rfl⟩
      clear K2 KS
      have HB := Lib.hid H.out.below
      have HR := Lib.hid (H.out.rdE (u := u) (L := L) (by simp))
      obtain ⟨ua, un, uc⟩ := u
      simp only at HR
      clear H
      go_wp2_with fail
      go_loopw [11] (fun iv wr => EvMJ m w (fun wr => wr = w4) iv wr) (fun iv _ => 200 - (intOf iv).toNat)
      case atStart => exact ⟨0, rfl, Nat.zero_le _, rfl⟩
      case round =>
        obtain ⟨t, rfl, htm, rfl⟩ := hrel
        have ht0 : (0 : Int) ≤ t := by omega
        by_cases hlt2 : t < m
        · have hlt2' : (t : Int) < m := by omega
          have hx := HA.out t hlt2
          obtain ⟨b, off, rfl, hbl, hcc⟩ := HR.out (by rw [HLL.out]; omega)
          have c0 := hcc t _ hx 0 _ rfl
          have c2 := hcc t _ hx 2 _ rfl
          have c3 := hcc t _ hx 3 _ rfl
          simp only [Nat.add_zero] at c0
          obtain ⟨j, hj⟩ : ∃ j, i - m + t = j := ⟨_, rfl⟩
          rw [hj] at c0 c2 c3
          simp only [evE] at c0 c2 c3
          have hk1 : (i : Int) - m + t = (j : Int) := by omega
          have hj0 : (0 : Int) ≤ j := by omega
          have hj1 : j ≤ 300 := by omega
          obtain ⟨a, ha⟩ : ∃ a, j % 3 = a := ⟨_, rfl⟩
          obtain ⟨b', hb⟩ : ∃ b, j / 3 = b := ⟨_, rfl⟩
          obtain ⟨c', hc⟩ : ∃ c, b' % 2 = c := ⟨_, rfl⟩
          rw [ha] at c0
          rw [hb] at c2 c3
          rw [hc] at c2
          have e1 : (j : Int).tmod 3 = a := by rw [tmod_pos _ _ hj0]; omega
          have e1' : (j : Int) % 3 = a := by omega
          have e2 : (j : Int).tdiv 3 = b' := by rw [Int.tdiv_eq_ediv_of_nonneg hj0]; omega
          have e2' : (j : Int) / 3 = b' := by omega
          have e3 : (b' : Int).tmod 2 = c' := by rw [tmod_pos _ _ (by omega)]; omega
          have e3' : (b' : Int) % 2 = c' := by omega
          have hb1 : b' ≤ 100 := by omega
          have ha1 : a < 3 := by omega
          have w1' := IntWalk.u32_in (b' : Int) ⟨by omega, by omega⟩
          have w2' := IntWalk.u32_in ((b' : Int) + 1) ⟨by omega, by omega⟩
          have w3' := IntWalk.i64_in (1 + (a : Int)) ⟨by omega, by omega⟩
          rw [show (((1 + a : Nat) : Int)) = 1 + (a : Int) by omega] at c0
          rw [show (((b' + 1 : Nat) : Int)) = (b' : Int) + 1 by omega] at c3
          have HM1 : Hid (t + 1 ≤ m) := hlt2
          clear ha hb hc hj hx hcc
          go_wp2_with fail
          go_roundw
          case rel => exact ⟨t + 1, by go_num, HM1.out, rfl⟩
          case measure => have := HM1.out; simp [intOf]; omega
        · obtain rfl : t = m := by omega
          go_wp2
          go_ret
          exact ⟨rfl, HB.out⟩
theorem viewEvents_own : ownKnob Try.prog.godebug = none := by kernel_rfl
theorem viewEvents_laid : laidOutB Try.prog = true := by kernel_rfl
set_option maxRecDepth 100000 in
theorem viewEvents_lifted (os : Os) (started : os.Started) (H : Type) (enc : TypeId × Value → H) :
    ReturnsInHanded {} Try.checked os 7 .any (Rows.viewEventsSpec.pre6 enc Try.prog Try.f7 Rows.viewEventsRow.domain false) (Rows.viewEventsSpec.post enc Try.prog Try.f7 false true false false) := by
  refine returnsInHanded_of_change (C := Try.checked) viewEvents_own started (by kernel_rfl) Try.func7
    (ChangeSpec.witness6 (enc := enc) (C := Try.checked) false ⟨#[], #[.int .u16 0], []⟩ 8 (by kernel_rfl) (by kernel_rfl) (by kernel_rfl) (by kernel_rfl)) ?_
  intro W base args ds gs before hval0 hW hcnd _
  have hval : ∀ (j : Nat) t v, Try.f7.params[j]? = some t → args[j]? = some v → Value.okWide Try.prog W .any base t v := hval0
  have hW' := hW
  obtain ⟨p, q, hA0, hV, rfl, hfz, hnd⟩ := hW
  have hA : DataW.TrodAll enc Try.prog W 0 (fun _ => true) true Try.f7.params.toList args.toList ds p := hA0
  rw [Try.params7] at hA hval
  obtain ⟨v0, vs0, d0, ds0, p0, q0, hargs, rfl, rfl, h0, r0⟩ := trodAll_cons hA
  obtain ⟨rfl, rfl, rfl⟩ := trodAll_nil r0
  obtain rfl : args = #[v0] := by cases args; simp_all
  obtain ⟨rfl, rfl⟩ := trodVars_none hV
  obtain ⟨a0, rfl, rfl, rfl, w0⟩ := open_int Try.underlying33 (hval 0 33 v0 rfl rfl) h0
  clear hA0 hval0
  refine (events_walk a0 W w0).mono fun e W' ⟨he, bel⟩ => ?_
  subst he
  exact ⟨_, rfl, _, _, _, [], _, [], hW', trodAll_mk1 (shut_bool Try.underlying4 _), (trodAll_cons_mk (shut_int Try.underlying33 w0) trodAll_mk0), rfl, bel.frame _, fun h => by cases h⟩
theorem viewEvents_over : Rows.viewEventsRow.holds Try.pinned (OpenSpec.ofChange Rows.viewEventsSpec) :=
  OpenClaim.holds_of_wide 7 Try.f7 rfl rfl rfl rfl rfl rfl rfl ⟨rfl, rfl, rfl, rfl, rfl⟩ rfl rfl rfl rfl rfl (by kernel_rfl) Try.func7 (by kernel_rfl)
    (of_decide_eq_true (by kernel_rfl)) (by unfold Func.isWrapper; first | (rw [if_pos (by decide +kernel)]; kernel_rfl) | (rw [if_neg (by decide +kernel)]; exact ⟨rfl, rfl⟩))
    (fun os started H enc _ => viewEvents_lifted os started H enc)
theorem viewEvents_holds : Rows.ViewEventsSaid := viewEvents_over
#print axioms viewEvents_holds
end Go.Proofs.Ytchhbhoikkdmeaa
