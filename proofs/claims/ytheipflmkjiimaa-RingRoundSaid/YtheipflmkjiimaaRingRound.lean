/- RingRound: of a list that stays each is told once in each round, in whatever order; who is not in it is never told: for every seed, every list, every number of rounds. -/
import Derived.Test.YtheipflmkjiimaaRiBits
import Derived.Deep.DeepCutAuto
import Derived.ChangeOld
import Derived.ChangeMaps5
import Derived.ShutString
import Derived.OpenShut
import Derived.SizedLaws
namespace Go.Proofs.Ytheipflmkjiimaa
open Go.Sort Go.RowKit Go.BigFrame Go.ChangeShapes Go.WideShapes Go.Deep
set_option linter.unusedVariables false
set_option linter.unusedSimpArgs false

def bitsUp (x : Int) (n : Nat) : List Int := (bitsTo x n).map (· + 1)
theorem up_mem (x : Int) (n : Nat) (y : Int) : y ∈ bitsUp x n ↔ ∃ k : Nat, k < n ∧ bitOn x k = true ∧ y = (k : Int) + 1 := by
  unfold bitsUp
  rw [List.mem_map]
  constructor
  · rintro ⟨z, h1, rfl⟩
    obtain ⟨k, h2, h3, rfl⟩ := (bits_mem x n z).1 h1
    exact ⟨k, h2, h3, rfl⟩
  · rintro ⟨k, h2, h3, rfl⟩
    exact ⟨k, (bits_mem x n k).2 ⟨k, h2, h3, rfl⟩, rfl⟩
theorem up_nodup (x : Int) (n : Nat) : (bitsUp x n).Nodup := by
  unfold bitsUp
  have := bits_nodup x n
  rw [List.Nodup] at this ⊢
  rw [List.pairwise_map]
  exact this.imp fun h e => h (by omega)
theorem up_len (x : Int) (n : Nat) : (bitsUp x n).length ≤ n := by
  unfold bitsUp; rw [List.length_map]; exact bits_len x n
theorem up_yes {x : Int} {n : Nat} (h : bitOn x n = true) : bitsUp x (n + 1) = bitsUp x n ++ [(n : Int) + 1] := by
  unfold bitsUp; rw [bitsTo, if_pos h]; simp
theorem up_no {x : Int} {n : Nat} (h : bitOn x n = false) : bitsUp x (n + 1) = bitsUp x n := by
  unfold bitsUp; rw [bitsTo, if_neg (by rw [h]; decide)]
/-- where a round stands: T were told, L are left -/
structure Rnd (l T L : List Int) : Prop where
  none : T = [] → L = []
  all : T ≠ [] → (T ++ L).Perm l
theorem Rnd.start (l : List Int) : Rnd l [] [] := ⟨fun _ => rfl, fun h => (h rfl).elim⟩
theorem Rnd.next {s : Int} {l T L : List Int} (h : Rnd l T L) (hnd : l.Nodup) (hT : T.length < l.length) :
    idR s L l ∈ l ∧ idR s L l ∉ T ∧ Rnd l (T ++ [idR s L l]) (leftR s L l) := by
  have hl : 0 < l.length := by omega
  obtain ⟨x, r, s', h1, hx, h2⟩ := nextL_cases s L l hl
  have e1 : idR s L l = x := by rw [next_id s L l hl, h1]; rfl
  have e2 : leftR s L l = r := by rw [next_left s L l hl, h1]; rfl
  rw [e1, e2]
  by_cases hT0 : T = []
  · subst hT0
    obtain rfl := h.none rfl
    rcases h2 with ⟨_, A, hA, _⟩ | ⟨_, hp, _⟩
    · simp at hA
    · exact ⟨hx, by simp, ⟨fun h => by simp at h, fun _ => by simpa using hp⟩⟩
  · have hp := h.all hT0
    have hL : 0 < L.length := by have := hp.length_eq; simp at this; omega
    obtain ⟨y, L', rfl⟩ : ∃ y L', L = y :: L' := by
      cases L with
      | nil => simp at hL
      | cons y L' => exact ⟨y, L', rfl⟩
    have hy : y ∈ l := hp.subset (by simp)
    rw [nextL_in hy] at h1
    injection h1 with h1 _
    injection h1 with h3 h4
    subst h3 h4
    have hnd2 := hp.nodup_iff.2 hnd
    rw [List.nodup_append] at hnd2
    refine ⟨hx, fun hm => hnd2.2.2 _ hm y (by simp) rfl, ⟨fun h => by simp at h, fun _ => by simpa using hp⟩⟩
theorem Rnd.done {l T L : List Int} (h : Rnd l T L) (hT : l.length ≤ T.length) : L = [] := by
  by_cases hT0 : T = []
  · exact h.none hT0
  · have := (h.all hT0).length_eq
    simp at this
    exact List.eq_nil_of_length_eq_zero (by omega)
def metF (T : List Int) : List Value := rowF 17 fun d => .bool (isIn (d : Nat) T)
theorem met_zero : metF [] = List.replicate 17 (.bool false) := by
  have : (fun d : Nat => Value.bool (isIn (d : Int) [])) = fun _ => .bool false := by funext d; simp [isIn]
  unfold metF; rw [this, rowF_const]
theorem met_set (T : List Int) (p : Nat) : (metF T).set p (.bool true) = metF (T ++ [(p : Int)]) := by
  unfold metF
  rw [rowF_set]
  refine rowF_congr fun d hd => ?_
  by_cases h : d = p
  · subst h; rw [if_pos rfl, show isIn (d : Int) (T ++ [(d : Int)]) = true from isIn_iff.2 (by simp)]
  · rw [if_neg h]
    congr 1
    rw [Bool.eq_iff_iff, isIn_iff, isIn_iff]
    simp
    omega
def RlJ (x : Int) (w : World) (g : Nat) (s : Int) (ov iv : Value) (wr : World) : Prop := ∃ (k : Nat) (u v : Sl), iv = .int .i64 (k : Nat) ∧ k ≤ 16 ∧ ov = .slice u.a (bitsUp x k).length u.c ∧ St w [hI u (bitsUp x k), hR g s v []] wr
def RoJ (l : List Int) (u : Sl) (q : Nat) (w : World) (g : Nat) (iv : Value) (wr : World) : Prop := ∃ (k : Nat) (s : Int) (v : Sl), iv = .int .i64 (k : Nat) ∧ k ≤ q ∧ St w [hI u l, hR g s v []] wr
def RmJ2 (l : List Int) (u : Sl) (w : World) (g mb : Nat) (iv : Value) (wr : World) : Prop := ∃ (T L : List Int) (s : Int) (v : Sl), iv = .int .i64 (T.length : Nat) ∧ T.length ≤ l.length ∧ Rnd l T L ∧ St w [hC mb (metF T), hI u l, hR g s v L] wr
set_option maxHeartbeats 6400000 in
set_option maxRecDepth 100000 in
theorem round_walk (s x r : Int) (hx : 0 ≤ x ∧ x ≤ 65535) (hr : 0 ≤ r ∧ r ≤ 255) (w : World) :
    Calls Try.prog 4 #[.int .u64 s, .int .u16 x, .int .u8 r] w fun e w' => e = .returned (.bool true) ∧ Below w.heap.size w w' := by
  have E := ex_any w
  obtain ⟨q, hq⟩ : ∃ q, r % 6 = q := ⟨_, rfl⟩
  have hq2 : r.tmod 6 = q := by rw [tmod_pos _ _ hr.1]; exact hq
  have q0 : 0 ≤ q ∧ q < 6 := by omega
  have cq := IntWalk.i64_in q ⟨by omega, by omega⟩
  have cq8 := IntWalk.u8_in q ⟨by omega, by omega⟩
  obtain ⟨qn, rfl⟩ : ∃ qn : Nat, q = qn := ⟨q.toNat, by omega⟩
  clear hq
  go_enter Try.func4, Try.ntmps4
  go_wp2_with fail
  refine E.mono ?_; rintro e w1 ⟨rfl, b1⟩
  have K := new_l s (St.start w w1 b1)
  clear E b1
  go_wp2_with fail
  refine K.mono ?_; rintro e w2 ⟨g, rfl, s2⟩
  have SB : Hid (RlJ x w g s (.slice none 0 0) (.int .i64 0) w2) := ⟨0, ⟨none, 0, 0⟩, _, rfl, by omega, rfl, s2.emptyI⟩
  clear K s2
  go_wp2_with fail
  go_loopw [9, 10] (fun ov kv wr => RlJ x w g s ov kv wr) (fun _ kv _ => 16 - (intOf kv).toNat)
  case atStart => exact SB.out
  case round =>
    obtain ⟨k, u, v, rfl, hk, rfl, hs⟩ := hrel
    clear SB
    have HS := Lib.hid hs
    have hK0 : (0 : Int) ≤ k := by omega
    clear hs
    by_cases hk8 : k < 16
    · have hk8' : (k : Int) < 16 := by omega
      have hlen := up_len x k
      have hk1 : k + 1 ≤ 16 := hk8
      obtain ⟨i1, hi1', hy0, hy1, hy2⟩ := info_parts info_int
      cases hb : bitOn x k with
      | true =>
        have hbt := (bit_yes hx.1 hb).1
        have EQ : Hid (bitsUp x (k + 1) = bitsUp x k ++ [(k : Int) + 1]) := up_yes hb
        have OW : Hid (∀ o, (wr.alloc o).ownsRow 0 3 1 (.slice u.a (bitsUp x k).length u.c) (bitsUp x k).length ((bitsUp x k).map (Value.int .i64))) := fun o => (HS.out.alloc o).ownI (by simp) rfl
        have kw := IntWalk.i64_in ((k : Int) + 1) ⟨by omega, by omega⟩
        clear hb
        generalize hB : bitsUp x k = B at *
        clear hB
        go_wp2_with (at_builtin; refine wpList_append_lies _ rfl (.tmp 34) (.tmp 37) 33 rfl 0 3 i1 (.int .i64 0) 1 8 Try.underlying33 hi1' hy0 hy1 hy2 rfl (by omega) (.slice u.a B.length u.c) B.length (B.map (Value.int .i64)) rfl (OW.out _) ⟨_, 0, none⟩ 1 1 [.int .i64 ((k : Int) + 1)] rfl rfl (World.news_of_block (cs := #[.int .i64 ((k : Int) + 1)]) (t := 3) (fr := (0, 0)) (heap_alloc_new _ _)) (by simp [Value.oneCell']) (by omega) (by unfold maxLen; omega) (by omega) (by simp) _ rfl ?_)
        intro g1 cap1 w9 hown hgrow hat hlt9
        have FIN := Lib.hid ((HS.out.alloc (.cells #[.int .i64 ((k : Int) + 1)] 3)).push [] [_] rfl (x := (k : Int) + 1) (by simpa using hown) hgrow (hat.imp id (fun h => by simpa using h)))
        clear hown hgrow hat OW HS
        go_wp2_with fail
        go_roundw
        case rel => exact ⟨k + 1, ⟨some ⟨g1, 0, none⟩, B.length + 1, cap1⟩, v, by go_num, hk1, by rw [EQ.out]; simp, by rw [EQ.out]; exact FIN.out⟩
        case measure => simp [intOf]; omega
      | false =>
        have hbt := (bit_no hx.1 hb).1
        have EQ : Hid (bitsUp x (k + 1) = bitsUp x k) := up_no hb
        clear hb
        go_wp2_with fail
        go_roundw
        case rel => exact ⟨k + 1, u, v, by go_num, hk1, by rw [EQ.out], by rw [EQ.out]; exact HS.out⟩
        case measure => simp [intOf]; omega
    · obtain rfl : k = 16 := by omega
      have hge : ¬ (((16 : Nat) : Nat) : Int) < 16 := by omega
      have hlen := up_len x 16
      have HND := Lib.hid (up_nodup x 16)
      have HM := Lib.hid (up_mem x 16)
      obtain ⟨l, hl⟩ : ∃ l, bitsUp x 16 = l := ⟨_, rfl⟩
      rw [hl] at HS hlen HND HM ⊢
      clear hl
      obtain ⟨ln, hln⟩ : ∃ ln, l.length = ln := ⟨_, rfl⟩
      rw [hln] at hlen ⊢
      have hLn := Lib.hid hln
      have hll : (ln : Int) ≤ 16 := by omega
      clear hln
      have SJ : Hid (RoJ l u qn w g (.int .i64 0) wr) := ⟨0, s, v, rfl, Nat.zero_le _, HS.out⟩
      clear HS
      go_wp2_with fail
      go_loopw [11] (fun iv wr => RoJ l u qn w g iv wr) (fun iv _ => 6 - (intOf iv).toNat)
      case atStart => exact SJ.out
      case round =>
        obtain ⟨j, s3, v3, rfl, hj, hs⟩ := hrel
        clear SJ
        have HS := Lib.hid hs
        have hJ0 : (0 : Int) ≤ j := by omega
        clear hs
        by_cases hlt : j < qn
        · have hlt' : (j : Int) < qn := by omega
          have SM : Hid (RmJ2 l u w g wr.heap.size (.int .i64 0) (wr.alloc (.cells #[.bool false, .bool false, .bool false, .bool false, .bool false, .bool false, .bool false, .bool false, .bool false, .bool false, .bool false, .bool false, .bool false, .bool false, .bool false, .bool false, .bool false] 45))) := ⟨[], [], s3, v3, rfl, Nat.zero_le _, Rnd.start l, by have := HS.out.box (metF []) 45; rw [met_zero] at this ⊢; exact this⟩
          have hj1 : Hid (j + 1 ≤ qn) := hlt
          clear HS
          go_upto_region 17 with fail
          generalize (wr.alloc (.cells #[.bool false, .bool false, .bool false, .bool false, .bool false, .bool false, .bool false, .bool false, .bool false, .bool false, .bool false, .bool false, .bool false, .bool false, .bool false, .bool false, .bool false] 45)) = w4 at *
          generalize wr.heap.size = mb at *
          go_wp2_with fail
          go_loopw [13] (fun iv wr => RmJ2 l u w g mb iv wr) (fun iv _ => 17 - (intOf iv).toNat)
          case atStart => exact SM.out
          case round =>
            obtain ⟨T, L, s5, v5, rfl, hT, hR, hs⟩ := hrel
            clear SM
            have HS := Lib.hid hs
            have HR := Lib.hid hR
            clear hs hR
            obtain ⟨tn, htn⟩ : ∃ tn, T.length = tn := ⟨_, rfl⟩
            have K := next_l u (l := l) (by rw [hLn.out]; omega) [_, _] [] (by simp) HS.out
            rw [htn, hLn.out] at hT
            rw [htn]
            rw [hLn.out] at K
            have hT0 : (0 : Int) ≤ tn := by omega
            have hTn := Lib.hid htn
            clear htn
            by_cases hTl : tn < ln
            · have hTl' : (tn : Int) < ln := by omega
              obtain ⟨n1, n2, n3⟩ := HR.out.next (s := s5) HND.out (by rw [hTn.out, hLn.out]; exact hTl)
              have hok : okR l = true := okR_iff.2 (by rw [hLn.out]; omega)
              rw [hok] at K
              obtain ⟨k, hk16, hbk, hid⟩ := (HM.out _).1 n1
              have N3 := Lib.hid n3
              have N2 := Lib.hid n2
              obtain ⟨id, hid2⟩ : ∃ id, idR s5 L l = id := ⟨_, rfl⟩
              rw [hid2] at K N2 N3 hid
              generalize stR s5 L l = s6 at *
              generalize leftR s5 L l = L6 at *
              obtain ⟨p, hp⟩ : ∃ p : Nat, p = k + 1 := ⟨_, rfl⟩
              obtain rfl : id = (p : Int) := by omega
              have hbt := (bit_yes hx.1 hbk).2
              have hp1 : (1 : Int) ≤ (p : Int) := by omega
              have hp16 : (p : Int) ≤ 16 := by omega
              have hp0 : (0 : Int) ≤ (p : Int) := by omega
              have hp17 : (p : Int) < 17 := by omega
              have d1 : decide ((p : Int) < 1) = false := decide_eq_false (by omega)
              have d1n : decide (p < 1) = false := decide_eq_false (by omega)
              have d1z : decide (p = 0) = false := decide_eq_false (by omega)
              have d2 : decide ((16 : Int) < (p : Int)) = false := decide_eq_false (by omega)
              have d2n : decide (16 < p) = false := decide_eq_false (by omega)
              have hsub : IntKind.i64.wrap ((p : Int) - 1) = (k : Int) := by rw [show (p : Int) - 1 = (k : Int) by omega]; exact IntWalk.i64_in _ ⟨by omega, by omega⟩
              have hk0 : (0 : Int) ≤ (k : Int) := by omega
              have hp1k : k < 16 := hk16
              clear n1 n2 n3 hid2 hbk hid hok hp
              go_wp2_with fail
              refine K.mono ?_; rintro e w5 ⟨rfl, v6, s7⟩
              have HS7 := Lib.hid s7
              have HC := s7.cs (b := mb) (vs := metF T) (by simp)
              have c1 := HC.cell p _ (rowF_at 17 _ p (by omega))
              have f1 := HC.free p _ (rowF_at 17 _ p (by omega))
              have l1 := HC.lt
              rw [isIn_not.2 N2.out] at c1
              have FIN := Lib.hid (s7.setc [] [_, _] p (.bool true) (by unfold metF; rw [rowF_len]; omega))
              rw [met_set] at FIN
              clear K s7 HC HS7 HS
              go_wp2_with fail
              go_roundw
              case rel => exact ⟨T ++ [(p : Int)], L6, s6, v6, by rw [List.length_append, hTn.out]; go_num, by rw [List.length_append, hTn.out, hLn.out]; exact hTl, N3.out, FIN.out⟩
              case measure => simp [intOf]; omega
            · obtain rfl : tn = ln := by omega
              have hge : ¬ (tn : Int) < (tn : Int) := by omega
              have eL := HR.out.done (by rw [hTn.out, hLn.out]; exact Nat.le_refl _)
              subst eL
              have FIN := Lib.hid HS.out.drop
              clear K HS HR
              go_wp2_with fail
              go_roundw
              case rel => exact ⟨j + 1, s5, v5, by go_num, hj1.out, FIN.out⟩
              case measure => simp [intOf]; omega
        · obtain rfl : j = qn := by omega
          have hge : ¬ (j : Int) < (j : Int) := by omega
          have K : Calls Try.prog 15 #[.pointer (some ⟨g, 0, none⟩), .slice none 0 0] wr fun e w' => e = .returned (.tuple #[.int .i64 0, .bool false]) ∧ wr = w' := next_none g s3 v3 [] none 0 wr (HS.out.get (h := hR g s3 v3 []) (by simp))
          clear hlt
          go_wp2_with fail
          refine K.mono ?_; rintro e w5 ⟨rfl, rfl⟩
          have K2 := left_l (g := g) (s := s3) (v := v3) (L := []) HS.out (by simp)
          clear K
          have HB := Lib.hid HS.out.below
          clear HS hlen hll hLn
          cases ln with
          | zero =>
            go_wp2
            go_ret
            exact ⟨rfl, HB.out⟩
          | succ ln =>
            have hne : (((ln + 1 : Nat) : Int) == 0) = false := by rw [beq_eq_false_iff_ne]; omega
            have hne2 : ¬ ((ln + 1 : Nat) : Int) = 0 := by omega
            go_wp2_with fail
            refine K2.mono ?_; rintro e w6 ⟨t6, rfl, s6⟩
            have HB2 := Lib.hid s6.below
            clear K2 s6
            go_wp2
            go_ret
            exact ⟨rfl, HB2.out⟩
theorem round_run (s x r : Int) (w : World) (_ : (Lit.int .u64 s).wf = true) (wx : (Lit.int .u16 x).wf = true) (wr : (Lit.int .u8 r).wf = true) :
    Calls Try.prog 4 #[.int .u64 s, .int .u16 x, .int .u8 r] w fun e w' => e = .returned (.bool true) ∧ Below w.heap.size w w' :=
  round_walk s x r (bounds_u16 wx) (bounds_u8 wr) w
theorem ringRound_own : ownKnob Try.prog.godebug = none := by kernel_rfl
theorem ringRound_laid : laidOutB Try.prog = true := by kernel_rfl
set_option maxRecDepth 100000 in
theorem ringRound_lifted (os : Os) (started : os.Started) (H : Type) (enc : TypeId × Value → H) :
    ReturnsInHanded {} Try.checked os 4 .any (Rows.ringRoundSpec.pre6 enc Try.prog Try.f4 Rows.ringRoundRow.domain false) (Rows.ringRoundSpec.post enc Try.prog Try.f4 false true false false) := by
  refine returnsInHanded_of_change (C := Try.checked) ringRound_own started (by kernel_rfl) Try.func4
    (ChangeSpec.witness6 (enc := enc) (C := Try.checked) false ⟨#[], #[.int .u64 0, .int .u16 0, .int .u8 0], []⟩ 8 (by kernel_rfl) (by kernel_rfl) (by kernel_rfl) (by kernel_rfl)) ?_
  intro W base args ds gs before hval0 hW hcnd _
  have hval : ∀ (j : Nat) t v, Try.f4.params[j]? = some t → args[j]? = some v → Value.okWide Try.prog W .any base t v := hval0
  have hW' := hW
  obtain ⟨p, q, hA0, hV, rfl, hfz, hnd⟩ := hW
  have hA : DataW.TrodAll enc Try.prog W 0 (fun _ => true) true Try.f4.params.toList args.toList ds p := hA0
  rw [Try.params4] at hA hval
  obtain ⟨v0, vs0, d0, ds0, p0, q0, hargs, rfl, rfl, h0, r0⟩ := trodAll_cons hA
  obtain ⟨v1, vs1, d1, ds1, p1, q1, rfl, rfl, rfl, h1, r1⟩ := trodAll_cons r0
  obtain ⟨v2, vs2, d2, ds2, p2, q2, rfl, rfl, rfl, h2, r2⟩ := trodAll_cons r1
  obtain ⟨rfl, rfl, rfl⟩ := trodAll_nil r2
  obtain rfl : args = #[v0, v1, v2] := by cases args; simp_all
  obtain ⟨rfl, rfl⟩ := trodVars_none hV
  obtain ⟨a0, rfl, rfl, rfl, w0⟩ := open_int Try.underlying22 (hval 0 22 v0 rfl rfl) h0
  obtain ⟨a1, rfl, rfl, rfl, w1⟩ := open_int Try.underlying44 (hval 1 44 v1 rfl rfl) h1
  obtain ⟨a2, rfl, rfl, rfl, w2⟩ := open_int Try.underlying5 (hval 2 5 v2 rfl rfl) h2
  clear hA0 hval0
  refine (round_run a0 a1 a2 W w0 w1 w2).mono fun e W' ⟨he, bel⟩ => ?_
  subst he
  exact ⟨_, rfl, _, _, _, [], _, [], hW', trodAll_mk1 (shut_bool Try.underlying4 _), (trodAll_cons_mk (shut_int Try.underlying22 w0) (trodAll_cons_mk (shut_int Try.underlying44 w1) (trodAll_cons_mk (shut_int Try.underlying5 w2) trodAll_mk0))), rfl, bel.frame _, fun h => by cases h⟩
theorem ringRound_over : Rows.ringRoundRow.holds Try.pinned (OpenSpec.ofChange Rows.ringRoundSpec) :=
  OpenClaim.holds_of_wide 4 Try.f4 rfl rfl rfl rfl rfl rfl rfl ⟨rfl, rfl, rfl, rfl, rfl⟩ rfl rfl rfl rfl rfl (by kernel_rfl) Try.func4 (by kernel_rfl)
    (of_decide_eq_true (by kernel_rfl)) (by unfold Func.isWrapper; first | (rw [if_pos (by decide +kernel)]; kernel_rfl) | (rw [if_neg (by decide +kernel)]; exact ⟨rfl, rfl⟩))
    (fun os started H enc _ => ringRound_lifted os started H enc)
theorem ringRound_holds : Rows.RingRoundSaid := ringRound_over
#print axioms ringRound_holds
end Go.Proofs.Ytheipflmkjiimaa
