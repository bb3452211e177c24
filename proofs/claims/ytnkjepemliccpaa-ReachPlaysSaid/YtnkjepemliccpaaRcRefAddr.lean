/- The reference's: Addr. -/
import Derived.Test.YtnkjepemliccpaaRcRefSee
namespace Go.Proofs.Ytnkjepemliccpaa
open Go.Sort Go.RowKit Go.BigFrame
set_option linter.unusedVariables false
set_option linter.unusedSimpArgs false

def bI (hold now : Int) (L : List Vt) (i : Nat) : Bs := (L.take i).foldl (stepA hold now L) zB
theorem bI_succ {hold now : Int} {L : List Vt} {i : Nat} {x : Vt} (hx : L[i]? = some x) : bI hold now L (i + 1) = stepA hold now L (bI hold now L i) x := by
  obtain ⟨h1, h2⟩ := List.getElem?_eq_some_iff.1 hx
  unfold bI
  rw [List.take_succ_eq_append_getElem h1, h2, List.foldl_append]; rfl
theorem bI_end (hold now : Int) (L : List Vt) : bI hold now L L.length = bestL hold now L := by unfold bI bestL; rw [List.take_length]
theorem bI_num {hold now : Int} {L : List Vt} (hL : ∀ v ∈ L, v.ip < 4294967296 ∧ v.pt < 65536) (h33 : L.length ≤ 33) : ∀ i, (bI hold now L i).ip < 4294967296 ∧ (bI hold now L i).pt < 65536 ∧ (bI hold now L i).n ≤ 33
  | 0 => ⟨by show (0 : Nat) < 4294967296; decide, by show (0 : Nat) < 65536; decide, Nat.zero_le _⟩
  | i + 1 => by
    have ih := bI_num (hold := hold) (now := now) hL h33 i
    cases hx : L[i]? with
    | none =>
      have hl := List.getElem?_eq_none_iff.1 hx
      have e : bI hold now L (i + 1) = bI hold now L i := by unfold bI; rw [List.take_of_length_le (by omega), List.take_of_length_le hl]
      rw [e]; exact ih
    | some x =>
      rw [bI_succ hx]
      have hm := hL x (List.mem_of_getElem? hx)
      unfold stepA
      split
      · split
        · exact ⟨hm.1, hm.2, Nat.le_trans (cnt_le _ _ _ _ _) h33⟩
        · exact ih
      · exact ih
def cI (hold now : Int) (L : List Vt) (ip pt q : Nat) : Nat := (L.take q).countP (cntB hold now ip pt)
theorem cI_succ {hold now : Int} {L : List Vt} {ip pt q : Nat} {y : Vt} (hy : L[q]? = some y) : cI hold now L ip pt (q + 1) = cI hold now L ip pt q + if cntB hold now ip pt y = true then 1 else 0 := by
  obtain ⟨h1, h2⟩ := List.getElem?_eq_some_iff.1 hy
  unfold cI
  rw [List.take_succ_eq_append_getElem h1, h2, List.countP_append, List.countP_singleton]
theorem cI_end (hold now : Int) (L : List Vt) (ip pt : Nat) : cI hold now L ip pt L.length = cntL hold now L ip pt := by unfold cI cntL; rw [List.take_length]
theorem cI_le (hold now : Int) (L : List Vt) (ip pt q : Nat) : cI hold now L ip pt q ≤ q := by
  have := List.countP_le_length (p := cntB hold now ip pt) (l := L.take q)
  rw [List.length_take] at this
  show (L.take q).countP _ ≤ q
  omega
structure RaI (hold now : Int) (L : List Vt) (w : World) (b4 b6 i : Nat) (wr : World) : Prop where
  x6 : Cs b6 (bc (bI hold now L i)) wr
  x4 : Cs b4 z2 wr
  ne : b4 ≠ b6
  l4 : w.heap.size ≤ b4
  l6 : w.heap.size ≤ b6
  below : Below w.heap.size w wr
theorem RaI.same {hold now : Int} {L : List Vt} {w wr w' : World} {b4 b6 i : Nat} (h : RaI hold now L w b4 b6 i wr) (hb : Below wr.heap.size wr w') (e : bI hold now L (i + 1) = bI hold now L i) : RaI hold now L w b4 b6 (i + 1) w' :=
  ⟨by rw [e]; exact h.x6.keep hb, h.x4.keep hb, h.ne, h.l4, h.l6, h.below.trans (hb.mono h.below.size)⟩
theorem RaI.put {hold now : Int} {L : List Vt} {w wr w' : World} {b4 b6 i : Nat} (h : RaI hold now L w b4 b6 i wr) (hb : Below wr.heap.size wr w') {ip pt n : Nat} (e : bI hold now L (i + 1) = ⟨ip, pt, n⟩) :
    RaI hold now L w b4 b6 (i + 1) ((w'.setCell ⟨b6, 0, none⟩ (.int .u32 ip)).setCell ⟨b6, 1, none⟩ (.int .u16 pt)) := by
  have x6 := ((h.x6.keep hb).set 0 (.int .u32 ip) (by simp [bc])).set 1 (.int .u16 pt) (by simp [bc])
  refine ⟨by rw [e]; exact x6, ((h.x4.keep hb).far _ _ (fun e => h.ne e.symm)).far _ _ (fun e => h.ne e.symm), h.ne, h.l4, h.l6, ?_⟩
  exact ((h.below.trans (hb.mono h.below.size)).setCell (by exact h.l6) _).setCell (by exact h.l6) _
def RaJ (hold now : Int) (L : List Vt) (w : World) (b4 b6 : Nat) (mv iv : Value) (wr : World) : Prop := ∃ i : Nat, iv = .int .i64 (i : Nat) ∧ mv = .int .i64 ((bI hold now L i).n : Nat) ∧ i ≤ L.length ∧ RaI hold now L w b4 b6 i wr
def RbJ (hold now : Int) (L : List Vt) (ip pt : Nat) (wi : World) (nv kv : Value) (wr : World) : Prop := ∃ q : Nat, kv = .int .i64 (q : Nat) ∧ nv = .int .i64 (cI hold now L ip pt q : Nat) ∧ q ≤ L.length ∧ Below wi.heap.size wi wr
set_option maxHeartbeats 12800000 in
set_option maxRecDepth 100000 in
theorem raddr_any (now : Int) (g : Nat) (v p : Sl) (sq : Int) (gt : Bool) (k : Rc) (w : World) (h : Qs g v p sq gt k w) :
    Calls Try.prog 24 #[.pointer (some ⟨g, 0, none⟩), .int .u64 now] w (AddrPost k now w) := by
  have HB := Lib.hid (fun w' (b : Below w.heap.size w w') => h.box.keep b)
  have HR := Lib.hid (fun w' (b : Below w.heap.size w w') => erow_keep h.row b)
  have hvn := h.n
  have l33 := all_len k.vote
  have hh0 := h.ok.h0
  have hh1 := h.ok.h1
  have NUM : Hid (∀ x ∈ allV k.vote, 0 ≤ x.tm ∧ x.tm ≤ 4611686018427387904 ∧ x.ip < 4294967296 ∧ x.pt < 65536) := fun x hx => by
    obtain ⟨j, _, rfl, hi⟩ := mem_all.1 hx
    exact h.ok.num j
  have BR : Hid (addrR k now = bestL k.hold now (allV k.vote)) := rfl
  have CELL : Hid (∀ w', Below w.heap.size w w' → ∀ (j : Nat) (x : Vt), (allV k.vote)[j]? = some x → ∃ gv, v.a = some ⟨gv, 0, none⟩ ∧ gv < w'.heap.size ∧ ∀ t u, (cv x)[t]? = some u → w'.cell? ⟨gv, j * 4 + t, none⟩ = some u) := fun w' b j x hx => by
    have hr := erow_keep h.row b
    obtain ⟨va, vn, vc⟩ := v
    rcases erow_form hr with ⟨_, e⟩ | ⟨gv, cap, e1, hg⟩
    · rw [e] at hx; simp at hx
    · simp only [Sl.v, Value.slice.injEq] at e1
      obtain ⟨rfl, -, rfl⟩ := e1
      simp only at hvn
      subst hvn
      exact ⟨gv, rfl, hg, fun t u hu => row_cell hr hx t u hu⟩
  unfold AddrPost
  generalize addrR k now = br at *
  generalize hL : allV k.vote = L at *
  obtain ⟨va, vn, vc⟩ := v
  simp only at hvn
  subst hvn
  have A0 : Hid (RaI k.hold now L w w.heap.size (w.heap.size + 1) 0 ((w.alloc (.cells #[.int .u32 0, .int .u16 0] 43)).alloc (.cells #[.int .u32 0, .int .u16 0] 43))) := by
    have B1 := (Below.refl w.heap.size w).alloc (Nat.le_refl _) (.cells #[.int .u32 0, .int .u16 0] 43)
    have X1 := Cs.new w z2 43
    have X2 := Cs.new (w.alloc (.cells #[.int .u32 0, .int .u16 0] 43)) z2 43
    rw [World.size_alloc] at X2
    exact ⟨X2, X1.alloc _, by omega, Nat.le_refl _, by omega, B1.alloc B1.size _⟩
  have HNB := Lib.hid (bI_num (hold := k.hold) (now := now) (L := L) (fun x hx => ⟨(NUM.out x hx).2.2.1, (NUM.out x hx).2.2.2⟩) l33)
  clear h hL
  generalize hhd : k.hold = hd at *
  go_enter Try.func24, Try.ntmps24
  go_upto_region 2 with fail
  generalize ((w.alloc (.cells #[.int .u32 0, .int .u16 0] 43)).alloc (.cells #[.int .u32 0, .int .u16 0] 43)) = w1 at *
  generalize w.heap.size + 1 = b6 at A0 ⊢
  obtain ⟨b4, hb4⟩ : ∃ z, z = w.heap.size := ⟨_, rfl⟩
  rw [← hb4]
  replace A0 : Hid (RaI hd now L w b4 b6 0 w1) := by rw [hb4]; exact A0
  clear hb4
  go_wp2_with fail
  go_loopw [7, 8] (fun mv iv wr => RaJ hd now L w b4 b6 mv iv wr) (fun _ iv _ => L.length - (intOf iv).toNat)
  case atStart => exact ⟨0, rfl, rfl, Nat.zero_le _, A0.out⟩
  case round =>
    obtain ⟨i, rfl, rfl, hi, hA⟩ := hrel
    have A := Lib.hid hA
    clear hA A0
    have hi0 : (0 : Int) ≤ i := by omega
    have i8 := IntWalk.i64_in ((i : Int) + 1) ⟨by omega, by omega⟩
    have X := HB.out wr A.out.below
    have x1 := X.cell 1 _ rfl
    have x2 := X.cell 2 _ rfl
    have gl := X.lt
    clear X
    by_cases hlt : i < L.length
    · have hlt' : (i : Int) < L.length := by omega
      have hxi : L[i]? = some L[i] := List.getElem?_eq_getElem hlt
      have hxm : L[i] ∈ L := List.getElem_mem hlt
      have hi1 : Hid (i + 1 ≤ L.length) := hlt
      have SU := Lib.hid (bI_succ (hold := hd) (now := now) hxi)
      have nx := NUM.out _ hxm
      obtain ⟨gv, hgv, hgl, CI⟩ := CELL.out wr A.out.below i _ hxi
      subst hgv
      have KC := Lib.hid (fun w' b => (CELL.out w' b i _ hxi))
      have NB := HNB.out i
      generalize L[i] = x at *
      clear hxi hxm
      obtain ⟨y1, y2, y3, y4⟩ := x
      simp only at nx
      have e3 := CI 3 _ rfl
      have wsum := IntWalk.u64_in (y4 + hd) ⟨by omega, by omega⟩
      rw [hhd] at x1
      clear CI
      by_cases hlv : now < y4 + hd
      · have d1 : decide (y4 + hd ≤ now) = false := decide_eq_false (by omega)
        have d1' : ¬ y4 + hd ≤ now := by omega
        have hlive : Hid (liveB hd now ⟨y1, y2, y3, y4⟩ = true) := decide_eq_true hlv
        have S1 : Hid (bI hd now L (i + 1) = if betB (bI hd now L i) y2 y3 (cntL hd now L y2 y3) = true then ⟨y2, y3, cntL hd now L y2 y3⟩ else bI hd now L i) := by
          show _ = _
          rw [SU.out]; unfold stepA; rw [if_pos hlive.out]
        clear SU
        go_wp2_with fail
        go_quiet (fail)
        generalize hwi : wr.drewN nq = wi at *
        have A1 : Hid (RaI hd now L w b4 b6 i wi) := by
          have hb : Below wr.heap.size wr wi := by rw [← hwi]; exact below_drewN (Below.refl _ _) _
          exact ⟨A.out.x6.keep hb, A.out.x4.keep hb, A.out.ne, A.out.l4, A.out.l6, A.out.below.trans (hb.mono A.out.below.size)⟩
        clear hwi A x1 x2 gl e3 hgl hlive
        go_wp2_with fail
        go_loopw [9, 10] (fun nv kv wr => RbJ hd now L y2 y3 wi nv kv wr) (fun _ kv _ => L.length - (intOf kv).toNat)
        case atStart => exact ⟨0, rfl, rfl, Nat.zero_le _, Below.refl _ _⟩
        case round =>
          obtain ⟨q, rfl, rfl, hq, hbq⟩ := hrel
          have HBq := Lib.hid hbq
          clear hbq
          have hq0 : (0 : Int) ≤ q := by omega
          have q8 := IntWalk.i64_in ((q : Int) + 1) ⟨by omega, by omega⟩
          have hcl := cI_le hd now L y2 y3 q
          have BW := Lib.hid (A1.out.below.trans (HBq.out.mono A1.out.below.size))
          have X := HB.out _ BW.out
          have x1 := X.cell 1 _ rfl
          have x2 := X.cell 2 _ rfl
          have gl := X.lt
          clear X
          rw [hhd] at x1
          obtain ⟨gv2, e, hgl, CI⟩ := KC.out _ BW.out
          simp only [Option.some.injEq, Addr.mk.injEq, and_true] at e
          subst e
          by_cases hql : q < L.length
          · have hql' : (q : Int) < L.length := by omega
            have hq1 : Hid (q + 1 ≤ L.length) := hql
            have hyq : L[q]? = some L[q] := List.getElem?_eq_getElem hql
            have CS := Lib.hid (cI_succ (hold := hd) (now := now) (ip := y2) (pt := y3) hyq)
            have ny := NUM.out _ (List.getElem_mem hql)
            obtain ⟨gv3, e, _, CQ⟩ := CELL.out _ BW.out q _ hyq
            simp only [Option.some.injEq, Addr.mk.injEq, and_true] at e
            subst e
            generalize L[q] = z at *
            clear hyq
            obtain ⟨z1, z2', z3, z4⟩ := z
            simp only at ny
            have a1 := CI 1 _ rfl
            have a2 := CI 2 _ rfl
            have b1 := CQ 1 _ rfl
            have b2 := CQ 2 _ rfl
            have b3 := CQ 3 _ rfl
            simp only [cv, List.getElem?_cons_zero, List.getElem?_cons_succ] at a1 a2 b1 b2 b3
            have wq := IntWalk.u64_in (z4 + hd) ⟨by omega, by omega⟩
            have hc8 : IntKind.i64.wrap ((cI hd now L y2 y3 q : Nat) + 1 : Int) = ((cI hd now L y2 y3 q + 1 : Nat) : Int) := by
              rw [show ((cI hd now L y2 y3 q : Nat) : Int) + 1 = ((cI hd now L y2 y3 q + 1 : Nat) : Int) by omega]; exact IntWalk.i64_in _ ⟨by omega, by omega⟩
            clear CI CQ
            by_cases hs : z2' = y2 ∧ z3 = y3
            · obtain ⟨s1, s2⟩ := hs
              by_cases hl2 : now < z4 + hd
              · have EC : Hid (cI hd now L y2 y3 (q + 1) = cI hd now L y2 y3 q + 1) := by
                  show _ = _
                  rw [CS.out, if_pos (by unfold cntB liveB sameA; simp [hl2, s1, s2])]
                have e1 : decide (now < z4 + hd) = true := decide_eq_true hl2
                rw [s1] at b1
                rw [s2] at b2
                clear CS s1 s2 hql
                generalize cI hd now L y2 y3 q = cc at *

                go_wp2_with fail
                go_quiet (fail)
                have BQ := Lib.hid (HBq.out.trans ((below_drewN (Below.refl _ _) nq).mono HBq.out.size))
                go_wp2
                go_roundw
                case rel => exact ⟨q + 1, by go_num, by rw [EC.out]; first | done | rfl | go_num, hq1.out, BQ.out⟩
                case measure => have := hq1.out; simp [intOf]; omega
              · have EC : Hid (cI hd now L y2 y3 (q + 1) = cI hd now L y2 y3 q) := by
                  show _ = _
                  rw [CS.out, if_neg (by unfold cntB liveB; simp; omega)]; rfl
                have e1 : decide (now < z4 + hd) = false := decide_eq_false hl2
                rw [s1] at b1
                rw [s2] at b2
                clear CS s1 s2 hql hc8
                generalize cI hd now L y2 y3 q = cc at *

                go_wp2_with fail
                go_quiet (fail)
                have BQ := Lib.hid (HBq.out.trans ((below_drewN (Below.refl _ _) nq).mono HBq.out.size))
                go_wp2
                go_roundw
                case rel => exact ⟨q + 1, by go_num, by rw [EC.out]; first | done | rfl | go_num, hq1.out, BQ.out⟩
                case measure => have := hq1.out; simp [intOf]; omega
            · have EC : Hid (cI hd now L y2 y3 (q + 1) = cI hd now L y2 y3 q) := by
                show _ = _
                rw [CS.out, if_neg (by unfold cntB sameA; simp; intro _ h1 h2; exact hs ⟨h1, h2⟩)]; rfl
              clear CS hql hc8
              generalize cI hd now L y2 y3 q = cc at *
              by_cases s1 : z2' = y2
              · have s2 : ¬ z3 = y3 := fun e => hs ⟨s1, e⟩
                have s2i : ¬ (z3 : Int) = (y3 : Int) := by omega
                have s2b : ((z3 : Int) == (y3 : Int)) = false := by rw [beq_eq_false_iff_ne]; omega
                rw [s1] at b1
                clear hs s1

                go_wp2_with fail
                go_quiet (fail)
                have BQ := Lib.hid (HBq.out.trans ((below_drewN (Below.refl _ _) nq).mono HBq.out.size))
                go_wp2
                go_roundw
                case rel => exact ⟨q + 1, by go_num, by rw [EC.out]; first | done | rfl | go_num, hq1.out, BQ.out⟩
                case measure => have := hq1.out; simp [intOf]; omega
              · have s1i : ¬ (z2' : Int) = (y2 : Int) := by omega
                have s1b : ((z2' : Int) == (y2 : Int)) = false := by rw [beq_eq_false_iff_ne]; omega
                clear hs

                go_wp2_with fail
                go_quiet (fail)
                have BQ := Lib.hid (HBq.out.trans ((below_drewN (Below.refl _ _) nq).mono HBq.out.size))
                go_wp2
                go_roundw
                case rel => exact ⟨q + 1, by go_num, by rw [EC.out]; first | done | rfl | go_num, hq1.out, BQ.out⟩
                case measure => have := hq1.out; simp [intOf]; omega
          · obtain rfl : q = L.length := by omega
            have CE := Lib.hid (cI_end hd now L y2 y3)
            rw [CE.out] at hcl ⊢
            have KO := fun w' => rorder_any y2 y3 (bI hd now L i).ip (bI hd now L i).pt nx.2.2.1 nx.2.2.2 NB.1 NB.2.1 w'
            have HBE : Hid (betB (bI hd now L i) y2 y3 (cntL hd now L y2 y3) = (decide ((bI hd now L i).n < cntL hd now L y2 y3) || (decide (cntL hd now L y2 y3 = (bI hd now L i).n) && decide (ordI y2 y3 (bI hd now L i).ip (bI hd now L i).pt < 0)))) := rfl
            generalize betB (bI hd now L i) y2 y3 (cntL hd now L y2 y3) = bb at *
            generalize cntL hd now L y2 y3 = cn at *
            generalize ordI y2 y3 (bI hd now L i).ip (bI hd now L i).pt = od at *
            have X6 := A1.out.x6.keep HBq.out
            generalize hbt : bI hd now L i = bt at *
            obtain ⟨p1, p2, p3⟩ := bt
            simp only [bc] at X6
            simp only at HBE KO NB
            have k2 := cell_regrown x2
            have a1 := cell_regrown (CI 1 _ rfl)
            have a2 := cell_regrown (CI 2 _ rfl)
            have k60 := cell_regrown (X6.cell 0 _ rfl)
            have k61 := cell_regrown (X6.cell 1 _ rfl)
            have C := fun d os => Calls.regrown_of (KO (grow (redrawn wr d) os))
            clear CI KO X6 hcl hq hq0 q8
            go_upto_region 13 with fail
            clear x1 x2 gl
            (refine wp_region_quiet_below (by kernel_rfl) (by kernel_rfl) ?_; (repeat (go_big_quiet_step (first | with_reducible exact C _ _))); refine wpQuiet_nil ?_; intro _ hw'; obtain ⟨⟨dq, osq⟩, hw''⟩ := hw'; subst hw'')
            have BZ : Hid (Below wr.heap.size wr (grow (redrawn wr dq) osq)) := below_regrown wr dq osq
            clear k2 a1 a2 k60 k61 C
            generalize grow (redrawn wr dq) osq = wz at *
            have BWZ := Lib.hid (BW.out.trans (BZ.out.mono BW.out.size))
            have BIZ := Lib.hid (HBq.out.trans (BZ.out.mono HBq.out.size))
            obtain ⟨gv4, e, hgl4, CI⟩ := KC.out _ BWZ.out
            simp only [Option.some.injEq, Addr.mk.injEq, and_true] at e
            subst e
            have X := HB.out wz BWZ.out
            have x2 := X.cell 2 _ rfl
            have gl := X.lt
            clear X
            have X6 := A1.out.x6.keep BIZ.out
            rw [hbt] at X6
            simp only [bc] at X6
            have a1 := CI 1 _ rfl
            have a2 := CI 2 _ rfl
            simp only [cv, List.getElem?_cons_zero, List.getElem?_cons_succ] at a1 a2
            have y60 := X6.cell 0 _ rfl
            have y61 := X6.cell 1 _ rfl
            have yl := X6.lt
            have yf0 := X6.free 0 _ rfl
            have yf1 := X6.free 1 _ rfl
            clear CI X6
            rcases Nat.lt_trichotomy p3 cn with hc | hc | hc
            · have hb : bb = true := by rw [HBE.out]; simp [hc]
              have EQ : Hid (bI hd now L (i + 1) = ⟨y2, y3, cn⟩) := by show _ = _; rw [S1.out, if_pos hb]
              have AF := Lib.hid (A1.out.put BIZ.out EQ.out)
              have e1 : (p3 : Int) < cn := by omega
              clear HBE S1 hc hb hbt A1 CE

              go_wp2
              go_roundw
              case rel => exact ⟨i + 1, by go_num, by rw [EQ.out], hi1.out, AF.out⟩
              case measure => have := hi1.out; simp [intOf]; omega
            · subst hc
              have e1 : ¬ (p3 : Int) < p3 := by omega
              by_cases ho : od < 0
              · have hb : bb = true := by rw [HBE.out]; simp [ho]
                have EQ : Hid (bI hd now L (i + 1) = ⟨y2, y3, p3⟩) := by show _ = _; rw [S1.out, if_pos hb]
                have AF := Lib.hid (A1.out.put BIZ.out EQ.out)
                have e2 : decide (od < 0) = true := decide_eq_true ho
                clear HBE S1 hb hbt A1 CE

                go_wp2
                go_roundw
                case rel => exact ⟨i + 1, by go_num, by rw [EQ.out], hi1.out, AF.out⟩
                case measure => have := hi1.out; simp [intOf]; omega
              · have hb : bb = false := by rw [HBE.out]; simp; omega
                have EQ : Hid (bI hd now L (i + 1) = ⟨p1, p2, p3⟩) := by show _ = _; rw [S1.out, if_neg (by simp [hb])]
                have AF := Lib.hid (A1.out.same BIZ.out (by rw [EQ.out, hbt]))
                have e2 : decide (od < 0) = false := decide_eq_false ho
                clear HBE S1 hb hbt A1 CE y60 y61 yl yf0 yf1

                go_wp2
                go_roundw
                case rel => exact ⟨i + 1, by go_num, by rw [EQ.out], hi1.out, AF.out⟩
                case measure => have := hi1.out; simp [intOf]; omega
            · have hb : bb = false := by rw [HBE.out]; simp; omega
              have EQ : Hid (bI hd now L (i + 1) = ⟨p1, p2, p3⟩) := by show _ = _; rw [S1.out, if_neg (by simp [hb])]
              have AF := Lib.hid (A1.out.same BIZ.out (by rw [EQ.out, hbt]))
              have e1 : ¬ (p3 : Int) < cn := by omega
              have e2 : ¬ (cn : Int) = p3 := by omega
              have e3 : ((cn : Int) == (p3 : Int)) = false := by rw [beq_eq_false_iff_ne]; omega
              clear HBE S1 hc hb hbt A1 CE y60 y61 yl yf0 yf1

              go_wp2
              go_roundw
              case rel => exact ⟨i + 1, by go_num, by rw [EQ.out], hi1.out, AF.out⟩
              case measure => have := hi1.out; simp [intOf]; omega
      · have d1 : decide (y4 + hd ≤ now) = true := decide_eq_true (by omega)
        have d1' : y4 + hd ≤ now := by omega
        have E : Hid (bI hd now L (i + 1) = bI hd now L i) := by
          show _ = _
          rw [SU.out]; unfold stepA; rw [if_neg (by unfold liveB; simp; omega)]
        clear SU
        go_wp2_with fail
        go_quiet (fail)
        have AF := Lib.hid (A.out.same (w' := wr.drewN nq) (below_drewN (Below.refl _ _) _) E.out)
        go_wp2
        go_roundw
        case rel => exact ⟨i + 1, by go_num, by rw [E.out], hi1.out, AF.out⟩
        case measure => have := hi1.out; simp [intOf]; omega
    · obtain rfl : i = L.length := by omega
      have BE : Hid (bI hd now L L.length = br) := by show _ = _; rw [bI_end, BR.out]
      have X6 := A.out.x6
      rw [BE.out] at X6 ⊢
      simp only [bc] at X6
      have y60 := X6.cell 0 _ rfl
      have y61 := X6.cell 1 _ rfl
      have yl := X6.lt
      have t0 := A.out.x4.cell 0 _ rfl
      have t1' := A.out.x4.cell 1 _ rfl
      have tf0 := A.out.x4.free 0 _ rfl
      have tf1 := A.out.x4.free 1 _ rfl
      have tl := A.out.x4.lt
      have X4 := Lib.hid ((A.out.x4.set 0 (.int .u32 br.ip) (by simp [z2])).set 1 (.int .u16 br.pt) (by simp [z2]))
      have BF : Hid (Below w.heap.size w ((wr.setCell ⟨b4, 0, none⟩ (.int .u32 br.ip)).setCell ⟨b4, 1, none⟩ (.int .u16 br.pt))) := (A.out.below.setCell (by exact A.out.l4) _).setCell (by exact A.out.l4) _
      simp only [z2, List.set_cons_zero, List.set_cons_succ] at X4
      clear X6 A BE HNB BR hlt
      obtain ⟨q1, q2, q3⟩ := br
      simp only at *
      have hll : ¬ (L.length : Int) < L.length := by omega
      go_wp2
      generalize ((wr.setCell ⟨b4, 0, none⟩ (.int .u32 q1)).setCell ⟨b4, 1, none⟩ (.int .u16 q2)) = w9 at *
      have s0 := X4.out.cell 0 _ rfl
      have s1 := X4.out.cell 1 _ rfl
      have sl := X4.out.lt
      clear t0 t1' tf0 tf1 tl y60 y61 yl
      refine bodyPost_ret (v := (.tuple #[.agg #[.int .u32 q1, .int .u16 q2], .bool (decide (0 < q3))])) (by simp [results, Try.results24, go_sem, *]) rfl ?_
      exact ⟨rfl, BF.out⟩
end Go.Proofs.Ytnkjepemliccpaa
