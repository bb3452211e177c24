/- WheelPlays: whatever deeds are done, timers are set, stopped, fall due as the document's own wheel does it: what is told, and what is there. -/
import Derived.Test.YtmnakbpjbgjnmaaWhDeeds
import Derived.ChangeMaps5
import Derived.ShutString
import Derived.OpenShut
import Derived.SizedLaws
import Derived.Deep.CutBlock
namespace Go.Proofs.Ytmnakbpjbgjnmaa
open Go.Sort Go.RowKit Go.BigFrame Go.ChangeShapes Go.WideShapes Go.ChangeAt
open Go.ChangeMaps (open_string shut_string)
set_option linter.unusedVariables false
set_option linter.unusedSimpArgs false

def PlJ (gx gy : Nat) (w : World) (len : Nat) (iv : Value) (wr : World) : Prop := ∃ (i : Nat) (L : List Tm), i ≤ len ∧ i ≤ 80 ∧ iv = .int .i64 (i : Nat) ∧ P2 [] [] gx gy L L w wr
def PdJ (n : Nat) (P : World → Prop) (fv kv : Value) (wr : World) : Prop := ∃ k : Nat, fv = .bool true ∧ kv = .int .i64 (k : Nat) ∧ k ≤ n ∧ P wr
def PaJ (n : Nat) (P : World → Prop) (kv : Value) (wr : World) : Prop := ∃ k : Nat, kv = .int .i64 (k : Nat) ∧ k ≤ n ∧ P wr
theorem P2.reads {l : List (Nat × List Value)} {R : List (Bool × Sl × List Tm)} {gx gy : Nat} {L M : List Tm} {w0 w : World} (h : P2 l R gx gy L M w0 w) {b : Bool} {s : Sl} {D : List Tm} (hr : (b, s, D) ∈ R) {k : Nat} (hk : k < D.length) :
    ∃ bl off, s.a = some ⟨bl, off, none⟩ ∧ bl < w.heap.size ∧ ∀ j v, (ct D[k])[j]? = some v → w.cell? ⟨bl, off + k * 3 + j, none⟩ = some v := by
  obtain ⟨bl, off, h1, h2, h3⟩ := h.rd hr (by show 0 < D.length; omega)
  exact ⟨bl, off, h1, h2, fun j v hv => h3 k D[k] (List.getElem?_eq_getElem hk) j v hv⟩
def PlPost (w : World) (e : Ending) (w' : World) : Prop := e = .returned (.bool true) ∧ Below w.heap.size w w'
set_option maxHeartbeats 400000000 in
set_option maxRecDepth 100000 in
theorem plays_walk (a : Option Addr) (len cap : Nat) (w : World) (wl : DeedRow w a len cap) :
    Calls Try.prog 3 #[.slice a len cap] w (PlPost w) := by
  have hlen63 := wl.len
  have WL := Lib.hid wl
  have K0 := ex_any w
  clear wl
  go_enter Try.func3, Try.ntmps3
  go_wp2_with fail
  refine K0.mono ?_; rintro e w1 ⟨rfl, b1⟩
  have N1 := new_any w1
  have HB1 := Lib.hid b1
  clear K0 b1
  go_wp2_with fail
  refine N1.mono ?_; rintro e w2 ⟨gx, rfl, hgx, hW, b2⟩
  have PS := Lib.hid (P2.start HB1.out hgx hW b2)
  clear N1 hgx hW b2 HB1
  go_wp2_with fail
  generalize (w2.alloc (.cells #[.slice none 0 0] 29)) = w3 at *
  generalize w2.heap.size = gy at *
  go_loopw [6] (fun iv wr => PlJ gx gy w len iv wr) (fun i _ => 80 - (intOf i).toNat)
  case atStart => exact ⟨0, [], Nat.zero_le _, by omega, rfl, PS.out⟩
  case round =>
    obtain ⟨i, L, hil, hi80, rfl, hP⟩ := hrel
    clear PS
    have PS := Lib.hid hP
    clear hP
    have hi0 : (0 : Int) ≤ i := by omega
    have hi80' : (i : Int) ≤ 80 := by omega
    by_cases hgo : i < len ∧ i < 80
    · obtain ⟨g1, g2⟩ := hgo
      have hd1 : decide ((i : Int) < (len : Int)) = true := decide_eq_true (by omega)
      have hd2 : decide ((i : Int) < 80) = true := decide_eq_true (by omega)
      have hd3 : decide (i < len) = true := decide_eq_true g1
      have hil' : (i : Int) < len := by omega
      obtain ⟨bd, off, rfl, hbd, hdd⟩ := WL.out.at_ (by omega)
      obtain ⟨d, hfit, hdc⟩ := hdd i g1
      have HI1 : Hid (i + 1 ≤ len ∧ i + 1 ≤ 80) := ⟨g1, g2⟩
      have KC := fun j v hj => (PS.out.bel.cell (p := ⟨bd, off + i * 5 + j, none⟩) hbd).trans (hdc j v hj)
      have c0 := KC 0 _ rfl
      have c1 := KC 1 _ rfl
      have c2 := KC 2 _ rfl
      have c3 := KC 3 _ rfl
      have c4 := KC 4 _ rfl
      have hbw : bd < wr.heap.size := Nat.lt_of_lt_of_le hbd PS.out.bel.size
      have hdb : w.heap.size ≤ wr.heap.size := PS.out.bel.size
      obtain ⟨f00, f01⟩ := bounds_u8 hfit.k
      obtain ⟨f10, f11⟩ := bounds_i64 hfit.q
      obtain ⟨f20, f21⟩ := bounds_i64 hfit.i
      obtain ⟨f30, f31⟩ := bounds_u64 hfit.t
      clear hdd hdc KC hfit
      obtain ⟨dk, dq, di, dt, dr⟩ := d
      simp only [Nat.add_zero] at c0 c1 c2 c3 c4 f00 f01 f10 f11 f20 f21 f30 f31
      obtain ⟨m, hm⟩ : ∃ m : Int, dk.tmod 7 = m := ⟨_, rfl⟩
      have hPA := Lib.hid (PS.out.alloc [.int .u8 dk, .int .i64 dq, .int .i64 di, .int .u64 dt, .bool dr] 32)
      clear PS
      go_upto_if 42 with fail
      generalize (wr.alloc (.cells #[.int .u8 dk, .int .i64 dq, .int .i64 di, .int .u64 dt, .bool dr] 32)) = w5 at *
      generalize wr.heap.size = db at *
      have d0 := hPA.out.hd.cell 0 _ rfl; have d1 := hPA.out.hd.cell 1 _ rfl; have d2 := hPA.out.hd.cell 2 _ rfl; have d3 := hPA.out.hd.cell 3 _ rfl; have d4 := hPA.out.hd.cell 4 _ rfl
      have e1 := hPA.out.hd.free 1 _ rfl; have e2 := hPA.out.hd.free 2 _ rfl; have e3 := hPA.out.hd.free 3 _ rfl
      have dl := hPA.out.hd.lt
      go_cut [] (fun wx => ∃ q i2 t : Int, 0 ≤ t ∧ t ≤ 18446744073709551615 ∧ P2 [(db, [.int .u8 dk, .int .i64 q, .int .i64 i2, .int .u64 t, .bool dr])] [] gx gy L L w wx)
      case first =>
        as_aux_lemma =>
          cases dr
          · go_wp2_with fail
            go_meet
            exact ⟨dq, di, dt, f30, f31, hPA.out⟩
          · obtain ⟨uq, huq⟩ : ∃ u, IntKind.u64.wrap dq = u := ⟨_, rfl⟩
            have uq0 : 0 ≤ uq := by rw [← huq, IntKind.wrap_u64]; omega
            obtain ⟨rq, hrq⟩ : ∃ r : Int, uq.tmod 3 = r := ⟨_, rfl⟩
            have rq2 : rq = uq % 3 := by rw [← hrq]; exact tmod_pos _ _ uq0
            have wq := IntWalk.i64_in rq ⟨by omega, by omega⟩
            obtain ⟨ui, hui⟩ : ∃ u, IntKind.u64.wrap di = u := ⟨_, rfl⟩
            have ui0 : 0 ≤ ui := by rw [← hui, IntKind.wrap_u64]; omega
            obtain ⟨ri, hri⟩ : ∃ r : Int, ui.tmod 5 = r := ⟨_, rfl⟩
            have ri2 : ri = ui % 5 := by rw [← hri]; exact tmod_pos _ _ ui0
            have wi := IntWalk.i64_in ri ⟨by omega, by omega⟩
            obtain ⟨rt, hrt⟩ : ∃ r : Int, dt.tmod 12 = r := ⟨_, rfl⟩
            have rt2 : rt = dt % 12 := by rw [← hrt]; exact tmod_pos _ _ f30
            have rt0 : 0 ≤ rt := by omega
            have rt1 : rt ≤ 18446744073709551615 := by omega
            have F := Lib.hid (((hPA.out.set hdb 1 (.int .i64 rq) (by simp)).set hdb 2 (.int .i64 ri) (by simp)).set hdb 3 (.int .u64 rt) (by simp))
            clear rq2 ri2 rt2
            go_wp2_with fail
            go_meet
            exact ⟨rq, ri, rt, rt0, rt1, F.out⟩
      case rest =>
      obtain ⟨q, i2, t, t0, t1, hP2⟩ := hcut
      have HP := Lib.hid hP2
      clear hP2 hPA d0 d1 d2 d3 d4 e1 e2 e3 dl c0 c1 c2 c3 c4 f10 f11 f20 f21 f30 f31 hbw
      generalize wc = w6 at *
      have d0 := HP.out.hd.cell 0 _ rfl
      have dl := HP.out.hd.lt
      have m0 : 0 ≤ m := by rw [← hm, tmod_pos _ _ f00]; omega
      have m7 : m < 7 := by rw [← hm, tmod_pos _ _ f00]; omega
      go_upto_block 2 with fail
      go_cut [8] (fun fv wx => fv = .bool true ∧ ∃ L', P2 [] [] gx gy L' L' w wx)
      case first =>
        as_aux_lemma =>
          have d1 := HP.out.hd.cell 1 _ rfl
          have d2 := HP.out.hd.cell 2 _ rfl
          have d3 := HP.out.hd.cell 3 _ rfl
          by_cases q4 : m = 4
          · subst q4
            obtain ⟨e, he⟩ : ∃ e, hasT q i2 L = e := ⟨_, rfl⟩
            obtain ⟨L2, hL2⟩ : ∃ L2, stopL q i2 L = L2 := ⟨_, rfl⟩
            have HE := Lib.hid he; have HL2 := Lib.hid hL2
            have TX := Lib.hid ((HP.out.keep ((Below.refl w6.heap.size w6).drew)).stopX q i2 he hL2)
            clear he hL2
            go_upto_region 20 with fail
            go_region_held (fun w' => w'.cell? ⟨db, 1, none⟩ = some (.int .i64 q) ∧ w'.cell? ⟨db, 2, none⟩ = some (.int .i64 i2) ∧ db < w'.heap.size) (first | exact ⟨d1, d2, dl⟩ | exact ⟨ee1, ee2, eel⟩ | exact ⟨kk1, kk2, kkl⟩) (first | (go_at_call 10; refine TX.out.mono ?_; rintro e' wx ⟨rfl, hx⟩; have P1 := Lib.hid hx; have ee1 := hx.hd.cell 1 _ rfl; have ee2 := hx.hd.cell 2 _ rfl; have eel := hx.hd.lt; clear hx) | (go_at_call 11; refine (P1.out.stopY q i2 HE.out HL2.out).mono ?_; rintro e' wz ⟨rfl, hy⟩; have PF := Lib.hid hy; have kk1 := hy.hd.cell 1 _ rfl; have kk2 := hy.hd.cell 2 _ rfl; have kkl := hy.hd.lt; clear hy) | fail)
            all_goals (
              go_wp2_with fail
              go_meet
              exact ⟨by simp, L2, PF.out.sub (by simp)⟩)
          · by_cases q5 : m = 5
            · subst q5
              obtain ⟨D, hD⟩ : ∃ D, sortT (dueL t L) = D := ⟨_, rfl⟩
              obtain ⟨L2, hL2⟩ : ∃ L2, restL t L = L2 := ⟨_, rfl⟩
              have hD256 : D.length ≤ 256 := by
                obtain ⟨v, u, h1, -⟩ := HP.out
                rw [← hD, sortT_len]; exact Nat.le_trans (due_len t L) h1.ok.len
              have hD256' : (D.length : Int) ≤ 256 := by omega
              have K := HP.out.dueX t hD hL2
              go_wp2_with fail
              refine K.mono ?_; rintro e w8 ⟨s1, rfl, hP4⟩
              have g3 := hP4.hd.cell 3 _ rfl
              have gl := hP4.hd.lt
              clear K d0 d1 d2 d3 dl HP
              have K := hP4.dueY t hD hL2
              clear hP4 hD hL2
              go_wp2_with fail
              refine K.mono ?_; rintro e w9 ⟨s2, rfl, hP5⟩
              clear K g3 gl
              have S1 : Hid (PdJ D.length (fun wr => P2 [(db, [.int .u8 dk, .int .i64 q, .int .i64 i2, .int .u64 t, .bool dr])] [(false, s2, D), (true, s1, D)] gx gy L2 L2 w wr) (.bool true) (.int .i64 0) w9) := ⟨0, rfl, rfl, Nat.zero_le _, hP5⟩
              clear hP5
              go_wp2_with fail
              go_loopw [8, 11] (fun fv kv wr => PdJ D.length (fun wr => P2 [(db, [.int .u8 dk, .int .i64 q, .int .i64 i2, .int .u64 t, .bool dr])] [(false, s2, D), (true, s1, D)] gx gy L2 L2 w wr) fv kv wr) (fun _ kv _ => D.length - (intOf kv).toNat)
              case atStart => exact S1.out
              case round =>
                obtain ⟨k, rfl, rfl, hk, hP⟩ := hrel
                clear S1
                have hk0 : (0 : Int) ≤ k := by omega
                by_cases hkl : k < D.length
                · have hkl' : (k : Int) < D.length := by omega
                  obtain ⟨bx, ox, hbx, hlx, hcx⟩ := hP.reads (b := true) (s := s1) (D := D) (by simp) hkl
                  obtain ⟨by_, oy, hby, hly, hcy⟩ := hP.reads (b := false) (s := s2) (D := D) (by simp) hkl
                  have p0 := hcx 0 _ rfl
                  have p1 := hcx 1 _ rfl
                  have p2 := hcx 2 _ rfl
                  have r0 := hcy 0 _ rfl
                  have r1 := hcy 1 _ rfl
                  have r2 := hcy 2 _ rfl
                  have HP := Lib.hid hP
                  have HKL := Lib.hid hkl
                  clear hcx hcy hP
                  generalize D[k] = y at *
                  obtain ⟨y1, y2, y3⟩ := y
                  simp only [Nat.add_zero] at p0 p1 p2 r0 r1 r2
                  obtain ⟨sa, sn, sc⟩ := s1
                  obtain ⟨ta, tn, tc⟩ := s2
                  simp only at hbx hby
                  subst hbx hby
                  go_wp2_with fail
                  go_quiet (fail)
                  have H2 := Lib.hid (HP.out.keep (below_drewN (Below.refl wr.heap.size wr) nq))
                  clear p0 p1 p2 r0 r1 r2 HP
                  generalize wr.drewN nq = w11 at *
                  go_wp2_with fail
                  go_roundw
                  case rel => exact ⟨k + 1, rfl, by go_num, HKL.out, H2.out⟩
                  case measure => have := HKL.out; simp [intOf]; omega
                · obtain rfl : k = D.length := by omega
                  have hge : decide ((D.length : Int) < D.length) = false := decide_eq_false (by omega)
                  have HP := Lib.hid (hP.sub (l' := []) (by simp))
                  clear hP hkl
                  go_wp2_with fail
                  go_meet
                  exact ⟨rfl, L2, HP.out⟩
            · by_cases q6 : m = 6
              · subst q6
                obtain ⟨e, he⟩ : ∃ e, hasT q i2 L = e := ⟨_, rfl⟩
                obtain ⟨tt, htt⟩ : ∃ tt, atT q i2 L = tt := ⟨_, rfl⟩
                have K := HP.out.atX q i2 htt he
                go_wp2_with fail
                refine K.mono ?_; rintro e' w8 ⟨rfl, hP4⟩
                clear K d0 d1 d2 d3 dl HP
                have g1 := hP4.hd.cell 1 _ rfl
                have g2 := hP4.hd.cell 2 _ rfl
                have gl := hP4.hd.lt
                have K := hP4.atY q i2 htt he
                clear hP4 htt he
                go_wp2_with fail
                refine K.mono ?_; rintro e' w9 ⟨rfl, hP5⟩
                clear K g1 g2 gl
                have HP := Lib.hid (hP5.sub (l' := []) (by simp))
                clear hP5
                go_wp2_with fail
                go_meet
                exact ⟨by simp, L, HP.out⟩
              · obtain ⟨er, he⟩ : ∃ er, setE q i2 L = er := ⟨_, rfl⟩
                obtain ⟨L2, hL2⟩ : ∃ L2, setL q i2 t L = L2 := ⟨_, rfl⟩
                have HE := Lib.hid he; have HL2 := Lib.hid hL2
                have TX := Lib.hid ((HP.out.keep ((Below.refl w6.heap.size w6).drew)).setX q i2 t t0 t1 he hL2)
                clear he hL2
                go_upto_region 18 with fail
                go_region_held (fun w' => w'.cell? ⟨db, 1, none⟩ = some (.int .i64 q) ∧ w'.cell? ⟨db, 2, none⟩ = some (.int .i64 i2) ∧ w'.cell? ⟨db, 3, none⟩ = some (.int .u64 t) ∧ db < w'.heap.size) (first | exact ⟨d1, d2, d3, dl⟩ | exact ⟨ee1, ee2, ee3, eel⟩ | exact ⟨kk1, kk2, kk3, kkl⟩) (first | (go_at_call 16; refine TX.out.mono ?_; rintro e' wx ⟨rfl, hx⟩; have P1 := Lib.hid hx; have ee1 := hx.hd.cell 1 _ rfl; have ee2 := hx.hd.cell 2 _ rfl; have ee3 := hx.hd.cell 3 _ rfl; have eel := hx.hd.lt; clear hx) | (go_at_call 17; refine (P1.out.setY q i2 t t0 t1 HE.out HL2.out).mono ?_; rintro e' wz ⟨rfl, hy⟩; have PF := Lib.hid hy; have kk1 := hy.hd.cell 1 _ rfl; have kk2 := hy.hd.cell 2 _ rfl; have kk3 := hy.hd.cell 3 _ rfl; have kkl := hy.hd.lt; clear hy) | fail)
                all_goals (
                  go_wp2_with fail
                  go_meet
                  exact ⟨by simp, L2, PF.out.sub (by simp)⟩)
      case rest =>
      obtain ⟨rfl, L2, hP3⟩ := hcut
      clear HP d0 dl t0 t1 m0 m7
      generalize wc = w7 at *
      clear hm
      obtain ⟨D, hD⟩ : ∃ D, sortT L2 = D := ⟨_, rfl⟩
      have hDL : L2.length = D.length := by rw [← hD, sortT_len]
      have hD256 : D.length ≤ 256 := by
        obtain ⟨v, u, h1, -⟩ := hP3
        rw [← hDL]; exact h1.ok.len
      have hD256' : (D.length : Int) ≤ 256 := by omega
      have K := hP3.allX hD
      clear hP3
      go_wp2_with fail
      refine K.mono ?_; rintro e w8 ⟨s1, rfl, hP4⟩
      clear K
      have K := hP4.allY hD
      clear hP4
      go_wp2_with fail
      refine K.mono ?_; rintro e w9 ⟨s2, rfl, hP5⟩
      clear K
      have K := hP5.lenX hDL
      have HP := Lib.hid hP5
      clear hP5 hD hDL
      go_wp2_with fail
      refine K.mono ?_; rintro e w10 ⟨rfl, rfl⟩
      clear K
      have S1 : Hid (PaJ D.length (fun wr => P2 [] [(false, s2, D), (true, s1, D)] gx gy L2 L2 w wr) (.int .i64 0) w10) := ⟨0, rfl, Nat.zero_le _, HP.out⟩
      clear HP
      go_wp2_with fail
      go_loopw [18] (fun kv wr => PaJ D.length (fun wr => P2 [] [(false, s2, D), (true, s1, D)] gx gy L2 L2 w wr) kv wr) (fun kv _ => D.length - (intOf kv).toNat)
      case atStart => exact S1.out
      case round =>
        obtain ⟨k, rfl, hk, hP⟩ := hrel
        clear S1
        have hk0 : (0 : Int) ≤ k := by omega
        by_cases hkl : k < D.length
        · have hkl' : (k : Int) < D.length := by omega
          obtain ⟨bx, ox, hbx, hlx, hcx⟩ := hP.reads (b := true) (s := s1) (D := D) (by simp) hkl
          obtain ⟨by_, oy, hby, hly, hcy⟩ := hP.reads (b := false) (s := s2) (D := D) (by simp) hkl
          have p0 := hcx 0 _ rfl
          have p1 := hcx 1 _ rfl
          have p2 := hcx 2 _ rfl
          have r0 := hcy 0 _ rfl
          have r1 := hcy 1 _ rfl
          have r2 := hcy 2 _ rfl
          have HP := Lib.hid hP
          have HKL := Lib.hid hkl
          clear hcx hcy hP
          generalize D[k] = y at *
          obtain ⟨y1, y2, y3⟩ := y
          simp only [Nat.add_zero] at p0 p1 p2 r0 r1 r2
          obtain ⟨sa, sn, sc⟩ := s1
          obtain ⟨ta, tn, tc⟩ := s2
          simp only at hbx hby
          subst hbx hby
          go_wp2_with fail
          go_quiet (fail)
          have H2 := Lib.hid (HP.out.keep (below_drewN (Below.refl wr.heap.size wr) nq))
          clear p0 p1 p2 r0 r1 r2 HP
          generalize wr.drewN nq = w11 at *
          go_wp2_with fail
          go_roundw
          case rel => exact ⟨k + 1, by go_num, HKL.out, H2.out⟩
          case measure => have := HKL.out; simp [intOf]; omega
        · obtain rfl : k = D.length := by omega
          have hge : decide ((D.length : Int) < D.length) = false := decide_eq_false (by omega)
          have HP := Lib.hid (hP.sub (l' := []) (by simp))
          clear hP hkl
          go_wp2_with fail
          go_roundw
          case rel => exact ⟨i + 1, L2, HI1.out.1, HI1.out.2, by go_num, HP.out⟩
          case measure => have := HI1.out.2; simp [intOf]; omega
    · have HB := Lib.hid PS.out.bel
      have hcases : (decide ((i : Int) < (len : Int)) = false ∧ decide (i < len) = false) ∨ (decide ((i : Int) < (len : Int)) = true ∧ decide (i < len) = true ∧ decide ((i : Int) < 80) = false ∧ decide (i < 80) = false) := by
        by_cases h : i < len
        · exact .inr ⟨decide_eq_true (by omega), decide_eq_true h, decide_eq_false (by omega), decide_eq_false (by omega)⟩
        · exact .inl ⟨decide_eq_false (by omega), decide_eq_false h⟩
      clear hgo PS
      rcases hcases with ⟨q1, q2⟩ | ⟨q1, q2, q3, q4⟩
      · go_wp2_with fail
        go_ret
        exact ⟨rfl, HB.out⟩
      · go_wp2_with fail
        go_ret
        exact ⟨rfl, HB.out⟩
theorem wheelPlays_own : ownKnob Try.prog.godebug = none := by kernel_rfl
theorem wheelPlays_laid : laidOutB Try.prog = true := by kernel_rfl
set_option maxRecDepth 100000 in
theorem wheelPlays_lifted (os : Os) (started : os.Started) (H : Type) (enc : TypeId × Value → H) :
    ReturnsInHanded {} Try.checked os 3 .any (Rows.wheelPlaysSpec.pre6 enc Try.prog Try.f3 Rows.wheelPlaysRow.domain false) (Rows.wheelPlaysSpec.post enc Try.prog Try.f3 false true false false) := by
  refine returnsInHanded_of_change (C := Try.checked) wheelPlays_own started (by kernel_rfl) Try.func3
    (ChangeSpec.witness6 (enc := enc) (C := Try.checked) false ⟨#[], #[.slice none 0 0], []⟩ 8 (by kernel_rfl) (by kernel_rfl) (by kernel_rfl) (by kernel_rfl)) ?_
  intro W base args ds gs before hval0 hW hcnd _
  have hval : ∀ (j : Nat) t v, Try.f3.params[j]? = some t → args[j]? = some v → Value.okWide Try.prog W .any base t v := hval0
  have hW' := hW
  obtain ⟨p, q, hA0, hV, rfl, hfz, hnd⟩ := hW
  have hA : DataW.TrodAll enc Try.prog W 0 (fun _ => true) true Try.f3.params.toList args.toList ds p := hA0
  rw [Try.params3] at hA hval
  obtain ⟨v0, vs0, d0, ds0, p0, q0, hargs, rfl, rfl, h0, r0⟩ := trodAll_cons hA
  obtain ⟨rfl, rfl, rfl⟩ := trodAll_nil r0
  obtain rfl : args = #[v0] := by cases args; simp_all
  obtain ⟨rfl, rfl⟩ := trodVars_none hV
  obtain ⟨a0, len0, cap0, rfl⟩ := okWide_slice Try.underlying22 (hval 0 22 v0 rfl rfl)
  have k0 := h0
  have lt0 : ∀ x ∈ p0, x.block < W.heap.size := by obtain ⟨m, hm⟩ := k0; exact DataW.trod_lt m _ _ _ hm
  have w0 : DeedRow W a0 len0 cap0 := by
    obtain ⟨fuel, hf⟩ := h0
    exact deeds_open hf
  clear hA0 hval0
  refine (plays_walk a0 len0 cap0 W w0).mono fun e W' ⟨he, bel⟩ => ?_
  subst he
  exact ⟨_, rfl, _, _, _, [], _, [], hW', trodAll_mk1 (shut_bool Try.underlying4 _), (trodAll_cons_mk (Below.trod wheelPlays_laid (by kernel_rfl) (of_decide_eq_true (by kernel_rfl)) k0 bel lt0) trodAll_mk0), rfl, bel.frame _, fun h => by cases h⟩
theorem wheelPlays_over : Rows.wheelPlaysRow.holds Try.pinned (OpenSpec.ofChange Rows.wheelPlaysSpec) :=
  OpenClaim.holds_of_wide 3 Try.f3 rfl rfl rfl rfl rfl rfl rfl ⟨rfl, rfl, rfl, rfl, rfl⟩ rfl rfl rfl rfl rfl (by kernel_rfl) Try.func3 (by kernel_rfl)
    (of_decide_eq_true (by kernel_rfl)) (by unfold Func.isWrapper; first | (rw [if_pos (by decide +kernel)]; kernel_rfl) | (rw [if_neg (by decide +kernel)]; exact ⟨rfl, rfl⟩))
    (fun os started H enc _ => wheelPlays_lifted os started H enc)
theorem wheelPlays_holds : Rows.WheelPlaysSaid := wheelPlays_over
#print axioms wheelPlays_holds
end Go.Proofs.Ytmnakbpjbgjnmaa
