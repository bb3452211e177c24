/- QueuePlays: records are told on, deed by deed, as the chapter says (which, and how often still): for every room, every list of deeds, every number of nodes. -/
import Derived.Test.YthebcaielbnhjaaQuDeeds
import Derived.Deep.DeepCutAuto
import Derived.ChangeOld
import Derived.ChangeMaps5
import Derived.ShutString
import Derived.OpenShut
import Derived.SizedLaws
namespace Go.Proofs.Ythebcaielbnhjaa
open Go.Sort Go.RowKit Go.BigFrame Go.ChangeShapes Go.WideShapes Go.Deep
set_option linter.unusedVariables false
set_option linter.unusedSimpArgs false

def PlJ (m R : Nat) (w0 : World) (g gx : Nat) (iv : Value) (wr : World) : Prop := ∃ (i : Nat) (v vx : Sl) (S : List Im), iv = .int .i64 (i : Nat) ∧ i ≤ m ∧ St w0 [hQ true g R v S, hQ false gx R vx S] wr
def PkJ (S : List Im) (w0 : World) (H : List Hl) (iv : Value) (wr : World) : Prop := ∃ i : Nat, iv = .int .i64 (i : Nat) ∧ i ≤ S.length ∧ St w0 H wr
theorem told_len (S : List Im) (k : Int) : (toldS S k).length ≤ S.length := by
  unfold toldS; rw [List.length_map]; exact List.length_take_le' _ _
set_option maxHeartbeats 12800000 in
set_option maxRecDepth 100000 in
theorem plays_walk (room : Int) (near : Bool) (a : Option Addr) (len cap m : Nat) (T : List Deed) (nodes : Int) (w : World) (hnd : nodes ≤ 9223372036854775807) (hm : m = min len 80) (hT : T.length = m) (hr : RdE cd 9 w a T) (hok : ∀ t ∈ T, t.Fits) (hlen : len ≤ 9223372036854775807) :
    Calls Try.prog 3 #[.int .i64 room, .bool near, .slice a len cap, .int .i64 nodes] w fun e w' => e = .returned (.bool true) ∧ Below w.heap.size w w' := by
  have E := ex_any w
  have HR := Lib.hid hr
  have HOK := Lib.hid hok
  have HT := Lib.hid hT
  have HM := Lib.hid hm
  have hl2 : (len : Int) ≤ 9223372036854775807 := by omega
  have hml : m ≤ len := by omega
  have hm80 : m ≤ 80 := by omega
  obtain ⟨R, hR⟩ : ∃ R, (if near = true then 1 + IntKind.u64.wrap room % 8 else room) = R := ⟨_, rfl⟩
  replace hR := Lib.hid hR
  clear hr hok hm hT
  go_enter Try.func3, Try.ntmps3
  go_wp2_with fail
  refine E.mono ?_; rintro e w1 ⟨rfl, b1⟩
  have S1 := Lib.hid (St.start w w1 b1)
  clear E b1
  go_upto_if 23 with fail
  go_cut [0] (fun c wx => c = .int .i64 R ∧ w1 = wx)
  case first =>
    cases near
    · have e : room = R := hR.out
      subst e
      go_wp2_with fail
      go_meet
      exact ⟨rfl, rfl⟩
    · have e : 1 + IntKind.u64.wrap room % 8 = R := hR.out
      have hu := wrap_lo room
      obtain ⟨q, hq⟩ : ∃ q, IntKind.u64.wrap room % 8 = q := ⟨_, rfl⟩
      have hq2 : (IntKind.u64.wrap room).tmod 8 = q := by rw [tmod_pos _ _ hu]; exact hq
      have q0 : 0 ≤ q ∧ q < 8 := by omega
      rw [hq] at e
      subst e
      have c1 := IntWalk.i64_in q ⟨by omega, by omega⟩
      have c2 := IntWalk.u64_in q ⟨by omega, by omega⟩
      have c3 := IntWalk.i64_in (1 + q) ⟨by omega, by omega⟩
      go_wp2_with fail
      go_meet
      exact ⟨rfl, rfl⟩
  case rest =>
    obtain ⟨rfl, rfl⟩ := hcut
    clear hR
    have K := new_l R S1.out
    obtain ⟨er, her⟩ : ∃ er, (if roomI R = true then (0 : Int) else 1) = er := ⟨_, rfl⟩
    rw [her] at K
    replace her := Lib.hid her
    clear S1
    go_wp2_with fail
    refine K.mono ?_; rintro e w2 ⟨p, rfl, hp⟩
    clear K
    obtain ⟨H2, S2, hp2⟩ : ∃ H, St w H w2 ∧ ((roomI R = false ∧ p = .pointer none ∧ H = []) ∨ (roomI R = true ∧ ∃ g, p = .pointer (some ⟨g, 0, none⟩) ∧ H = [hQ true g R.toNat ⟨none, 0, 0⟩ []])) := by
      rcases hp with ⟨h1, h2, h3⟩ | ⟨h1, g, h2, h3⟩
      · exact ⟨_, h3, .inl ⟨h1, h2, rfl⟩⟩
      · exact ⟨_, h3, .inr ⟨h1, g, h2, rfl⟩⟩
    clear hp
    have K := rnew_l R S2
    clear S2
    go_wp2_with fail
    refine K.mono ?_; rintro e w3 ⟨px, rfl, hx⟩
    clear K
    have T1 := times_any nodes hnd
    have T2 := rtimes_any nodes hnd
    obtain ⟨nq, hnq⟩ : ∃ q, nodes.tmod 50 = q := ⟨_, rfl⟩
    have hnq2 : nq ≤ 9223372036854775807 := by rw [← hnq]; have := Int.tmod_lt_of_pos nodes (show (0 : Int) < 50 by decide); omega
    have T3 := times_any nq hnq2
    have T4 := rtimes_any nq hnq2
    generalize timesN nodes = t1 at *
    generalize timesN nq = t2 at *
    go_wp2_with fail
    refine (T1 _).mono ?_; rintro e wy ⟨rfl, rfl⟩
    go_wp2_with fail
    refine (T2 _).mono ?_; rintro e wy ⟨rfl, rfl⟩
    go_wp2_with fail
    refine (T3 _).mono ?_; rintro e wy ⟨rfl, rfl⟩
    go_wp2_with fail
    refine (T4 _).mono ?_; rintro e wy ⟨rfl, rfl⟩
    clear T1 T2 T3 T4
    rcases hp2 with ⟨hr0, rfl, rfl⟩ | ⟨hr1, g, rfl, rfl⟩
    · have her0 : er = 1 := by rw [← her.out, hr0]; rfl
      subst her0
      rcases hx with ⟨_, rfl, s3⟩ | ⟨h, _⟩
      rotate_left
      · rw [hr0] at h; cases h
      have HB := Lib.hid s3.below
      clear s3 hr0 her
      go_wp2
      go_ret
      exact ⟨rfl, HB.out⟩
    · have her0 : er = 0 := by rw [← her.out, hr1]; rfl
      subst her0
      rcases hx with ⟨h, _⟩ | ⟨_, gx, rfl, s3⟩
      · rw [hr1] at h; cases h
      obtain ⟨Rn, hRn⟩ : ∃ Rn, R.toNat = Rn := ⟨_, rfl⟩
      rw [hRn] at s3
      have S0 : Hid (PlJ m Rn w g gx (.int .i64 0) wy) := ⟨0, _, _, _, rfl, Nat.zero_le _, by
        have := s3
        refine ⟨fun h hh => this.all h (by simp only [List.mem_cons, List.not_mem_nil, or_false] at hh ⊢; exact hh.symm), ?_, this.below⟩
        have h2 := this.apart
        rw [List.pairwise_cons] at h2
        refine List.pairwise_cons.2 ⟨fun k hk b h3 h4 => ?_, List.pairwise_singleton _ _⟩
        have hk2 : k = hQ false gx Rn ⟨none, 0, 0⟩ [] := by simpa using hk
        subst hk2
        exact h2.1 _ (by simp) b h4 h3⟩
      clear s3 hr1 her hRn
      go_wp2_with fail
      go_loopw [13] (fun iv wr => PlJ m Rn w g gx iv wr) (fun iv _ => 100 - (intOf iv).toNat)
      case atStart => exact S0.out
      case round =>
        obtain ⟨i, v, vx, S, rfl, hi, hs⟩ := hrel
        clear S0
        have hI0 : (0 : Int) ≤ i := by omega
        have HS := Lib.hid hs
        clear hs
        by_cases hlt : i < m
        · have hlt' : (i : Int) < len := by omega
          have hlt2 : (i : Int) < 80 := by omega
          obtain ⟨t, hx⟩ : ∃ t, T[i]? = some t := ⟨_, List.getElem?_eq_getElem (by rw [HT.out]; exact hlt)⟩
          have ht := HOK.out t (List.mem_of_getElem? hx)
          obtain ⟨b, off, rfl, hbl, hcc⟩ := (HR.out.keep HS.out.below) (by rw [HT.out]; omega)
          have c0 := hcc i _ hx 0 _ rfl
          have c1 := hcc i _ hx 1 _ rfl
          have c2 := hcc i _ hx 2 _ rfl
          have c3 := hcc i _ hx 3 _ rfl
          have c4 := hcc i _ hx 4 _ rfl
          have c5 := hcc i _ hx 5 _ rfl
          have c6 := hcc i _ hx 6 _ rfl
          have c7 := hcc i _ hx 7 _ rfl
          have c8 := hcc i _ hx 8 _ rfl
          simp only [Nat.add_zero] at c0
          have HI : Hid (i + 1 ≤ m) := hlt
          obtain ⟨k0, k1⟩ := bounds_u8 ht.k
          have TH := thing_any t.t ht.t
          have hYok := Lib.hid (thR_ok ht.t)
          clear hcc hx ht
          obtain ⟨k, th, n, nr⟩ := t
          simp only at *
          generalize thR th = y at *
          obtain ⟨rr, own⟩ := th
          simp only at *
          have B4 : Hid (St w [hC wr.heap.size [.int .u8 k, .int .i64 rr.id, .int .i64 rr.st, .int .u32 rr.n, .int .u32 rr.ip, .int .u16 rr.port, .bool own, .int .i64 n, .bool nr], hQ true g Rn v S, hQ false gx Rn vx S] (wr.alloc (.cells #[.int .u8 k, .int .i64 rr.id, .int .i64 rr.st, .int .u32 rr.n, .int .u32 rr.ip, .int .u16 rr.port, .bool own, .int .i64 n, .bool nr] 41))) := HS.out.box [.int .u8 k, .int .i64 rr.id, .int .i64 rr.st, .int .u32 rr.n, .int .u32 rr.ip, .int .u16 rr.port, .bool own, .int .i64 n, .bool nr] _
          go_upto_region 18 with fail
          generalize (wr.alloc (.cells #[.int .u8 k, .int .i64 rr.id, .int .i64 rr.st, .int .u32 rr.n, .int .u32 rr.ip, .int .u16 rr.port, .bool own, .int .i64 n, .bool nr] 41)) = w4 at *
          generalize wr.heap.size = db at *
          clear c0 c1 c2 c3 c4 c5 c6 c7 c8 HS hbl
          have d0 := (B4.out.cs (b := db) (vs := [.int .u8 k, .int .i64 rr.id, .int .i64 rr.st, .int .u32 rr.n, .int .u32 rr.ip, .int .u16 rr.port, .bool own, .int .i64 n, .bool nr]) (by simp)).cell 0 _ rfl
          have d1 := (B4.out.cs (b := db) (vs := [.int .u8 k, .int .i64 rr.id, .int .i64 rr.st, .int .u32 rr.n, .int .u32 rr.ip, .int .u16 rr.port, .bool own, .int .i64 n, .bool nr]) (by simp)).cell 1 _ rfl
          have d2 := (B4.out.cs (b := db) (vs := [.int .u8 k, .int .i64 rr.id, .int .i64 rr.st, .int .u32 rr.n, .int .u32 rr.ip, .int .u16 rr.port, .bool own, .int .i64 n, .bool nr]) (by simp)).cell 2 _ rfl
          have d3 := (B4.out.cs (b := db) (vs := [.int .u8 k, .int .i64 rr.id, .int .i64 rr.st, .int .u32 rr.n, .int .u32 rr.ip, .int .u16 rr.port, .bool own, .int .i64 n, .bool nr]) (by simp)).cell 3 _ rfl
          have d4 := (B4.out.cs (b := db) (vs := [.int .u8 k, .int .i64 rr.id, .int .i64 rr.st, .int .u32 rr.n, .int .u32 rr.ip, .int .u16 rr.port, .bool own, .int .i64 n, .bool nr]) (by simp)).cell 4 _ rfl
          have d5 := (B4.out.cs (b := db) (vs := [.int .u8 k, .int .i64 rr.id, .int .i64 rr.st, .int .u32 rr.n, .int .u32 rr.ip, .int .u16 rr.port, .bool own, .int .i64 n, .bool nr]) (by simp)).cell 5 _ rfl
          have d6 := (B4.out.cs (b := db) (vs := [.int .u8 k, .int .i64 rr.id, .int .i64 rr.st, .int .u32 rr.n, .int .u32 rr.ip, .int .u16 rr.port, .bool own, .int .i64 n, .bool nr]) (by simp)).cell 6 _ rfl
          have d7 := (B4.out.cs (b := db) (vs := [.int .u8 k, .int .i64 rr.id, .int .i64 rr.st, .int .u32 rr.n, .int .u32 rr.ip, .int .u16 rr.port, .bool own, .int .i64 n, .bool nr]) (by simp)).cell 7 _ rfl
          have d8 := (B4.out.cs (b := db) (vs := [.int .u8 k, .int .i64 rr.id, .int .i64 rr.st, .int .u32 rr.n, .int .u32 rr.ip, .int .u16 rr.port, .bool own, .int .i64 n, .bool nr]) (by simp)).cell 8 _ rfl
          obtain ⟨nn, hnn⟩ : ∃ nn, (if nr = true then n.tmod 7 else n) = nn := ⟨_, rfl⟩
          replace hnn := Lib.hid hnn
          go_upto_if 84 with fail
          go_cut [15] (fun c wx => c = .int .i64 nn ∧ w4 = wx)
          case first =>
            cases nr
            · have e : n = nn := hnn.out
              subst e
              go_wp2_with fail
              go_meet
              exact ⟨rfl, rfl⟩
            · have e : n.tmod 7 = nn := hnn.out
              go_wp2_with fail
              go_meet
              exact ⟨rfl, rfl⟩
          case rest =>
            obtain ⟨rfl, rfl⟩ := hcut
            clear hnn
            go_wp2_with fail
            refine (TH _).mono ?_; rintro e w5 ⟨rfl, b5⟩
            have B5 := Lib.hid ((B4.out.keep b5).box (rcs y) 37)
            clear TH b5 B4 d0 d1 d2 d3 d4 d5 d6 d7 d8
            go_upto_region 22 with fail
            change Hid (St w [hC w5.heap.size (rcs y), hC db [.int .u8 k, .int .i64 rr.id, .int .i64 rr.st, .int .u32 rr.n, .int .u32 rr.ip, .int .u16 rr.port, .bool own, .int .i64 n, .bool nr], hQ true g Rn v S, hQ false gx Rn vx S] (w5.alloc (.cells #[.int .i64 y.id, .int .i64 y.st, .int .u32 y.n, .int .u32 y.ip, .int .u16 y.port] 37))) at B5
            generalize (w5.alloc (.cells #[.int .i64 y.id, .int .i64 y.st, .int .u32 y.n, .int .u32 y.ip, .int .u16 y.port] 37)) = w6 at *
            generalize w5.heap.size = rb at *
            have d0 := (B5.out.cs (b := db) (vs := [.int .u8 k, .int .i64 rr.id, .int .i64 rr.st, .int .u32 rr.n, .int .u32 rr.ip, .int .u16 rr.port, .bool own, .int .i64 n, .bool nr]) (by simp)).cell 0 _ rfl
            obtain ⟨q, hq⟩ : ∃ q, k % 5 = q := ⟨_, rfl⟩
            have hq2 : k.tmod 5 = q := by rw [tmod_pos _ _ k0]; exact hq
            have q0 : 0 ≤ q ∧ q < 5 := by omega
            have cq := IntWalk.u8_in q ⟨by omega, by omega⟩
            clear hq
            go_upto_if 93 with fail
            go_cut [17] (fun c wx => c = .bool true ∧ ∃ v1 vx1 S1, St w [hQ true g Rn v1 S1, hQ false gx Rn vx1 S1] wx)
            case first =>
              by_cases hk : 2 < q
              · have hkd : decide (2 < q) = true := decide_eq_true hk
                have s6 := B5.out.sub (H' := [hQ true g Rn v S, hQ false gx Rn vx S]) (by simp)
                have hRn : S.length ≤ 64 := by
                  have hqs : Qs true g Rn v S w6 := s6.get (h := hQ true g Rn v S) (by simp)
                  have := hqs.ok.len; have := hqs.r2; omega
                have hDl := told_len S nn
                have K := some_l nn [] [_] s6
                clear s6 B5 d0
                go_wp2_with fail
                refine K.mono ?_; rintro e w7 ⟨t7, v7, rfl, s7⟩
                have K2 := rsome_l nn [_, _] [] s7
                clear K s7
                go_wp2_with fail
                refine K2.mono ?_; rintro e w8 ⟨t8, v8, rfl, s8⟩
                have KA := alike_any t7.a t7.c t8.a t8.c (toldS S nn) w8 (s8.rd (T := 37) (u := t7) (L := toldS S nn) rcs_enc (by simp)) (s8.rd (T := 52) (u := t8) (L := toldS S nn) rcs_enc (by simp)) (by omega)
                have S8 : Hid (St w [hQ true g Rn v7 (someS S nn), hQ false gx Rn v8 (someS S nn)] w8) := s8.sub (by simp)
                clear K2 s8
                go_wp2_with fail
                refine KA.mono ?_; rintro e w9 ⟨rfl, b9⟩
                have S9 := Lib.hid (S8.out.keep b9)
                clear KA b9 S8
                go_wp2_with fail
                go_meet
                exact ⟨rfl, _, _, _, S9.out⟩
              · have hkd : decide (2 < q) = false := decide_eq_false hk
                obtain ⟨S', hS'⟩ : ∃ S', addS Rn S y nn = S' := ⟨_, rfl⟩
                obtain ⟨er, her⟩ : ∃ er, errA S y nn = er := ⟨_, rfl⟩
                have KA := add_l y hYok.out nn [_, _] [_] B5.out.drew
                have KR : Hid (∀ vA wB, St w [hC rb (rcs y), hC db [.int .u8 k, .int .i64 rr.id, .int .i64 rr.st, .int .u32 rr.n, .int .u32 rr.ip, .int .u16 rr.port, .bool own, .int .i64 n, .bool nr], hQ true g Rn vA S', hQ false gx Rn vx S] wB → Calls Try.prog 19 #[.pointer (some ⟨gx, 0, none⟩), .agg #[.int .i64 y.id, .int .i64 y.st, .int .u32 y.n, .int .u32 y.ip, .int .u16 y.port], .int .i64 nn] wB (fun e w' => e = .returned (.int .i64 er) ∧ ∃ v', St w [hQ true g Rn vA S', hQ false gx Rn v' S'] w')) := fun vA wB s => by
                  have := radd_l y hYok.out nn [_, _, _] [] s
                  rw [hS', her] at this
                  exact this.mono fun e w' ⟨h1, v', h2⟩ => ⟨h1, v', h2.sub (by simp)⟩
                rw [hS', her] at KA
                have c0 := (B5.out.cs (b := rb) (vs := rcs y) (by simp)).cell 0 _ rfl
                have c1 := (B5.out.cs (b := rb) (vs := rcs y) (by simp)).cell 1 _ rfl
                have c2 := (B5.out.cs (b := rb) (vs := rcs y) (by simp)).cell 2 _ rfl
                have c3 := (B5.out.cs (b := rb) (vs := rcs y) (by simp)).cell 3 _ rfl
                have c4 := (B5.out.cs (b := rb) (vs := rcs y) (by simp)).cell 4 _ rfl
                clear hS' her B5
                go_upto_region 25 with fail
                go_region_law (first
                  | (go_simp; go_at_call 18; refine KA.mono ?_; rintro e wA ⟨rfl, vA, sA⟩; have SA := Lib.hid sA; clear c0 c1 c2 c3 c4; have c0 := (SA.out.cs (b := rb) (vs := rcs y) (by simp)).cell 0 _ rfl; have c1 := (SA.out.cs (b := rb) (vs := rcs y) (by simp)).cell 1 _ rfl; have c2 := (SA.out.cs (b := rb) (vs := rcs y) (by simp)).cell 2 _ rfl; have c3 := (SA.out.cs (b := rb) (vs := rcs y) (by simp)).cell 3 _ rfl; have c4 := (SA.out.cs (b := rb) (vs := rcs y) (by simp)).cell 4 _ rfl; clear sA)
                  | (go_simp; go_at_call 20; refine (refrec_any y _).mono ?_; rintro e wB ⟨rfl, bB⟩; have SB := Lib.hid (SA.out.keep bB); clear bB)
                  | (go_simp; go_at_call 19; refine (KR.out _ _ SB.out).mono ?_; rintro e wC ⟨rfl, vC, sC⟩; have SC := Lib.hid sC; clear sC))
                all_goals go_wp2_with fail
                all_goals go_meet
                all_goals exact ⟨rfl, _, _, _, SC.out⟩
            case rest =>
              obtain ⟨rfl, v1, vx1, S1, hs⟩ := hcut
              generalize wc = w7 at *
              clear d0 B5
              obtain ⟨xa, xn, xc⟩ := vx1
              have qx : Qs false gx Rn ⟨xa, xn, xc⟩ S1 w7 := hs.get (h := hQ false gx Rn ⟨xa, xn, xc⟩ S1) (by simp)
              have hxn := qx.n
              simp only at hxn
              subst hxn
              have hS64 : S1.length ≤ 64 := by have := qx.ok.len; have := qx.r2; omega
              have hS64' : (S1.length : Int) ≤ 64 := by omega
              have K := items_l (g := g) (room := Rn) (v := v1) (S := S1) hs (by simp)
              clear qx hs
              go_wp2_with fail
              refine K.mono ?_; rintro e w8 ⟨u, rfl, s8⟩
              clear K
              have qx : Qs false gx Rn ⟨xa, S1.length, xc⟩ S1 w8 := s8.get (h := hQ false gx Rn ⟨xa, S1.length, xc⟩ S1) (by simp)
              have x0 := qx.box.cell 0 _ rfl
              have S8 := Lib.hid s8
              have L := fun d os => Calls.regrown_of (len_b (g := g) (room := Rn) (v := v1) (S := S1) s8 (by simp) (grow (redrawn w8 d) os) (below_regrown w8 d os))
              clear qx s8
              go_upto_region 27 with fail
              have k0 := cell_regrown x0
              clear x0
              (refine wp_region_quiet_below (by kernel_rfl) (by kernel_rfl) ?_; (repeat (go_big_quiet_step (first | with_reducible exact L _ _))); refine wpQuiet_nil ?_; intro _ hw'; obtain ⟨⟨dq, osq⟩, hw''⟩ := hw'; subst hw'')
              have S9 := Lib.hid (S8.out.keep (below_regrown w8 dq osq))
              clear L k0 S8
              generalize grow (redrawn w8 dq) osq = w9 at *
              have SJ : Hid (PkJ S1 w [hE ci 6 61 u S1, hQ true g Rn v1 S1, hQ false gx Rn ⟨xa, S1.length, xc⟩ S1] (.int .i64 0) w9) := ⟨0, rfl, Nat.zero_le _, S9.out⟩
              clear S9
              go_wp2_with fail
              go_loopw [19] (fun iv wr => PkJ S1 w [hE ci 6 61 u S1, hQ true g Rn v1 S1, hQ false gx Rn ⟨xa, S1.length, xc⟩ S1] iv wr) (fun iv _ => 100 - (intOf iv).toNat)
              case atStart => exact SJ.out
              case round =>
                obtain ⟨j, rfl, hj, hs⟩ := hrel
                clear SJ
                have hJ0 : (0 : Int) ≤ j := by omega
                by_cases hjl : j < S1.length
                · have hjl' : (j : Int) < S1.length := by omega
                  obtain ⟨x, hx⟩ : ∃ x, S1[j]? = some x := ⟨_, List.getElem?_eq_getElem hjl⟩
                  have qx : Qs false gx Rn ⟨xa, S1.length, xc⟩ S1 wr := hs.get (h := hQ false gx Rn ⟨xa, S1.length, xc⟩ S1) (by simp)
                  have x0 := qx.box.cell 0 _ rfl
                  obtain ⟨bu, ou, hbo, hbl, hcc⟩ := (hs.rd (T := 61) (u := u) (L := S1) ci_enc (by simp)) (by omega)
                  obtain ⟨bx, ox, hbx, hbxl, hcx⟩ := (erow_rd (a := xa) (n := S1.length) (cap := xc) ci_enc (lr_of qx).row) (by omega)
                  have hc1 := hcc j _ hx
                  have hc2 := hcx j _ hx
                  have c0 := hc1 0 _ rfl
                  have c1 := hc1 1 _ rfl
                  have c2 := hc1 2 _ rfl
                  have c3 := hc1 3 _ rfl
                  have c4 := hc1 4 _ rfl
                  have c5 := hc1 5 _ rfl
                  have d0 := hc2 0 _ rfl
                  have d1 := hc2 1 _ rfl
                  have d2 := hc2 2 _ rfl
                  have d3 := hc2 3 _ rfl
                  have d4 := hc2 4 _ rfl
                  have d5 := hc2 5 _ rfl
                  have HS := Lib.hid hs
                  obtain ⟨ua, un, uc⟩ := u
                  simp only at hbo
                  subst hbo hbx
                  have hj1 : j + 1 ≤ S1.length := hjl
                  clear hcc hcx hc1 hc2 hx hs qx
                  obtain ⟨xr, xl⟩ := x
                  simp only [Nat.add_zero] at *
                  have C := fun d os => Calls.regrown_of (refrec_any xr (grow (redrawn wr d) os))
                  go_upto_region 32 with fail
                  have k0 := cell_regrown c0
                  have k1 := cell_regrown c1
                  have k2 := cell_regrown c2
                  have k3 := cell_regrown c3
                  have k4 := cell_regrown c4
                  have k5 := cell_regrown c5
                  have l0 := cell_regrown d0
                  have l1 := cell_regrown d1
                  have l2 := cell_regrown d2
                  have l3 := cell_regrown d3
                  have l4 := cell_regrown d4
                  have l5 := cell_regrown d5
                  have kx := cell_regrown x0
                  clear c0 c1 c2 c3 c4 c5 d0 d1 d2 d3 d4 d5 x0
                  (refine wp_region_quiet_below (by kernel_rfl) (by kernel_rfl) ?_; (repeat (go_big_quiet_step (first | with_reducible exact C _ _))); refine wpQuiet_nil ?_; intro _ hw'; obtain ⟨⟨dq, osq⟩, hw''⟩ := hw'; subst hw'')
                  have HS2 := Lib.hid (HS.out.keep (below_regrown wr dq osq))
                  clear k0 k1 k2 k3 k4 k5 l0 l1 l2 l3 l4 l5 kx C HS
                  go_wp2
                  go_roundw
                  case rel => exact ⟨j + 1, by go_num, hj1, HS2.out⟩
                  case measure => simp [intOf]; omega
                · obtain rfl : j = S1.length := by omega
                  have hge : ¬ (S1.length : Int) < S1.length := by omega
                  have HS2 : Hid (St w [hQ true g Rn v1 S1, hQ false gx Rn ⟨xa, S1.length, xc⟩ S1] wr) := hs.drop
                  clear hs
                  go_wp2
                  go_roundw
                  case rel => exact ⟨i + 1, v1, ⟨xa, S1.length, xc⟩, S1, by go_num, HI.out, HS2.out⟩
                  case measure => simp [intOf]; omega
        · obtain rfl : i = m := by omega
          have HB := Lib.hid HS.out.below
          clear HS
          by_cases h1 : i < len
          · have h1' : (i : Int) < len := by omega
            have h2 : ¬ (i : Int) < 80 := by have := HM.out; omega
            have h1d : decide ((i : Int) < len) = true := decide_eq_true h1'
            have h2d : decide ((i : Int) < 80) = false := decide_eq_false h2
            go_wp2
            go_ret
            exact ⟨rfl, HB.out⟩
          · have h1' : ¬ (i : Int) < len := by omega
            have h1d : decide ((i : Int) < len) = false := decide_eq_false h1'
            go_wp2
            go_ret
            exact ⟨rfl, HB.out⟩
theorem plays_run (room : Int) (near : Bool) (a : Option Addr) (len cap : Nat) (nodes : Int) (w : World) (_ : (Lit.int .i64 room).wf = true) (wz : DeedRow w a len cap) (hn : (Lit.int .i64 nodes).wf = true) :
    Calls Try.prog 3 #[.int .i64 room, .bool near, .slice a len cap, .int .i64 nodes] w fun e w' => e = .returned (.bool true) ∧ Below w.heap.size w w' := by
  obtain ⟨L, h1, h2, h3⟩ := deeds_list wz (min len 80) (by omega)
  have b := bounds_i64 hn
  exact plays_walk room near a len cap (min len 80) L nodes w (by omega) rfl h1 h2 h3 wz.len
theorem queuePlays_own : ownKnob Try.prog.godebug = none := by kernel_rfl
theorem queuePlays_laid : laidOutB Try.prog = true := by kernel_rfl
set_option maxRecDepth 100000 in
theorem queuePlays_lifted (os : Os) (started : os.Started) (H : Type) (enc : TypeId × Value → H) :
    ReturnsInHanded {} Try.checked os 3 .any (Rows.queuePlaysSpec.pre6 enc Try.prog Try.f3 Rows.queuePlaysRow.domain false) (Rows.queuePlaysSpec.post enc Try.prog Try.f3 false true false false) := by
  refine returnsInHanded_of_change (C := Try.checked) queuePlays_own started (by kernel_rfl) Try.func3
    (ChangeSpec.witness6 (enc := enc) (C := Try.checked) false ⟨#[], #[.int .i64 0, .bool false, .slice none 0 0, .int .i64 0], []⟩ 8 (by kernel_rfl) (by kernel_rfl) (by kernel_rfl) (by kernel_rfl)) ?_
  intro W base args ds gs before hval0 hW hcnd _
  have hval : ∀ (j : Nat) t v, Try.f3.params[j]? = some t → args[j]? = some v → Value.okWide Try.prog W .any base t v := hval0
  have hW' := hW
  obtain ⟨p, q, hA0, hV, rfl, hfz, hnd⟩ := hW
  have hA : DataW.TrodAll enc Try.prog W 0 (fun _ => true) true Try.f3.params.toList args.toList ds p := hA0
  rw [Try.params3] at hA hval
  obtain ⟨v0, vs0, d0, ds0, p0, q0, hargs, rfl, rfl, h0, r0⟩ := trodAll_cons hA
  obtain ⟨v1, vs1, d1, ds1, p1, q1, rfl, rfl, rfl, h1, r1⟩ := trodAll_cons r0
  obtain ⟨v2, vs2, d2, ds2, p2, q2, rfl, rfl, rfl, h2, r2⟩ := trodAll_cons r1
  obtain ⟨v3, vs3, d3, ds3, p3, q3, rfl, rfl, rfl, h3, r3⟩ := trodAll_cons r2
  obtain ⟨rfl, rfl, rfl⟩ := trodAll_nil r3
  obtain rfl : args = #[v0, v1, v2, v3] := by cases args; simp_all
  obtain ⟨rfl, rfl⟩ := trodVars_none hV
  obtain ⟨a0, rfl, rfl, rfl, w0⟩ := open_int Try.underlying3 (hval 0 3 v0 rfl rfl) h0
  obtain ⟨a1, rfl, rfl, rfl⟩ := open_bool Try.underlying4 (hval 1 4 v1 rfl rfl) h1
  obtain ⟨a2, len2, cap2, rfl⟩ := okWide_slice Try.underlying22 (hval 2 22 v2 rfl rfl)
  have k2 := h2
  have lt2 : ∀ x ∈ p2, x.block < W.heap.size := by obtain ⟨m, hm⟩ := k2; exact DataW.trod_lt m _ _ _ hm
  have w2 : DeedRow W a2 len2 cap2 := by
    obtain ⟨fuel, hf⟩ := h2
    exact deeds_open hf
  obtain ⟨a3, rfl, rfl, rfl, w3⟩ := open_int Try.underlying3 (hval 3 3 v3 rfl rfl) h3
  clear hA0 hval0
  refine (plays_run a0 a1 a2 len2 cap2 a3 W w0 w2 w3).mono fun e W' ⟨he, bel⟩ => ?_
  subst he
  exact ⟨_, rfl, _, _, _, [], _, [], hW', trodAll_mk1 (shut_bool Try.underlying4 _), (trodAll_cons_mk (shut_int Try.underlying3 w0) (trodAll_cons_mk (shut_bool Try.underlying4 _) (trodAll_cons_mk (Below.trod queuePlays_laid (by kernel_rfl) (of_decide_eq_true (by kernel_rfl)) k2 bel lt2) (trodAll_cons_mk (shut_int Try.underlying3 w3) trodAll_mk0)))), rfl, bel.frame _, fun h => by cases h⟩
theorem queuePlays_over : Rows.queuePlaysRow.holds Try.pinned (OpenSpec.ofChange Rows.queuePlaysSpec) :=
  OpenClaim.holds_of_wide 3 Try.f3 rfl rfl rfl rfl rfl rfl rfl ⟨rfl, rfl, rfl, rfl, rfl⟩ rfl rfl rfl rfl rfl (by kernel_rfl) Try.func3 (by kernel_rfl)
    (of_decide_eq_true (by kernel_rfl)) (by unfold Func.isWrapper; first | (rw [if_pos (by decide +kernel)]; kernel_rfl) | (rw [if_neg (by decide +kernel)]; exact ⟨rfl, rfl⟩))
    (fun os started H enc _ => queuePlays_lifted os started H enc)
theorem queuePlays_holds : Rows.QueuePlaysSaid := queuePlays_over
#print axioms queuePlays_holds
end Go.Proofs.Ythebcaielbnhjaa
