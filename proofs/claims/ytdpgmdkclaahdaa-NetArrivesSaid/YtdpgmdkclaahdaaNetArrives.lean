/- The statement NetArrives: behind a box nothing arrives that nobody inside asked for, unless it filters by nothing, and never at the inner address; outside all arrives: of any type, from where ever. No conditions. -/
import Derived.Test.YtdpgmdkclaahdaaNeArrF
import Derived.ChangeOld
import Derived.ChangeMaps5
import Derived.ShutString
import Derived.OpenShut
import Derived.SizedLaws
namespace Go.Proofs.Ytdpgmdkclaahdaa.Ne
open Go.Sort Go.RowKit Go.BigFrame Go.ChangeShapes Go.WideShapes Go.ChangeAt
open Go.ChangeMaps (open_string shut_string)
set_option linter.unusedVariables false
set_option linter.unusedSimpArgs false

set_option maxHeartbeats 12800000 in
set_option maxRecDepth 100000 in
theorem arrives_walk (t ip po : Int) (k : Bool) (w : World) (wa : (Lit.int .u8 t).wf = true) (wb : (Lit.int .u8 ip).wf = true) (wc : (Lit.int .u8 po).wf = true) :
    Calls Try.prog 3 #[.int .u8 t, .int .u8 ip, .int .u8 po, .bool k] w fun e w' => e = .returned (.bool true) ∧ Below w.heap.size w w' := by
  obtain ⟨ha0, ha1⟩ := bounds_u8 wa
  obtain ⟨hb0, hb1⟩ := bounds_u8 wb
  obtain ⟨hc0, hc1⟩ := bounds_u8 wc
  obtain ⟨m, hm⟩ : ∃ m, t % 3 = m := ⟨_, rfl⟩
  obtain ⟨f, hf⟩ : ∃ f, t / 3 % 3 = f := ⟨_, rfl⟩
  obtain ⟨q, hq⟩ : ∃ q, ip % 4 = q := ⟨_, rfl⟩
  obtain ⟨r, hr⟩ : ∃ r, po % 4 = r := ⟨_, rfl⟩
  obtain ⟨i, hi⟩ : ∃ i, 100 + q = i := ⟨_, rfl⟩
  obtain ⟨p, hp⟩ : ∃ p, 1 + r = p := ⟨_, rfl⟩
  have hm3 : t.tmod 3 = m := by rw [tmod_pos _ _ ha0]; exact hm
  have hf3 : t.tdiv 3 % 256 % 3 = f := by rw [Int.tdiv_eq_ediv_of_nonneg ha0]; omega
  have hq3 : ip.tmod 4 = q := by rw [tmod_pos _ _ hb0]; exact hq
  have hr3 : po.tmod 4 = r := by rw [tmod_pos _ _ hc0]; exact hr
  have m8 := IntWalk.u8_in m ⟨by omega, by omega⟩
  have m64 := IntWalk.i64_in m ⟨by omega, by omega⟩
  have f8 := IntWalk.u8_in f ⟨by omega, by omega⟩
  have f64 := IntWalk.i64_in f ⟨by omega, by omega⟩
  have q8 := IntWalk.u8_in q ⟨by omega, by omega⟩
  have q32 := IntWalk.u32_in q ⟨by omega, by omega⟩
  have r8 := IntWalk.u8_in r ⟨by omega, by omega⟩
  have r16 := IntWalk.u16_in r ⟨by omega, by omega⟩
  have i32 : IntKind.u32.wrap (100 + q) = i := by rw [hi]; exact IntWalk.u32_in i ⟨by omega, by omega⟩
  have p16 : IntKind.u16.wrap (1 + r) = p := by rw [hp]; exact IntWalk.u16_in p ⟨by omega, by omega⟩
  have GA := Lib.hid (naG (m := m) (f := f) (by omega) (by omega))
  have FA := Lib.hid (naF (m := m) (f := f) (i := i) (p := p) k (by omega) (by omega) (by omega) (by omega))
  clear hm hf hq hr hi hp wa wb wc ha1 hb1 hc1
  go_enter Try.func3, Try.ntmps3
  go_wp2_with fail
  refine (ex_any _).mono ?_; rintro e x0 ⟨rfl, b0⟩
  have hT : Hid (Cs x0.heap.size [.int .i64 m, .int .i64 f] (((((x0.alloc (.cells #[.int .i64 m, .int .i64 f] 24)).alloc (.cells #[.int .u32 1, .int .u16 7] 28)).alloc (.cells #[.int .u32 10, .int .u16 7] 28)).alloc (.cells #[.int .u32 1, .int .u16 7, .int .i64 0, .int .u32 10, .int .u16 7, .int .i64 1] 34)).alloc (.cells #[.int .i64 m, .int .i64 f, .int .u32 9, .int .u64 50, .int .i64 8] 38))) := (((((Cs.new x0 [.int .i64 m, .int .i64 f] 24).alloc _).alloc _).alloc _).alloc _)
  have hA : Hid (Cs (x0.heap.size + 1) [.int .u32 1, .int .u16 7] (((((x0.alloc (.cells #[.int .i64 m, .int .i64 f] 24)).alloc (.cells #[.int .u32 1, .int .u16 7] 28)).alloc (.cells #[.int .u32 10, .int .u16 7] 28)).alloc (.cells #[.int .u32 1, .int .u16 7, .int .i64 0, .int .u32 10, .int .u16 7, .int .i64 1] 34)).alloc (.cells #[.int .i64 m, .int .i64 f, .int .u32 9, .int .u64 50, .int .i64 8] 38))) := by
    have e : (x0.alloc (.cells #[.int .i64 m, .int .i64 f] 24)).heap.size = x0.heap.size + 1 := by simp
    rw [← e]
    exact ((((Cs.new (x0.alloc (.cells #[.int .i64 m, .int .i64 f] 24)) [.int .u32 1, .int .u16 7] 28).alloc _).alloc _).alloc _)
  have hI : Hid (Cs (x0.heap.size + 1 + 1) [.int .u32 10, .int .u16 7] (((((x0.alloc (.cells #[.int .i64 m, .int .i64 f] 24)).alloc (.cells #[.int .u32 1, .int .u16 7] 28)).alloc (.cells #[.int .u32 10, .int .u16 7] 28)).alloc (.cells #[.int .u32 1, .int .u16 7, .int .i64 0, .int .u32 10, .int .u16 7, .int .i64 1] 34)).alloc (.cells #[.int .i64 m, .int .i64 f, .int .u32 9, .int .u64 50, .int .i64 8] 38))) := by
    have e : ((x0.alloc (.cells #[.int .i64 m, .int .i64 f] 24)).alloc (.cells #[.int .u32 1, .int .u16 7] 28)).heap.size = x0.heap.size + 1 + 1 := by simp
    rw [← e]
    exact (((Cs.new ((x0.alloc (.cells #[.int .i64 m, .int .i64 f] 24)).alloc (.cells #[.int .u32 1, .int .u16 7] 28)) [.int .u32 10, .int .u16 7] 28).alloc _).alloc _)
  have hR : Hid (RdE cho 3 (((((x0.alloc (.cells #[.int .i64 m, .int .i64 f] 24)).alloc (.cells #[.int .u32 1, .int .u16 7] 28)).alloc (.cells #[.int .u32 10, .int .u16 7] 28)).alloc (.cells #[.int .u32 1, .int .u16 7, .int .i64 0, .int .u32 10, .int .u16 7, .int .i64 1] 34)).alloc (.cells #[.int .i64 m, .int .i64 f, .int .u32 9, .int .u64 50, .int .i64 8] 38)) (some ⟨x0.heap.size + 1 + 1 + 1, 0, none⟩) [⟨1, 7, 0⟩, ⟨10, 7, 1⟩]) := by
    have e : (((x0.alloc (.cells #[.int .i64 m, .int .i64 f] 24)).alloc (.cells #[.int .u32 1, .int .u16 7] 28)).alloc (.cells #[.int .u32 10, .int .u16 7] 28)).heap.size = x0.heap.size + 1 + 1 + 1 := by simp
    rw [← e]
    exact rd_cs cho_enc ((Cs.new (((x0.alloc (.cells #[.int .i64 m, .int .i64 f] 24)).alloc (.cells #[.int .u32 1, .int .u16 7] 28)).alloc (.cells #[.int .u32 10, .int .u16 7] 28)) [.int .u32 1, .int .u16 7, .int .i64 0, .int .u32 10, .int .u16 7, .int .i64 1] 34).alloc _)
  have hS : Hid (RdE csp 5 (((((x0.alloc (.cells #[.int .i64 m, .int .i64 f] 24)).alloc (.cells #[.int .u32 1, .int .u16 7] 28)).alloc (.cells #[.int .u32 10, .int .u16 7] 28)).alloc (.cells #[.int .u32 1, .int .u16 7, .int .i64 0, .int .u32 10, .int .u16 7, .int .i64 1] 34)).alloc (.cells #[.int .i64 m, .int .i64 f, .int .u32 9, .int .u64 50, .int .i64 8] 38)) (some ⟨x0.heap.size + 1 + 1 + 1 + 1, 0, none⟩) [⟨m, f, 9, 50, 8⟩]) := by
    have e : ((((x0.alloc (.cells #[.int .i64 m, .int .i64 f] 24)).alloc (.cells #[.int .u32 1, .int .u16 7] 28)).alloc (.cells #[.int .u32 10, .int .u16 7] 28)).alloc (.cells #[.int .u32 1, .int .u16 7, .int .i64 0, .int .u32 10, .int .u16 7, .int .i64 1] 34)).heap.size = x0.heap.size + 1 + 1 + 1 + 1 := by simp
    rw [← e]
    exact rd_cs csp_enc (Cs.new ((((x0.alloc (.cells #[.int .i64 m, .int .i64 f] 24)).alloc (.cells #[.int .u32 1, .int .u16 7] 28)).alloc (.cells #[.int .u32 10, .int .u16 7] 28)).alloc (.cells #[.int .u32 1, .int .u16 7, .int .i64 0, .int .u32 10, .int .u16 7, .int .i64 1] 34)) [.int .i64 m, .int .i64 f, .int .u32 9, .int .u64 50, .int .i64 8] 38)
  have hB : Hid (Below w.heap.size w (((((x0.alloc (.cells #[.int .i64 m, .int .i64 f] 24)).alloc (.cells #[.int .u32 1, .int .u16 7] 28)).alloc (.cells #[.int .u32 10, .int .u16 7] 28)).alloc (.cells #[.int .u32 1, .int .u16 7, .int .i64 0, .int .u32 10, .int .u16 7, .int .i64 1] 34)).alloc (.cells #[.int .i64 m, .int .i64 f, .int .u32 9, .int .u64 50, .int .i64 8] 38))) := (((((b0.alloc (by have := b0.size; simp; omega) _).alloc (by have := b0.size; simp; omega) _).alloc (by have := b0.size; simp; omega) _).alloc (by have := b0.size; simp; omega) _).alloc (by have := b0.size; simp; omega) _)
  clear b0
  go_wp2_with fail
  generalize (((((x0.alloc (.cells #[.int .i64 m, .int .i64 f] 24)).alloc (.cells #[.int .u32 1, .int .u16 7] 28)).alloc (.cells #[.int .u32 10, .int .u16 7] 28)).alloc (.cells #[.int .u32 1, .int .u16 7, .int .i64 0, .int .u32 10, .int .u16 7, .int .i64 1] 34)).alloc (.cells #[.int .i64 m, .int .i64 f, .int .u32 9, .int .u64 50, .int .i64 8] 38)) = wN at *
  generalize x0.heap.size = ga at *
  refine (new_l GA.out.n (some ⟨ga + 1 + 1 + 1, 0, none⟩) 2 (some ⟨ga + 1 + 1 + 1 + 1, 0, none⟩) 1 (by simp) (by simp) (by simp) (by simp) wN hR.out hS.out).mono ?_; rintro e w0 ⟨m_, rfl, s⟩
  clear hR hS
  have SA := Lib.hid s
  clear s
  clear hm3 hf3 m8 m64 f8 f64
  have s := SA.out.new [.int .u32 i, .int .u16 p] 28
  replace s : NN wN m_ [hC w0.heap.size [.int .u32 i, .int .u16 p]] _ (w0.alloc (.cells #[.int .u32 i, .int .u16 p] 28)) := s
  clear SA
  go_upto_region 11 with fail
  generalize (w0.alloc (.cells #[.int .u32 i, .int .u16 p] 28)) = v0 at *
  generalize w0.heap.size = g15 at *
  have SA := Lib.hid s
  clear s hq3 hr3 q8 q32 r8 r16 i32 p16
  have a0 := (hA.out.keep SA.out.below).cell 0 _ rfl; have a1 := (hA.out.keep SA.out.below).cell 1 _ rfl; have al := (hA.out.keep SA.out.below).lt
  go_wp2_with fail
  refine (send_l (n := naA m f) 0 2 1 7 ⟨#[97]⟩ GA.out.e1 (show _ = na1 m f from rfl) (by decide) (by decide) (naOk m f) SA.out).mono ?_; rintro e w1 ⟨rfl, s⟩
  clear SA
  clear a0 a1 al
  have SA := Lib.hid s
  clear s
  go_wp2_with fail
  refine (del_l (n := na1 m f) 1 0 GA.out.v2 (show _ = na2 m f from rfl) (by decide) (by decide) SA.out).mono ?_; rintro e w2 ⟨rfl, s⟩
  clear SA
  have SA := Lib.hid s
  clear s
  have s : NN wN m_ (hC w2.heap.size [.int .i64 1, .int .u32 9, .int .u16 20000, .string ⟨#[97]⟩] :: (hC g15 [.int .u32 i, .int .u16 p] :: [])) _ (w2.alloc (.cells #[.int .i64 1, .int .u32 9, .int .u16 20000, .string ⟨#[97]⟩] 42)) := SA.out.new [.int .i64 1, .int .u32 9, .int .u16 20000, .string ⟨#[97]⟩] 42
  clear SA
  go_upto_region 13 with fail
  generalize (w2.alloc (.cells #[.int .i64 1, .int .u32 9, .int .u16 20000, .string ⟨#[97]⟩] 42)) = v2 at *
  generalize w2.heap.size = g16 at *
  have SA := Lib.hid s
  clear s
  clear GA
  cases k
  · have d0 := (SA.out.cs (b := g15) (vs := [.int .u32 i, .int .u16 p]) (.tail _ (.head _))).cell 0 _ rfl; have d1 := (SA.out.cs (b := g15) (vs := [.int .u32 i, .int .u16 p]) (.tail _ (.head _))).cell 1 _ rfl; have dl := (SA.out.cs (b := g15) (vs := [.int .u32 i, .int .u16 p]) (.tail _ (.head _))).lt
    have c0 := (SA.out.cs (b := g16) (vs := [.int .i64 1, .int .u32 9, .int .u16 20000, .string ⟨#[97]⟩]) (.head _)).cell 0 _ rfl; have c1 := (SA.out.cs (b := g16) (vs := [.int .i64 1, .int .u32 9, .int .u16 20000, .string ⟨#[97]⟩]) (.head _)).cell 1 _ rfl; have c2 := (SA.out.cs (b := g16) (vs := [.int .i64 1, .int .u32 9, .int .u16 20000, .string ⟨#[97]⟩]) (.head _)).cell 2 _ rfl; have c3 := (SA.out.cs (b := g16) (vs := [.int .i64 1, .int .u32 9, .int .u16 20000, .string ⟨#[97]⟩]) (.head _)).cell 3 _ rfl; have cl := (SA.out.cs (b := g16) (vs := [.int .i64 1, .int .u32 9, .int .u16 20000, .string ⟨#[97]⟩]) (.head _)).lt
    go_wp2_with fail
    refine (inj_l (n := na4 m f i p false) 1 i p 9 20000 ⟨#[99]⟩ FA.out.e5 (show _ = na5 m f i p false from rfl) (by decide) (by decide) SA.out).mono ?_; rintro e w3 ⟨rfl, s⟩
    clear SA
    clear d0 d1 dl c0 c1 c2 c3 cl
    have SA := Lib.hid s
    clear s
    have d0 := (SA.out.cs (b := g15) (vs := [.int .u32 i, .int .u16 p]) (.tail _ (.head _))).cell 0 _ rfl; have d1 := (SA.out.cs (b := g15) (vs := [.int .u32 i, .int .u16 p]) (.tail _ (.head _))).cell 1 _ rfl; have dl := (SA.out.cs (b := g15) (vs := [.int .u32 i, .int .u16 p]) (.tail _ (.head _))).lt
    have b0 := (hI.out.keep SA.out.below).cell 0 _ rfl; have b1 := (hI.out.keep SA.out.below).cell 1 _ rfl; have bl := (hI.out.keep SA.out.below).lt
    go_wp2_with fail
    refine (inj_l (n := na5 m f i p false) 1 i p 10 7 ⟨#[100]⟩ FA.out.e6 (show _ = na6 m f i p false from rfl) (by decide) (by decide) SA.out).mono ?_; rintro e w4 ⟨rfl, s⟩
    clear SA
    clear d0 d1 dl b0 b1 bl
    have SA := Lib.hid s
    clear s
    have d0 := (SA.out.cs (b := g15) (vs := [.int .u32 i, .int .u16 p]) (.tail _ (.head _))).cell 0 _ rfl; have d1 := (SA.out.cs (b := g15) (vs := [.int .u32 i, .int .u16 p]) (.tail _ (.head _))).cell 1 _ rfl; have dl := (SA.out.cs (b := g15) (vs := [.int .u32 i, .int .u16 p]) (.tail _ (.head _))).lt
    have a0 := (hA.out.keep SA.out.below).cell 0 _ rfl; have a1 := (hA.out.keep SA.out.below).cell 1 _ rfl; have al := (hA.out.keep SA.out.below).lt
    go_wp2_with fail
    refine (inj_l (n := na6 m f i p false) 1 i p 1 7 ⟨#[102]⟩ FA.out.e7 (show _ = na7 m f i p false from rfl) (by decide) (by decide) SA.out).mono ?_; rintro e w5 ⟨rfl, s⟩
    clear SA
    clear d0 d1 dl a0 a1 al
    have SA := Lib.hid s
    clear s
    by_cases hf : f = 0
    · as_aux_lemma =>
      have V8 := Lib.hid FA.out.v8
      rw [if_pos (Or.inl hf)] at V8
      subst hf
      go_wp2_with fail
      refine (del_l (n := na7 m 0 i p false) 2 0 V8.out (show _ = na8 m 0 i p false from rfl) (by decide) (by decide) SA.out).mono ?_; rintro e w6 ⟨rfl, s⟩
      clear SA
      have SA := Lib.hid s
      clear s
      have s : NN wN m_ (hC w6.heap.size [.int .i64 2, .int .u32 i, .int .u16 p, .string ⟨#[99]⟩] :: (hC g16 [.int .i64 1, .int .u32 9, .int .u16 20000, .string ⟨#[97]⟩] :: hC g15 [.int .u32 i, .int .u16 p] :: [])) _ (w6.alloc (.cells #[.int .i64 2, .int .u32 i, .int .u16 p, .string ⟨#[99]⟩] 42)) := SA.out.new [.int .i64 2, .int .u32 i, .int .u16 p, .string ⟨#[99]⟩] 42
      clear SA
      go_upto_region 20 with fail
      generalize (w6.alloc (.cells #[.int .i64 2, .int .u32 i, .int .u16 p, .string ⟨#[99]⟩] 42)) = v6 at *
      generalize w6.heap.size = g18 at *
      have SA := Lib.hid s
      clear s
      go_wp2_with fail
      refine (del_l (n := na8 m 0 i p false) 2 0 FA.out.v9 (show _ = na9 m 0 i p false from rfl) (by decide) (by decide) SA.out).mono ?_; rintro e w7 ⟨rfl, s⟩
      clear SA
      have SA := Lib.hid s
      clear s
      have s : NN wN m_ (hC w7.heap.size [.int .i64 0, .int .u32 i, .int .u16 p, .string ⟨#[100]⟩] :: (hC g18 [.int .i64 2, .int .u32 i, .int .u16 p, .string ⟨#[99]⟩] :: hC g16 [.int .i64 1, .int .u32 9, .int .u16 20000, .string ⟨#[97]⟩] :: hC g15 [.int .u32 i, .int .u16 p] :: [])) _ (w7.alloc (.cells #[.int .i64 0, .int .u32 i, .int .u16 p, .string ⟨#[100]⟩] 42)) := SA.out.new [.int .i64 0, .int .u32 i, .int .u16 p, .string ⟨#[100]⟩] 42
      clear SA
      go_upto_region 21 with fail
      generalize (w7.alloc (.cells #[.int .i64 0, .int .u32 i, .int .u16 p, .string ⟨#[100]⟩] 42)) = v7 at *
      generalize w7.heap.size = g20 at *
      have SA := Lib.hid s
      clear s
      go_wp2_with fail
      refine (del_l (n := na9 m 0 i p false) 2 0 FA.out.v10 rfl (by decide) (by decide) SA.out).mono ?_; rintro e w8 ⟨rfl, s⟩
      clear SA
      have SA := Lib.hid s
      clear s
      have a0 := (hT.out.keep SA.out.below).cell 0 _ rfl; have a1 := (hT.out.keep SA.out.below).cell 1 _ rfl; have al := (hT.out.keep SA.out.below).lt
      have c0 := (SA.out.cs (b := g20) (vs := [.int .i64 0, .int .u32 i, .int .u16 p, .string ⟨#[100]⟩]) (.head _)).cell 0 _ rfl; have c1 := (SA.out.cs (b := g20) (vs := [.int .i64 0, .int .u32 i, .int .u16 p, .string ⟨#[100]⟩]) (.head _)).cell 1 _ rfl; have c2 := (SA.out.cs (b := g20) (vs := [.int .i64 0, .int .u32 i, .int .u16 p, .string ⟨#[100]⟩]) (.head _)).cell 2 _ rfl; have c3 := (SA.out.cs (b := g20) (vs := [.int .i64 0, .int .u32 i, .int .u16 p, .string ⟨#[100]⟩]) (.head _)).cell 3 _ rfl; have cl := (SA.out.cs (b := g20) (vs := [.int .i64 0, .int .u32 i, .int .u16 p, .string ⟨#[100]⟩]) (.head _)).lt
      have d0 := (SA.out.cs (b := g18) (vs := [.int .i64 2, .int .u32 i, .int .u16 p, .string ⟨#[99]⟩]) (.tail _ (.head _))).cell 0 _ rfl; have d1 := (SA.out.cs (b := g18) (vs := [.int .i64 2, .int .u32 i, .int .u16 p, .string ⟨#[99]⟩]) (.tail _ (.head _))).cell 1 _ rfl; have d2 := (SA.out.cs (b := g18) (vs := [.int .i64 2, .int .u32 i, .int .u16 p, .string ⟨#[99]⟩]) (.tail _ (.head _))).cell 2 _ rfl; have d3 := (SA.out.cs (b := g18) (vs := [.int .i64 2, .int .u32 i, .int .u16 p, .string ⟨#[99]⟩]) (.tail _ (.head _))).cell 3 _ rfl; have dl := (SA.out.cs (b := g18) (vs := [.int .i64 2, .int .u32 i, .int .u16 p, .string ⟨#[99]⟩]) (.tail _ (.head _))).lt
      have b0 := (SA.out.cs (b := g16) (vs := [.int .i64 1, .int .u32 9, .int .u16 20000, .string ⟨#[97]⟩]) (.tail _ (.tail _ (.head _)))).cell 0 _ rfl; have b1 := (SA.out.cs (b := g16) (vs := [.int .i64 1, .int .u32 9, .int .u16 20000, .string ⟨#[97]⟩]) (.tail _ (.tail _ (.head _)))).cell 1 _ rfl; have b2 := (SA.out.cs (b := g16) (vs := [.int .i64 1, .int .u32 9, .int .u16 20000, .string ⟨#[97]⟩]) (.tail _ (.tail _ (.head _)))).cell 2 _ rfl; have b3 := (SA.out.cs (b := g16) (vs := [.int .i64 1, .int .u32 9, .int .u16 20000, .string ⟨#[97]⟩]) (.tail _ (.tail _ (.head _)))).cell 3 _ rfl; have bl := (SA.out.cs (b := g16) (vs := [.int .i64 1, .int .u32 9, .int .u16 20000, .string ⟨#[97]⟩]) (.tail _ (.tail _ (.head _)))).lt
      have k0 := (SA.out.cs (b := g15) (vs := [.int .u32 i, .int .u16 p]) (.tail _ (.tail _ (.tail _ (.head _))))).cell 0 _ rfl; have k1 := (SA.out.cs (b := g15) (vs := [.int .u32 i, .int .u16 p]) (.tail _ (.tail _ (.tail _ (.head _))))).cell 1 _ rfl; have kl := (SA.out.cs (b := g15) (vs := [.int .u32 i, .int .u16 p]) (.tail _ (.tail _ (.tail _ (.head _))))).lt
      have s : NN wN m_ (hC w8.heap.size [.int .i64 1, .int .u32 i, .int .u16 p, .string ⟨#[102]⟩] :: (hC g20 [.int .i64 0, .int .u32 i, .int .u16 p, .string ⟨#[100]⟩] :: hC g18 [.int .i64 2, .int .u32 i, .int .u16 p, .string ⟨#[99]⟩] :: hC g16 [.int .i64 1, .int .u32 9, .int .u16 20000, .string ⟨#[97]⟩] :: hC g15 [.int .u32 i, .int .u16 p] :: [])) _ (w8.alloc (.cells #[.int .i64 1, .int .u32 i, .int .u16 p, .string ⟨#[102]⟩] 42)) := SA.out.new [.int .i64 1, .int .u32 i, .int .u16 p, .string ⟨#[102]⟩] 42
      have SB := Lib.hid s.below
      clear s SA FA V8
      go_wp2
      go_ret
      exact ⟨rfl, hB.out.trans (SB.out.mono hB.out.size)⟩
    · as_aux_lemma =>
      have V8 := Lib.hid FA.out.v8
      rw [if_neg (by rintro (h | ⟨h, _⟩); exact hf h; cases h)] at V8
      have hf2 : (f == 0) = false := by rw [beq_eq_false_iff_ne]; exact hf
      go_wp2_with fail
      refine (del_l (n := na7 m f i p false) 2 0 V8.out (show _ = na8 m f i p false from rfl) (by decide) (by decide) SA.out).mono ?_; rintro e w6 ⟨rfl, s⟩
      clear SA
      have SA := Lib.hid s
      clear s
      have s : NN wN m_ (hC w6.heap.size [.int .i64 0, .int .u32 i, .int .u16 p, .string ⟨#[99]⟩] :: (hC g16 [.int .i64 1, .int .u32 9, .int .u16 20000, .string ⟨#[97]⟩] :: hC g15 [.int .u32 i, .int .u16 p] :: [])) _ (w6.alloc (.cells #[.int .i64 0, .int .u32 i, .int .u16 p, .string ⟨#[99]⟩] 42)) := SA.out.new [.int .i64 0, .int .u32 i, .int .u16 p, .string ⟨#[99]⟩] 42
      clear SA
      go_upto_region 20 with fail
      generalize (w6.alloc (.cells #[.int .i64 0, .int .u32 i, .int .u16 p, .string ⟨#[99]⟩] 42)) = v6 at *
      generalize w6.heap.size = g18 at *
      have SA := Lib.hid s
      clear s
      go_wp2_with fail
      refine (del_l (n := na8 m f i p false) 2 0 FA.out.v9 (show _ = na9 m f i p false from rfl) (by decide) (by decide) SA.out).mono ?_; rintro e w7 ⟨rfl, s⟩
      clear SA
      have SA := Lib.hid s
      clear s
      have s : NN wN m_ (hC w7.heap.size [.int .i64 0, .int .u32 i, .int .u16 p, .string ⟨#[100]⟩] :: (hC g18 [.int .i64 0, .int .u32 i, .int .u16 p, .string ⟨#[99]⟩] :: hC g16 [.int .i64 1, .int .u32 9, .int .u16 20000, .string ⟨#[97]⟩] :: hC g15 [.int .u32 i, .int .u16 p] :: [])) _ (w7.alloc (.cells #[.int .i64 0, .int .u32 i, .int .u16 p, .string ⟨#[100]⟩] 42)) := SA.out.new [.int .i64 0, .int .u32 i, .int .u16 p, .string ⟨#[100]⟩] 42
      clear SA
      go_upto_region 21 with fail
      generalize (w7.alloc (.cells #[.int .i64 0, .int .u32 i, .int .u16 p, .string ⟨#[100]⟩] 42)) = v7 at *
      generalize w7.heap.size = g20 at *
      have SA := Lib.hid s
      clear s
      go_wp2_with fail
      refine (del_l (n := na9 m f i p false) 2 0 FA.out.v10 rfl (by decide) (by decide) SA.out).mono ?_; rintro e w8 ⟨rfl, s⟩
      clear SA
      have SA := Lib.hid s
      clear s
      have a0 := (hT.out.keep SA.out.below).cell 0 _ rfl; have a1 := (hT.out.keep SA.out.below).cell 1 _ rfl; have al := (hT.out.keep SA.out.below).lt
      have c0 := (SA.out.cs (b := g20) (vs := [.int .i64 0, .int .u32 i, .int .u16 p, .string ⟨#[100]⟩]) (.head _)).cell 0 _ rfl; have c1 := (SA.out.cs (b := g20) (vs := [.int .i64 0, .int .u32 i, .int .u16 p, .string ⟨#[100]⟩]) (.head _)).cell 1 _ rfl; have c2 := (SA.out.cs (b := g20) (vs := [.int .i64 0, .int .u32 i, .int .u16 p, .string ⟨#[100]⟩]) (.head _)).cell 2 _ rfl; have c3 := (SA.out.cs (b := g20) (vs := [.int .i64 0, .int .u32 i, .int .u16 p, .string ⟨#[100]⟩]) (.head _)).cell 3 _ rfl; have cl := (SA.out.cs (b := g20) (vs := [.int .i64 0, .int .u32 i, .int .u16 p, .string ⟨#[100]⟩]) (.head _)).lt
      have d0 := (SA.out.cs (b := g18) (vs := [.int .i64 0, .int .u32 i, .int .u16 p, .string ⟨#[99]⟩]) (.tail _ (.head _))).cell 0 _ rfl; have d1 := (SA.out.cs (b := g18) (vs := [.int .i64 0, .int .u32 i, .int .u16 p, .string ⟨#[99]⟩]) (.tail _ (.head _))).cell 1 _ rfl; have d2 := (SA.out.cs (b := g18) (vs := [.int .i64 0, .int .u32 i, .int .u16 p, .string ⟨#[99]⟩]) (.tail _ (.head _))).cell 2 _ rfl; have d3 := (SA.out.cs (b := g18) (vs := [.int .i64 0, .int .u32 i, .int .u16 p, .string ⟨#[99]⟩]) (.tail _ (.head _))).cell 3 _ rfl; have dl := (SA.out.cs (b := g18) (vs := [.int .i64 0, .int .u32 i, .int .u16 p, .string ⟨#[99]⟩]) (.tail _ (.head _))).lt
      have b0 := (SA.out.cs (b := g16) (vs := [.int .i64 1, .int .u32 9, .int .u16 20000, .string ⟨#[97]⟩]) (.tail _ (.tail _ (.head _)))).cell 0 _ rfl; have b1 := (SA.out.cs (b := g16) (vs := [.int .i64 1, .int .u32 9, .int .u16 20000, .string ⟨#[97]⟩]) (.tail _ (.tail _ (.head _)))).cell 1 _ rfl; have b2 := (SA.out.cs (b := g16) (vs := [.int .i64 1, .int .u32 9, .int .u16 20000, .string ⟨#[97]⟩]) (.tail _ (.tail _ (.head _)))).cell 2 _ rfl; have b3 := (SA.out.cs (b := g16) (vs := [.int .i64 1, .int .u32 9, .int .u16 20000, .string ⟨#[97]⟩]) (.tail _ (.tail _ (.head _)))).cell 3 _ rfl; have bl := (SA.out.cs (b := g16) (vs := [.int .i64 1, .int .u32 9, .int .u16 20000, .string ⟨#[97]⟩]) (.tail _ (.tail _ (.head _)))).lt
      have k0 := (SA.out.cs (b := g15) (vs := [.int .u32 i, .int .u16 p]) (.tail _ (.tail _ (.tail _ (.head _))))).cell 0 _ rfl; have k1 := (SA.out.cs (b := g15) (vs := [.int .u32 i, .int .u16 p]) (.tail _ (.tail _ (.tail _ (.head _))))).cell 1 _ rfl; have kl := (SA.out.cs (b := g15) (vs := [.int .u32 i, .int .u16 p]) (.tail _ (.tail _ (.tail _ (.head _))))).lt
      have s : NN wN m_ (hC w8.heap.size [.int .i64 1, .int .u32 i, .int .u16 p, .string ⟨#[102]⟩] :: (hC g20 [.int .i64 0, .int .u32 i, .int .u16 p, .string ⟨#[100]⟩] :: hC g18 [.int .i64 0, .int .u32 i, .int .u16 p, .string ⟨#[99]⟩] :: hC g16 [.int .i64 1, .int .u32 9, .int .u16 20000, .string ⟨#[97]⟩] :: hC g15 [.int .u32 i, .int .u16 p] :: [])) _ (w8.alloc (.cells #[.int .i64 1, .int .u32 i, .int .u16 p, .string ⟨#[102]⟩] 42)) := SA.out.new [.int .i64 1, .int .u32 i, .int .u16 p, .string ⟨#[102]⟩] 42
      have SB := Lib.hid s.below
      clear s SA FA V8
      go_wp2
      go_ret
      exact ⟨rfl, hB.out.trans (SB.out.mono hB.out.size)⟩
  · have d0 := (SA.out.cs (b := g15) (vs := [.int .u32 i, .int .u16 p]) (.tail _ (.head _))).cell 0 _ rfl; have d1 := (SA.out.cs (b := g15) (vs := [.int .u32 i, .int .u16 p]) (.tail _ (.head _))).cell 1 _ rfl; have dl := (SA.out.cs (b := g15) (vs := [.int .u32 i, .int .u16 p]) (.tail _ (.head _))).lt
    go_wp2_with fail
    refine (send_l (n := na2 m f) 1 2 i p ⟨#[98]⟩ FA.out.e3 (show _ = na3 m f i p from rfl) (by decide) (by decide) (((naOk m f).send _ _ _ _ _).del _ _) SA.out).mono ?_; rintro e w3 ⟨rfl, s⟩
    clear SA
    clear d0 d1 dl
    have SA := Lib.hid s
    clear s
    go_wp2_with fail
    refine (drop_l (n := na3 m f i p) 0 FA.out.e4 (show _ = na4 m f i p true from rfl) (by decide) SA.out).mono ?_; rintro e w4 ⟨rfl, s⟩
    clear SA
    have SA := Lib.hid s
    clear s
    have d0 := (SA.out.cs (b := g15) (vs := [.int .u32 i, .int .u16 p]) (.tail _ (.head _))).cell 0 _ rfl; have d1 := (SA.out.cs (b := g15) (vs := [.int .u32 i, .int .u16 p]) (.tail _ (.head _))).cell 1 _ rfl; have dl := (SA.out.cs (b := g15) (vs := [.int .u32 i, .int .u16 p]) (.tail _ (.head _))).lt
    have c0 := (SA.out.cs (b := g16) (vs := [.int .i64 1, .int .u32 9, .int .u16 20000, .string ⟨#[97]⟩]) (.head _)).cell 0 _ rfl; have c1 := (SA.out.cs (b := g16) (vs := [.int .i64 1, .int .u32 9, .int .u16 20000, .string ⟨#[97]⟩]) (.head _)).cell 1 _ rfl; have c2 := (SA.out.cs (b := g16) (vs := [.int .i64 1, .int .u32 9, .int .u16 20000, .string ⟨#[97]⟩]) (.head _)).cell 2 _ rfl; have c3 := (SA.out.cs (b := g16) (vs := [.int .i64 1, .int .u32 9, .int .u16 20000, .string ⟨#[97]⟩]) (.head _)).cell 3 _ rfl; have cl := (SA.out.cs (b := g16) (vs := [.int .i64 1, .int .u32 9, .int .u16 20000, .string ⟨#[97]⟩]) (.head _)).lt
    go_wp2_with fail
    refine (inj_l (n := na4 m f i p true) 1 i p 9 20000 ⟨#[99]⟩ FA.out.e5 (show _ = na5 m f i p true from rfl) (by decide) (by decide) SA.out).mono ?_; rintro e w5 ⟨rfl, s⟩
    clear SA
    clear d0 d1 dl c0 c1 c2 c3 cl
    have SA := Lib.hid s
    clear s
    have d0 := (SA.out.cs (b := g15) (vs := [.int .u32 i, .int .u16 p]) (.tail _ (.head _))).cell 0 _ rfl; have d1 := (SA.out.cs (b := g15) (vs := [.int .u32 i, .int .u16 p]) (.tail _ (.head _))).cell 1 _ rfl; have dl := (SA.out.cs (b := g15) (vs := [.int .u32 i, .int .u16 p]) (.tail _ (.head _))).lt
    have b0 := (hI.out.keep SA.out.below).cell 0 _ rfl; have b1 := (hI.out.keep SA.out.below).cell 1 _ rfl; have bl := (hI.out.keep SA.out.below).lt
    go_wp2_with fail
    refine (inj_l (n := na5 m f i p true) 1 i p 10 7 ⟨#[100]⟩ FA.out.e6 (show _ = na6 m f i p true from rfl) (by decide) (by decide) SA.out).mono ?_; rintro e w6 ⟨rfl, s⟩
    clear SA
    clear d0 d1 dl b0 b1 bl
    have SA := Lib.hid s
    clear s
    have d0 := (SA.out.cs (b := g15) (vs := [.int .u32 i, .int .u16 p]) (.tail _ (.head _))).cell 0 _ rfl; have d1 := (SA.out.cs (b := g15) (vs := [.int .u32 i, .int .u16 p]) (.tail _ (.head _))).cell 1 _ rfl; have dl := (SA.out.cs (b := g15) (vs := [.int .u32 i, .int .u16 p]) (.tail _ (.head _))).lt
    have a0 := (hA.out.keep SA.out.below).cell 0 _ rfl; have a1 := (hA.out.keep SA.out.below).cell 1 _ rfl; have al := (hA.out.keep SA.out.below).lt
    go_wp2_with fail
    refine (inj_l (n := na6 m f i p true) 1 i p 1 7 ⟨#[102]⟩ FA.out.e7 (show _ = na7 m f i p true from rfl) (by decide) (by decide) SA.out).mono ?_; rintro e w7 ⟨rfl, s⟩
    clear SA
    clear d0 d1 dl a0 a1 al
    have SA := Lib.hid s
    clear s
    by_cases hf : f = 0
    · as_aux_lemma =>
      have V8 := Lib.hid FA.out.v8
      rw [if_pos (Or.inl hf)] at V8
      subst hf
      go_wp2_with fail
      refine (del_l (n := na7 m 0 i p true) 2 0 V8.out (show _ = na8 m 0 i p true from rfl) (by decide) (by decide) SA.out).mono ?_; rintro e w8 ⟨rfl, s⟩
      clear SA
      have SA := Lib.hid s
      clear s
      have s : NN wN m_ (hC w8.heap.size [.int .i64 2, .int .u32 i, .int .u16 p, .string ⟨#[99]⟩] :: (hC g16 [.int .i64 1, .int .u32 9, .int .u16 20000, .string ⟨#[97]⟩] :: hC g15 [.int .u32 i, .int .u16 p] :: [])) _ (w8.alloc (.cells #[.int .i64 2, .int .u32 i, .int .u16 p, .string ⟨#[99]⟩] 42)) := SA.out.new [.int .i64 2, .int .u32 i, .int .u16 p, .string ⟨#[99]⟩] 42
      clear SA
      go_upto_region 20 with fail
      generalize (w8.alloc (.cells #[.int .i64 2, .int .u32 i, .int .u16 p, .string ⟨#[99]⟩] 42)) = v8 at *
      generalize w8.heap.size = g18 at *
      have SA := Lib.hid s
      clear s
      go_wp2_with fail
      refine (del_l (n := na8 m 0 i p true) 2 0 FA.out.v9 (show _ = na9 m 0 i p true from rfl) (by decide) (by decide) SA.out).mono ?_; rintro e w9 ⟨rfl, s⟩
      clear SA
      have SA := Lib.hid s
      clear s
      have s : NN wN m_ (hC w9.heap.size [.int .i64 0, .int .u32 i, .int .u16 p, .string ⟨#[100]⟩] :: (hC g18 [.int .i64 2, .int .u32 i, .int .u16 p, .string ⟨#[99]⟩] :: hC g16 [.int .i64 1, .int .u32 9, .int .u16 20000, .string ⟨#[97]⟩] :: hC g15 [.int .u32 i, .int .u16 p] :: [])) _ (w9.alloc (.cells #[.int .i64 0, .int .u32 i, .int .u16 p, .string ⟨#[100]⟩] 42)) := SA.out.new [.int .i64 0, .int .u32 i, .int .u16 p, .string ⟨#[100]⟩] 42
      clear SA
      go_upto_region 21 with fail
      generalize (w9.alloc (.cells #[.int .i64 0, .int .u32 i, .int .u16 p, .string ⟨#[100]⟩] 42)) = v9 at *
      generalize w9.heap.size = g20 at *
      have SA := Lib.hid s
      clear s
      go_wp2_with fail
      refine (del_l (n := na9 m 0 i p true) 2 0 FA.out.v10 rfl (by decide) (by decide) SA.out).mono ?_; rintro e w10 ⟨rfl, s⟩
      clear SA
      have SA := Lib.hid s
      clear s
      have a0 := (hT.out.keep SA.out.below).cell 0 _ rfl; have a1 := (hT.out.keep SA.out.below).cell 1 _ rfl; have al := (hT.out.keep SA.out.below).lt
      have c0 := (SA.out.cs (b := g20) (vs := [.int .i64 0, .int .u32 i, .int .u16 p, .string ⟨#[100]⟩]) (.head _)).cell 0 _ rfl; have c1 := (SA.out.cs (b := g20) (vs := [.int .i64 0, .int .u32 i, .int .u16 p, .string ⟨#[100]⟩]) (.head _)).cell 1 _ rfl; have c2 := (SA.out.cs (b := g20) (vs := [.int .i64 0, .int .u32 i, .int .u16 p, .string ⟨#[100]⟩]) (.head _)).cell 2 _ rfl; have c3 := (SA.out.cs (b := g20) (vs := [.int .i64 0, .int .u32 i, .int .u16 p, .string ⟨#[100]⟩]) (.head _)).cell 3 _ rfl; have cl := (SA.out.cs (b := g20) (vs := [.int .i64 0, .int .u32 i, .int .u16 p, .string ⟨#[100]⟩]) (.head _)).lt
      have d0 := (SA.out.cs (b := g18) (vs := [.int .i64 2, .int .u32 i, .int .u16 p, .string ⟨#[99]⟩]) (.tail _ (.head _))).cell 0 _ rfl; have d1 := (SA.out.cs (b := g18) (vs := [.int .i64 2, .int .u32 i, .int .u16 p, .string ⟨#[99]⟩]) (.tail _ (.head _))).cell 1 _ rfl; have d2 := (SA.out.cs (b := g18) (vs := [.int .i64 2, .int .u32 i, .int .u16 p, .string ⟨#[99]⟩]) (.tail _ (.head _))).cell 2 _ rfl; have d3 := (SA.out.cs (b := g18) (vs := [.int .i64 2, .int .u32 i, .int .u16 p, .string ⟨#[99]⟩]) (.tail _ (.head _))).cell 3 _ rfl; have dl := (SA.out.cs (b := g18) (vs := [.int .i64 2, .int .u32 i, .int .u16 p, .string ⟨#[99]⟩]) (.tail _ (.head _))).lt
      have b0 := (SA.out.cs (b := g16) (vs := [.int .i64 1, .int .u32 9, .int .u16 20000, .string ⟨#[97]⟩]) (.tail _ (.tail _ (.head _)))).cell 0 _ rfl; have b1 := (SA.out.cs (b := g16) (vs := [.int .i64 1, .int .u32 9, .int .u16 20000, .string ⟨#[97]⟩]) (.tail _ (.tail _ (.head _)))).cell 1 _ rfl; have b2 := (SA.out.cs (b := g16) (vs := [.int .i64 1, .int .u32 9, .int .u16 20000, .string ⟨#[97]⟩]) (.tail _ (.tail _ (.head _)))).cell 2 _ rfl; have b3 := (SA.out.cs (b := g16) (vs := [.int .i64 1, .int .u32 9, .int .u16 20000, .string ⟨#[97]⟩]) (.tail _ (.tail _ (.head _)))).cell 3 _ rfl; have bl := (SA.out.cs (b := g16) (vs := [.int .i64 1, .int .u32 9, .int .u16 20000, .string ⟨#[97]⟩]) (.tail _ (.tail _ (.head _)))).lt
      have k0 := (SA.out.cs (b := g15) (vs := [.int .u32 i, .int .u16 p]) (.tail _ (.tail _ (.tail _ (.head _))))).cell 0 _ rfl; have k1 := (SA.out.cs (b := g15) (vs := [.int .u32 i, .int .u16 p]) (.tail _ (.tail _ (.tail _ (.head _))))).cell 1 _ rfl; have kl := (SA.out.cs (b := g15) (vs := [.int .u32 i, .int .u16 p]) (.tail _ (.tail _ (.tail _ (.head _))))).lt
      have s : NN wN m_ (hC w10.heap.size [.int .i64 1, .int .u32 i, .int .u16 p, .string ⟨#[102]⟩] :: (hC g20 [.int .i64 0, .int .u32 i, .int .u16 p, .string ⟨#[100]⟩] :: hC g18 [.int .i64 2, .int .u32 i, .int .u16 p, .string ⟨#[99]⟩] :: hC g16 [.int .i64 1, .int .u32 9, .int .u16 20000, .string ⟨#[97]⟩] :: hC g15 [.int .u32 i, .int .u16 p] :: [])) _ (w10.alloc (.cells #[.int .i64 1, .int .u32 i, .int .u16 p, .string ⟨#[102]⟩] 42)) := SA.out.new [.int .i64 1, .int .u32 i, .int .u16 p, .string ⟨#[102]⟩] 42
      have SB := Lib.hid s.below
      clear s SA FA V8
      go_wp2
      go_ret
      exact ⟨rfl, hB.out.trans (SB.out.mono hB.out.size)⟩
    · by_cases hm : m = 0
      · as_aux_lemma =>
        have V8 := Lib.hid FA.out.v8
        rw [if_pos (Or.inr ⟨rfl, hm⟩)] at V8
        have hf2 : (f == 0) = false := by rw [beq_eq_false_iff_ne]; exact hf
        subst hm
        go_wp2_with fail
        refine (del_l (n := na7 0 f i p true) 2 0 V8.out (show _ = na8 0 f i p true from rfl) (by decide) (by decide) SA.out).mono ?_; rintro e w8 ⟨rfl, s⟩
        clear SA
        have SA := Lib.hid s
        clear s
        have s : NN wN m_ (hC w8.heap.size [.int .i64 2, .int .u32 i, .int .u16 p, .string ⟨#[99]⟩] :: (hC g16 [.int .i64 1, .int .u32 9, .int .u16 20000, .string ⟨#[97]⟩] :: hC g15 [.int .u32 i, .int .u16 p] :: [])) _ (w8.alloc (.cells #[.int .i64 2, .int .u32 i, .int .u16 p, .string ⟨#[99]⟩] 42)) := SA.out.new [.int .i64 2, .int .u32 i, .int .u16 p, .string ⟨#[99]⟩] 42
        clear SA
        go_upto_region 20 with fail
        generalize (w8.alloc (.cells #[.int .i64 2, .int .u32 i, .int .u16 p, .string ⟨#[99]⟩] 42)) = v8 at *
        generalize w8.heap.size = g18 at *
        have SA := Lib.hid s
        clear s
        go_wp2_with fail
        refine (del_l (n := na8 0 f i p true) 2 0 FA.out.v9 (show _ = na9 0 f i p true from rfl) (by decide) (by decide) SA.out).mono ?_; rintro e w9 ⟨rfl, s⟩
        clear SA
        have SA := Lib.hid s
        clear s
        have s : NN wN m_ (hC w9.heap.size [.int .i64 0, .int .u32 i, .int .u16 p, .string ⟨#[100]⟩] :: (hC g18 [.int .i64 2, .int .u32 i, .int .u16 p, .string ⟨#[99]⟩] :: hC g16 [.int .i64 1, .int .u32 9, .int .u16 20000, .string ⟨#[97]⟩] :: hC g15 [.int .u32 i, .int .u16 p] :: [])) _ (w9.alloc (.cells #[.int .i64 0, .int .u32 i, .int .u16 p, .string ⟨#[100]⟩] 42)) := SA.out.new [.int .i64 0, .int .u32 i, .int .u16 p, .string ⟨#[100]⟩] 42
        clear SA
        go_upto_region 21 with fail
        generalize (w9.alloc (.cells #[.int .i64 0, .int .u32 i, .int .u16 p, .string ⟨#[100]⟩] 42)) = v9 at *
        generalize w9.heap.size = g20 at *
        have SA := Lib.hid s
        clear s
        go_wp2_with fail
        refine (del_l (n := na9 0 f i p true) 2 0 FA.out.v10 rfl (by decide) (by decide) SA.out).mono ?_; rintro e w10 ⟨rfl, s⟩
        clear SA
        have SA := Lib.hid s
        clear s
        have a0 := (hT.out.keep SA.out.below).cell 0 _ rfl; have a1 := (hT.out.keep SA.out.below).cell 1 _ rfl; have al := (hT.out.keep SA.out.below).lt
        have c0 := (SA.out.cs (b := g20) (vs := [.int .i64 0, .int .u32 i, .int .u16 p, .string ⟨#[100]⟩]) (.head _)).cell 0 _ rfl; have c1 := (SA.out.cs (b := g20) (vs := [.int .i64 0, .int .u32 i, .int .u16 p, .string ⟨#[100]⟩]) (.head _)).cell 1 _ rfl; have c2 := (SA.out.cs (b := g20) (vs := [.int .i64 0, .int .u32 i, .int .u16 p, .string ⟨#[100]⟩]) (.head _)).cell 2 _ rfl; have c3 := (SA.out.cs (b := g20) (vs := [.int .i64 0, .int .u32 i, .int .u16 p, .string ⟨#[100]⟩]) (.head _)).cell 3 _ rfl; have cl := (SA.out.cs (b := g20) (vs := [.int .i64 0, .int .u32 i, .int .u16 p, .string ⟨#[100]⟩]) (.head _)).lt
        have d0 := (SA.out.cs (b := g18) (vs := [.int .i64 2, .int .u32 i, .int .u16 p, .string ⟨#[99]⟩]) (.tail _ (.head _))).cell 0 _ rfl; have d1 := (SA.out.cs (b := g18) (vs := [.int .i64 2, .int .u32 i, .int .u16 p, .string ⟨#[99]⟩]) (.tail _ (.head _))).cell 1 _ rfl; have d2 := (SA.out.cs (b := g18) (vs := [.int .i64 2, .int .u32 i, .int .u16 p, .string ⟨#[99]⟩]) (.tail _ (.head _))).cell 2 _ rfl; have d3 := (SA.out.cs (b := g18) (vs := [.int .i64 2, .int .u32 i, .int .u16 p, .string ⟨#[99]⟩]) (.tail _ (.head _))).cell 3 _ rfl; have dl := (SA.out.cs (b := g18) (vs := [.int .i64 2, .int .u32 i, .int .u16 p, .string ⟨#[99]⟩]) (.tail _ (.head _))).lt
        have b0 := (SA.out.cs (b := g16) (vs := [.int .i64 1, .int .u32 9, .int .u16 20000, .string ⟨#[97]⟩]) (.tail _ (.tail _ (.head _)))).cell 0 _ rfl; have b1 := (SA.out.cs (b := g16) (vs := [.int .i64 1, .int .u32 9, .int .u16 20000, .string ⟨#[97]⟩]) (.tail _ (.tail _ (.head _)))).cell 1 _ rfl; have b2 := (SA.out.cs (b := g16) (vs := [.int .i64 1, .int .u32 9, .int .u16 20000, .string ⟨#[97]⟩]) (.tail _ (.tail _ (.head _)))).cell 2 _ rfl; have b3 := (SA.out.cs (b := g16) (vs := [.int .i64 1, .int .u32 9, .int .u16 20000, .string ⟨#[97]⟩]) (.tail _ (.tail _ (.head _)))).cell 3 _ rfl; have bl := (SA.out.cs (b := g16) (vs := [.int .i64 1, .int .u32 9, .int .u16 20000, .string ⟨#[97]⟩]) (.tail _ (.tail _ (.head _)))).lt
        have k0 := (SA.out.cs (b := g15) (vs := [.int .u32 i, .int .u16 p]) (.tail _ (.tail _ (.tail _ (.head _))))).cell 0 _ rfl; have k1 := (SA.out.cs (b := g15) (vs := [.int .u32 i, .int .u16 p]) (.tail _ (.tail _ (.tail _ (.head _))))).cell 1 _ rfl; have kl := (SA.out.cs (b := g15) (vs := [.int .u32 i, .int .u16 p]) (.tail _ (.tail _ (.tail _ (.head _))))).lt
        have s : NN wN m_ (hC w10.heap.size [.int .i64 1, .int .u32 i, .int .u16 p, .string ⟨#[102]⟩] :: (hC g20 [.int .i64 0, .int .u32 i, .int .u16 p, .string ⟨#[100]⟩] :: hC g18 [.int .i64 2, .int .u32 i, .int .u16 p, .string ⟨#[99]⟩] :: hC g16 [.int .i64 1, .int .u32 9, .int .u16 20000, .string ⟨#[97]⟩] :: hC g15 [.int .u32 i, .int .u16 p] :: [])) _ (w10.alloc (.cells #[.int .i64 1, .int .u32 i, .int .u16 p, .string ⟨#[102]⟩] 42)) := SA.out.new [.int .i64 1, .int .u32 i, .int .u16 p, .string ⟨#[102]⟩] 42
        have SB := Lib.hid s.below
        clear s SA FA V8
        go_wp2
        go_ret
        exact ⟨rfl, hB.out.trans (SB.out.mono hB.out.size)⟩
      · as_aux_lemma =>
        have V8 := Lib.hid FA.out.v8
        rw [if_neg (by rintro (h | ⟨_, h⟩); exact hf h; exact hm h)] at V8
        have hf2 : (f == 0) = false := by rw [beq_eq_false_iff_ne]; exact hf
        have hm2 : (m == 0) = false := by rw [beq_eq_false_iff_ne]; exact hm
        go_wp2_with fail
        refine (del_l (n := na7 m f i p true) 2 0 V8.out (show _ = na8 m f i p true from rfl) (by decide) (by decide) SA.out).mono ?_; rintro e w8 ⟨rfl, s⟩
        clear SA
        have SA := Lib.hid s
        clear s
        have s : NN wN m_ (hC w8.heap.size [.int .i64 0, .int .u32 i, .int .u16 p, .string ⟨#[99]⟩] :: (hC g16 [.int .i64 1, .int .u32 9, .int .u16 20000, .string ⟨#[97]⟩] :: hC g15 [.int .u32 i, .int .u16 p] :: [])) _ (w8.alloc (.cells #[.int .i64 0, .int .u32 i, .int .u16 p, .string ⟨#[99]⟩] 42)) := SA.out.new [.int .i64 0, .int .u32 i, .int .u16 p, .string ⟨#[99]⟩] 42
        clear SA
        go_upto_region 20 with fail
        generalize (w8.alloc (.cells #[.int .i64 0, .int .u32 i, .int .u16 p, .string ⟨#[99]⟩] 42)) = v8 at *
        generalize w8.heap.size = g18 at *
        have SA := Lib.hid s
        clear s
        go_wp2_with fail
        refine (del_l (n := na8 m f i p true) 2 0 FA.out.v9 (show _ = na9 m f i p true from rfl) (by decide) (by decide) SA.out).mono ?_; rintro e w9 ⟨rfl, s⟩
        clear SA
        have SA := Lib.hid s
        clear s
        have s : NN wN m_ (hC w9.heap.size [.int .i64 0, .int .u32 i, .int .u16 p, .string ⟨#[100]⟩] :: (hC g18 [.int .i64 0, .int .u32 i, .int .u16 p, .string ⟨#[99]⟩] :: hC g16 [.int .i64 1, .int .u32 9, .int .u16 20000, .string ⟨#[97]⟩] :: hC g15 [.int .u32 i, .int .u16 p] :: [])) _ (w9.alloc (.cells #[.int .i64 0, .int .u32 i, .int .u16 p, .string ⟨#[100]⟩] 42)) := SA.out.new [.int .i64 0, .int .u32 i, .int .u16 p, .string ⟨#[100]⟩] 42
        clear SA
        go_upto_region 21 with fail
        generalize (w9.alloc (.cells #[.int .i64 0, .int .u32 i, .int .u16 p, .string ⟨#[100]⟩] 42)) = v9 at *
        generalize w9.heap.size = g20 at *
        have SA := Lib.hid s
        clear s
        go_wp2_with fail
        refine (del_l (n := na9 m f i p true) 2 0 FA.out.v10 rfl (by decide) (by decide) SA.out).mono ?_; rintro e w10 ⟨rfl, s⟩
        clear SA
        have SA := Lib.hid s
        clear s
        have a0 := (hT.out.keep SA.out.below).cell 0 _ rfl; have a1 := (hT.out.keep SA.out.below).cell 1 _ rfl; have al := (hT.out.keep SA.out.below).lt
        have c0 := (SA.out.cs (b := g20) (vs := [.int .i64 0, .int .u32 i, .int .u16 p, .string ⟨#[100]⟩]) (.head _)).cell 0 _ rfl; have c1 := (SA.out.cs (b := g20) (vs := [.int .i64 0, .int .u32 i, .int .u16 p, .string ⟨#[100]⟩]) (.head _)).cell 1 _ rfl; have c2 := (SA.out.cs (b := g20) (vs := [.int .i64 0, .int .u32 i, .int .u16 p, .string ⟨#[100]⟩]) (.head _)).cell 2 _ rfl; have c3 := (SA.out.cs (b := g20) (vs := [.int .i64 0, .int .u32 i, .int .u16 p, .string ⟨#[100]⟩]) (.head _)).cell 3 _ rfl; have cl := (SA.out.cs (b := g20) (vs := [.int .i64 0, .int .u32 i, .int .u16 p, .string ⟨#[100]⟩]) (.head _)).lt
        have d0 := (SA.out.cs (b := g18) (vs := [.int .i64 0, .int .u32 i, .int .u16 p, .string ⟨#[99]⟩]) (.tail _ (.head _))).cell 0 _ rfl; have d1 := (SA.out.cs (b := g18) (vs := [.int .i64 0, .int .u32 i, .int .u16 p, .string ⟨#[99]⟩]) (.tail _ (.head _))).cell 1 _ rfl; have d2 := (SA.out.cs (b := g18) (vs := [.int .i64 0, .int .u32 i, .int .u16 p, .string ⟨#[99]⟩]) (.tail _ (.head _))).cell 2 _ rfl; have d3 := (SA.out.cs (b := g18) (vs := [.int .i64 0, .int .u32 i, .int .u16 p, .string ⟨#[99]⟩]) (.tail _ (.head _))).cell 3 _ rfl; have dl := (SA.out.cs (b := g18) (vs := [.int .i64 0, .int .u32 i, .int .u16 p, .string ⟨#[99]⟩]) (.tail _ (.head _))).lt
        have b0 := (SA.out.cs (b := g16) (vs := [.int .i64 1, .int .u32 9, .int .u16 20000, .string ⟨#[97]⟩]) (.tail _ (.tail _ (.head _)))).cell 0 _ rfl; have b1 := (SA.out.cs (b := g16) (vs := [.int .i64 1, .int .u32 9, .int .u16 20000, .string ⟨#[97]⟩]) (.tail _ (.tail _ (.head _)))).cell 1 _ rfl; have b2 := (SA.out.cs (b := g16) (vs := [.int .i64 1, .int .u32 9, .int .u16 20000, .string ⟨#[97]⟩]) (.tail _ (.tail _ (.head _)))).cell 2 _ rfl; have b3 := (SA.out.cs (b := g16) (vs := [.int .i64 1, .int .u32 9, .int .u16 20000, .string ⟨#[97]⟩]) (.tail _ (.tail _ (.head _)))).cell 3 _ rfl; have bl := (SA.out.cs (b := g16) (vs := [.int .i64 1, .int .u32 9, .int .u16 20000, .string ⟨#[97]⟩]) (.tail _ (.tail _ (.head _)))).lt
        have k0 := (SA.out.cs (b := g15) (vs := [.int .u32 i, .int .u16 p]) (.tail _ (.tail _ (.tail _ (.head _))))).cell 0 _ rfl; have k1 := (SA.out.cs (b := g15) (vs := [.int .u32 i, .int .u16 p]) (.tail _ (.tail _ (.tail _ (.head _))))).cell 1 _ rfl; have kl := (SA.out.cs (b := g15) (vs := [.int .u32 i, .int .u16 p]) (.tail _ (.tail _ (.tail _ (.head _))))).lt
        have s : NN wN m_ (hC w10.heap.size [.int .i64 1, .int .u32 i, .int .u16 p, .string ⟨#[102]⟩] :: (hC g20 [.int .i64 0, .int .u32 i, .int .u16 p, .string ⟨#[100]⟩] :: hC g18 [.int .i64 0, .int .u32 i, .int .u16 p, .string ⟨#[99]⟩] :: hC g16 [.int .i64 1, .int .u32 9, .int .u16 20000, .string ⟨#[97]⟩] :: hC g15 [.int .u32 i, .int .u16 p] :: [])) _ (w10.alloc (.cells #[.int .i64 1, .int .u32 i, .int .u16 p, .string ⟨#[102]⟩] 42)) := SA.out.new [.int .i64 1, .int .u32 i, .int .u16 p, .string ⟨#[102]⟩] 42
        have SB := Lib.hid s.below
        clear s SA FA V8
        go_wp2
        go_ret
        exact ⟨rfl, hB.out.trans (SB.out.mono hB.out.size)⟩
end Go.Proofs.Ytdpgmdkclaahdaa.Ne
namespace Go.Proofs.Ytdpgmdkclaahdaa
open Go.Sort Go.RowKit Go.BigFrame Go.ChangeShapes Go.WideShapes Go.ChangeAt
open Go.ChangeMaps (open_string shut_string)
set_option linter.unusedVariables false
set_option linter.unusedSimpArgs false
theorem arrives_run (t i p : Int) (k : Bool) (w : World) (wa : (Lit.int .u8 t).wf = true) (wb : (Lit.int .u8 i).wf = true) (wc : (Lit.int .u8 p).wf = true) :
    Calls Try.prog 3 #[.int .u8 t, .int .u8 i, .int .u8 p, .bool k] w fun e w' => e = .returned (.bool true) ∧ Below w.heap.size w w' := Ne.arrives_walk t i p k w wa wb wc
theorem netArrives_own : ownKnob Try.prog.godebug = none := by kernel_rfl
theorem netArrives_laid : laidOutB Try.prog = true := by kernel_rfl
set_option maxRecDepth 100000 in
theorem netArrives_lifted (os : Os) (started : os.Started) (H : Type) (enc : TypeId × Value → H) :
    ReturnsInHanded {} Try.checked os 3 .any (Rows.netArrivesSpec.pre6 enc Try.prog Try.f3 Rows.netArrivesRow.domain false) (Rows.netArrivesSpec.post enc Try.prog Try.f3 false true false false) := by
  refine returnsInHanded_of_change (C := Try.checked) netArrives_own started (by kernel_rfl) Try.func3
    (ChangeSpec.witness6 (enc := enc) (C := Try.checked) false ⟨#[], #[.int .u8 0, .int .u8 0, .int .u8 0, .bool false], []⟩ 8 (by kernel_rfl) (by kernel_rfl) (by kernel_rfl) (by kernel_rfl)) ?_
  intro W base args ds gs before hval0 hW hcnd _
  have hval : ∀ (j : Nat) t v, Try.f3.params[j]? = some t → args[j]? = some v → Value.okWide Try.prog W .any base t v := hval0
  have hW' := hW
  obtain ⟨p, q, hA0, hV, rfl, hfz, hnd⟩ := hW
  have hA : DataW.TrodAll enc Try.prog W 0 (fun _ => true) true Try.f3.params.toList args.toList ds p := hA0
  rw [Try.params3] at hA hval
  obtain ⟨v0, vs0, d0, ds0, p0, q0, hargs, rfl, rfl, h0, r0⟩ := trodAll_cons hA
  obtain ⟨v1, vs1, d1, ds1, p1, q1, rfl, rfl, rfl, h1, r1⟩ := trodAll_cons r0
  obtain ⟨v2, vs2, d2, ds2, p2, q2, rfl, rfl, rfl, h2, r2⟩ := trodAll_cons r1
  obtain ⟨v3, vs3, d3, ds3, p3, q3, rfl, rfl, rfl, h3, r3⟩ := trodAll_cons r2
  obtain ⟨rfl, rfl, rfl⟩ := trodAll_nil r3
  obtain rfl : args = #[v0, v1, v2, v3] := by cases args; simp_all
  obtain ⟨rfl, rfl⟩ := trodVars_none hV
  obtain ⟨a0, rfl, rfl, rfl, w0⟩ := open_int Try.underlying5 (hval 0 5 v0 rfl rfl) h0
  obtain ⟨a1, rfl, rfl, rfl, w1⟩ := open_int Try.underlying5 (hval 1 5 v1 rfl rfl) h1
  obtain ⟨a2, rfl, rfl, rfl, w2⟩ := open_int Try.underlying5 (hval 2 5 v2 rfl rfl) h2
  obtain ⟨a3, rfl, rfl, rfl⟩ := open_bool Try.underlying4 (hval 3 4 v3 rfl rfl) h3
  clear hA0 hval0
  refine (arrives_run a0 a1 a2 a3 W w0 w1 w2).mono fun e W' ⟨he, bel⟩ => ?_
  subst he
  exact ⟨_, rfl, _, _, _, [], _, [], hW', trodAll_mk1 (shut_bool Try.underlying4 _), (trodAll_cons_mk (shut_int Try.underlying5 w0) (trodAll_cons_mk (shut_int Try.underlying5 w1) (trodAll_cons_mk (shut_int Try.underlying5 w2) (trodAll_cons_mk (shut_bool Try.underlying4 _) trodAll_mk0)))), rfl, bel.frame _, fun h => by cases h⟩
theorem netArrives_over : Rows.netArrivesRow.holds Try.pinned (OpenSpec.ofChange Rows.netArrivesSpec) :=
  OpenClaim.holds_of_wide 3 Try.f3 rfl rfl rfl rfl rfl rfl rfl ⟨rfl, rfl, rfl, rfl, rfl⟩ rfl rfl rfl rfl rfl (by kernel_rfl) Try.func3 (by kernel_rfl)
    (of_decide_eq_true (by kernel_rfl)) (by unfold Func.isWrapper; first | (rw [if_pos (by decide +kernel)]; kernel_rfl) | (rw [if_neg (by decide +kernel)]; exact ⟨rfl, rfl⟩))
    (fun os started H enc _ => netArrives_lifted os started H enc)
theorem netArrives_holds : Rows.NetArrivesSaid := netArrives_over
#print axioms netArrives_holds
end Go.Proofs.Ytdpgmdkclaahdaa
