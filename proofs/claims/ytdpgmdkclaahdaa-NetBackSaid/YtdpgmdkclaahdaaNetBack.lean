/- The statement NetBack: who is answered where it came from gets the answer, whatever its box; when the box begins anew, or forgets, it does not. No conditions. -/
import Derived.Test.YtdpgmdkclaahdaaNeEx
import Derived.ChangeOld
import Derived.ChangeMaps5
import Derived.ShutString
import Derived.OpenShut
import Derived.SizedLaws
namespace Go.Proofs.Ytdpgmdkclaahdaa.Ne
open Go.Sort Go.RowKit Go.BigFrame Go.ChangeShapes Go.WideShapes Go.ChangeAt
open Go.ChangeMaps (open_string shut_string)
set_option linter.unusedVariables false
set_option linter.unusedSimpArgs false

def baA (m f : Int) : Nt := ⟨[⟨1, 7, 0⟩, ⟨10, 7, 1⟩], [⟨m, f, 9, 50, 8, []⟩], 8, []⟩
def ba1 (m f : Int) : Nt := (sendP (baA m f) 0 2 1 7 ⟨#[97, 115, 107]⟩).2
def ba2 (m f : Int) : Nt := (delP (ba1 m f) 1 0).2
def ba3 (m f : Int) : Nt := (sendP (ba2 m f) 1 1 9 20000 ⟨#[97, 110, 115, 119, 101, 114]⟩).2
def ba4 (m f : Int) : Nt := (rebP (ba3 m f) 1 8).2
theorem baOk (m f : Int) : OkH (baA m f) := by
  intro h hh
  simp only [baA, List.mem_cons, List.not_mem_nil, or_false] at hh
  rcases hh with rfl | rfl
  · exact ⟨by decide, by decide, by simp [baA]⟩
  · exact ⟨by decide, by decide, by simp [baA]⟩
structure BaF (m f : Int) : Prop where
  n : newN [⟨1, 7, 0⟩, ⟨10, 7, 1⟩] [⟨m, f, 9, 50, 8⟩] 8 = some (baA m f)
  e1 : (sendP (baA m f) 0 2 1 7 ⟨#[97, 115, 107]⟩).1 = 0
  v2 : delV (ba1 m f) 1 0 = .tuple #[.agg #[.int .i64 1, .int .u32 9, .int .u16 20000, .string ⟨#[97, 115, 107]⟩], .int .i64 0]
  e3 : (sendP (ba2 m f) 1 1 9 20000 ⟨#[97, 110, 115, 119, 101, 114]⟩).1 = 0
  r : (rebP (ba3 m f) 1 8).1 = 0
  va : delV (ba3 m f) 2 0 = .tuple #[.agg #[.int .i64 2, .int .u32 1, .int .u16 7, .string ⟨#[97, 110, 115, 119, 101, 114]⟩], .int .i64 0]
  vb : delV (ba3 m f) 90 0 = .tuple #[.agg #[.int .i64 0, .int .u32 1, .int .u16 7, .string ⟨#[97, 110, 115, 119, 101, 114]⟩], .int .i64 0]
  vc : delV (ba4 m f) 2 0 = .tuple #[.agg #[.int .i64 0, .int .u32 1, .int .u16 7, .string ⟨#[97, 110, 115, 119, 101, 114]⟩], .int .i64 0]
  vd : delV (ba4 m f) 90 0 = .tuple #[.agg #[.int .i64 0, .int .u32 1, .int .u16 7, .string ⟨#[97, 110, 115, 119, 101, 114]⟩], .int .i64 0]
theorem baF {m f : Int} (hm : m = 0 ∨ m = 1 ∨ m = 2) (hf : f = 0 ∨ f = 1 ∨ f = 2) : BaF m f := by
  rcases hm with rfl | rfl | rfl <;> rcases hf with rfl | rfl | rfl <;> exact ⟨by kernel_rfl, by kernel_rfl, by kernel_rfl, by kernel_rfl, by kernel_rfl, by kernel_rfl, by kernel_rfl, by kernel_rfl, by kernel_rfl⟩
set_option maxHeartbeats 12800000 in
set_option maxRecDepth 100000 in
theorem back_walk (t : Int) (an lt : Bool) (w : World) (wa : (Lit.int .u8 t).wf = true) :
    Calls Try.prog 4 #[.int .u8 t, .bool an, .bool lt] w fun e w' => e = .returned (.bool true) ∧ Below w.heap.size w w' := by
  obtain ⟨ha0, ha1⟩ := bounds_u8 wa
  obtain ⟨m, hm⟩ : ∃ m, t % 3 = m := ⟨_, rfl⟩
  obtain ⟨f, hf⟩ : ∃ f, t / 3 % 3 = f := ⟨_, rfl⟩
  have hm3 : t.tmod 3 = m := by rw [tmod_pos _ _ ha0]; exact hm
  have hf3 : (t / 3).tmod 3 = f := by rw [tmod_pos _ _ (by omega)]; exact hf
  have m8 := IntWalk.u8_in m ⟨by omega, by omega⟩
  have m64 := IntWalk.i64_in m ⟨by omega, by omega⟩
  have f8 := IntWalk.u8_in f ⟨by omega, by omega⟩
  have f64 := IntWalk.i64_in f ⟨by omega, by omega⟩
  have t8 : t.tdiv 3 % 256 % 3 = f := by rw [Int.tdiv_eq_ediv_of_nonneg ha0]; omega
  have FA := Lib.hid (baF (m := m) (f := f) (by omega) (by omega))
  clear hm hf wa ha1
  go_enter Try.func4, Try.ntmps4
  go_wp2_with fail
  refine (ex_any _).mono ?_; rintro e x0 ⟨rfl, b0⟩
  have hT : Hid (Cs x0.heap.size [.int .i64 m, .int .i64 f] ((((x0.alloc (.cells #[.int .i64 m, .int .i64 f] 24)).alloc (.cells #[.int .u32 1, .int .u16 7] 28)).alloc (.cells #[.int .u32 1, .int .u16 7, .int .i64 0, .int .u32 10, .int .u16 7, .int .i64 1] 34)).alloc (.cells #[.int .i64 m, .int .i64 f, .int .u32 9, .int .u64 50, .int .i64 8] 38))) := ((((Cs.new x0 [.int .i64 m, .int .i64 f] 24).alloc _).alloc _).alloc _)
  have hA : Hid (Cs (x0.heap.size + 1) [.int .u32 1, .int .u16 7] ((((x0.alloc (.cells #[.int .i64 m, .int .i64 f] 24)).alloc (.cells #[.int .u32 1, .int .u16 7] 28)).alloc (.cells #[.int .u32 1, .int .u16 7, .int .i64 0, .int .u32 10, .int .u16 7, .int .i64 1] 34)).alloc (.cells #[.int .i64 m, .int .i64 f, .int .u32 9, .int .u64 50, .int .i64 8] 38))) := by
    have e : (x0.alloc (.cells #[.int .i64 m, .int .i64 f] 24)).heap.size = x0.heap.size + 1 := by simp
    rw [← e]
    exact (((Cs.new (x0.alloc (.cells #[.int .i64 m, .int .i64 f] 24)) [.int .u32 1, .int .u16 7] 28).alloc _).alloc _)
  have hR : Hid (RdE cho 3 ((((x0.alloc (.cells #[.int .i64 m, .int .i64 f] 24)).alloc (.cells #[.int .u32 1, .int .u16 7] 28)).alloc (.cells #[.int .u32 1, .int .u16 7, .int .i64 0, .int .u32 10, .int .u16 7, .int .i64 1] 34)).alloc (.cells #[.int .i64 m, .int .i64 f, .int .u32 9, .int .u64 50, .int .i64 8] 38)) (some ⟨x0.heap.size + 1 + 1, 0, none⟩) [⟨1, 7, 0⟩, ⟨10, 7, 1⟩]) := by
    have e : ((x0.alloc (.cells #[.int .i64 m, .int .i64 f] 24)).alloc (.cells #[.int .u32 1, .int .u16 7] 28)).heap.size = x0.heap.size + 1 + 1 := by simp
    rw [← e]
    exact rd_cs cho_enc ((Cs.new ((x0.alloc (.cells #[.int .i64 m, .int .i64 f] 24)).alloc (.cells #[.int .u32 1, .int .u16 7] 28)) [.int .u32 1, .int .u16 7, .int .i64 0, .int .u32 10, .int .u16 7, .int .i64 1] 34).alloc _)
  have hS : Hid (RdE csp 5 ((((x0.alloc (.cells #[.int .i64 m, .int .i64 f] 24)).alloc (.cells #[.int .u32 1, .int .u16 7] 28)).alloc (.cells #[.int .u32 1, .int .u16 7, .int .i64 0, .int .u32 10, .int .u16 7, .int .i64 1] 34)).alloc (.cells #[.int .i64 m, .int .i64 f, .int .u32 9, .int .u64 50, .int .i64 8] 38)) (some ⟨x0.heap.size + 1 + 1 + 1, 0, none⟩) [⟨m, f, 9, 50, 8⟩]) := by
    have e : (((x0.alloc (.cells #[.int .i64 m, .int .i64 f] 24)).alloc (.cells #[.int .u32 1, .int .u16 7] 28)).alloc (.cells #[.int .u32 1, .int .u16 7, .int .i64 0, .int .u32 10, .int .u16 7, .int .i64 1] 34)).heap.size = x0.heap.size + 1 + 1 + 1 := by simp
    rw [← e]
    exact rd_cs csp_enc (Cs.new (((x0.alloc (.cells #[.int .i64 m, .int .i64 f] 24)).alloc (.cells #[.int .u32 1, .int .u16 7] 28)).alloc (.cells #[.int .u32 1, .int .u16 7, .int .i64 0, .int .u32 10, .int .u16 7, .int .i64 1] 34)) [.int .i64 m, .int .i64 f, .int .u32 9, .int .u64 50, .int .i64 8] 38)
  have hB : Hid (Below w.heap.size w ((((x0.alloc (.cells #[.int .i64 m, .int .i64 f] 24)).alloc (.cells #[.int .u32 1, .int .u16 7] 28)).alloc (.cells #[.int .u32 1, .int .u16 7, .int .i64 0, .int .u32 10, .int .u16 7, .int .i64 1] 34)).alloc (.cells #[.int .i64 m, .int .i64 f, .int .u32 9, .int .u64 50, .int .i64 8] 38))) := ((((b0.alloc (by have := b0.size; simp; omega) _).alloc (by have := b0.size; simp; omega) _).alloc (by have := b0.size; simp; omega) _).alloc (by have := b0.size; simp; omega) _)
  clear b0
  go_wp2_with fail
  generalize ((((x0.alloc (.cells #[.int .i64 m, .int .i64 f] 24)).alloc (.cells #[.int .u32 1, .int .u16 7] 28)).alloc (.cells #[.int .u32 1, .int .u16 7, .int .i64 0, .int .u32 10, .int .u16 7, .int .i64 1] 34)).alloc (.cells #[.int .i64 m, .int .i64 f, .int .u32 9, .int .u64 50, .int .i64 8] 38)) = wN at *
  generalize x0.heap.size = ga at *
  refine (new_l FA.out.n (some ⟨ga + 1 + 1, 0, none⟩) 2 (some ⟨ga + 1 + 1 + 1, 0, none⟩) 1 (by simp) (by simp) (by simp) (by simp) wN hR.out hS.out).mono ?_; rintro e w0 ⟨m_, rfl, s⟩
  clear hR hS
  have SA := Lib.hid s
  clear s
  clear hT hm3 hf3 m8 m64 f8 f64 t8
  have a0 := (hA.out.keep SA.out.below).cell 0 _ rfl; have a1 := (hA.out.keep SA.out.below).cell 1 _ rfl; have al := (hA.out.keep SA.out.below).lt
  go_wp2_with fail
  refine (send_l (n := baA m f) 0 2 1 7 ⟨#[97, 115, 107]⟩ FA.out.e1 (show _ = ba1 m f from rfl) (by decide) (by decide) (baOk m f) SA.out).mono ?_; rintro e w1 ⟨rfl, s⟩
  clear SA
  clear a0 a1 al
  have SA := Lib.hid s
  clear s
  go_wp2_with fail
  refine (del_l (n := ba1 m f) 1 0 FA.out.v2 (show _ = ba2 m f from rfl) (by decide) (by decide) SA.out).mono ?_; rintro e w2 ⟨rfl, s⟩
  clear SA
  have SA := Lib.hid s
  clear s
  have s : NN wN m_ (hC w2.heap.size [.int .i64 1, .int .u32 9, .int .u16 20000, .string ⟨#[97, 115, 107]⟩] :: ([])) _ (w2.alloc (.cells #[.int .i64 1, .int .u32 9, .int .u16 20000, .string ⟨#[97, 115, 107]⟩] 42)) := SA.out.new [.int .i64 1, .int .u32 9, .int .u16 20000, .string ⟨#[97, 115, 107]⟩] 42
  clear SA
  go_upto_region 11 with fail
  generalize (w2.alloc (.cells #[.int .i64 1, .int .u32 9, .int .u16 20000, .string ⟨#[97, 115, 107]⟩] 42)) = v2 at *
  generalize w2.heap.size = g13 at *
  have SA := Lib.hid s
  clear s
  have c0 := (SA.out.cs (b := g13) (vs := [.int .i64 1, .int .u32 9, .int .u16 20000, .string ⟨#[97, 115, 107]⟩]) (.head _)).cell 0 _ rfl; have c1 := (SA.out.cs (b := g13) (vs := [.int .i64 1, .int .u32 9, .int .u16 20000, .string ⟨#[97, 115, 107]⟩]) (.head _)).cell 1 _ rfl; have c2 := (SA.out.cs (b := g13) (vs := [.int .i64 1, .int .u32 9, .int .u16 20000, .string ⟨#[97, 115, 107]⟩]) (.head _)).cell 2 _ rfl; have c3 := (SA.out.cs (b := g13) (vs := [.int .i64 1, .int .u32 9, .int .u16 20000, .string ⟨#[97, 115, 107]⟩]) (.head _)).cell 3 _ rfl; have cl := (SA.out.cs (b := g13) (vs := [.int .i64 1, .int .u32 9, .int .u16 20000, .string ⟨#[97, 115, 107]⟩]) (.head _)).lt
  go_wp2_with fail
  refine (send_l (n := ba2 m f) 1 1 9 20000 ⟨#[97, 110, 115, 119, 101, 114]⟩ FA.out.e3 (show _ = ba3 m f from rfl) (by decide) (by decide) (((baOk m f).send _ _ _ _ _).del _ _) SA.out).mono ?_; rintro e w3 ⟨rfl, s⟩
  clear SA
  clear c0 c1 c2 c3 cl
  have SA := Lib.hid s
  clear s
  cases an <;> cases lt
  · as_aux_lemma =>
    go_wp2_with fail
    refine (del_l (n := ba3 m f) 2 0 FA.out.va rfl (by decide) (by decide) SA.out).mono ?_; rintro e w4 ⟨rfl, s⟩
    clear SA
    have SA := Lib.hid s
    clear s
    have a0 := (hA.out.keep SA.out.below).cell 0 _ rfl; have a1 := (hA.out.keep SA.out.below).cell 1 _ rfl; have al := (hA.out.keep SA.out.below).lt
    have c0 := (SA.out.cs (b := g13) (vs := [.int .i64 1, .int .u32 9, .int .u16 20000, .string ⟨#[97, 115, 107]⟩]) (.head _)).cell 0 _ rfl; have c1 := (SA.out.cs (b := g13) (vs := [.int .i64 1, .int .u32 9, .int .u16 20000, .string ⟨#[97, 115, 107]⟩]) (.head _)).cell 1 _ rfl; have c2 := (SA.out.cs (b := g13) (vs := [.int .i64 1, .int .u32 9, .int .u16 20000, .string ⟨#[97, 115, 107]⟩]) (.head _)).cell 2 _ rfl; have c3 := (SA.out.cs (b := g13) (vs := [.int .i64 1, .int .u32 9, .int .u16 20000, .string ⟨#[97, 115, 107]⟩]) (.head _)).cell 3 _ rfl; have cl := (SA.out.cs (b := g13) (vs := [.int .i64 1, .int .u32 9, .int .u16 20000, .string ⟨#[97, 115, 107]⟩]) (.head _)).lt
    have s : NN wN m_ (hC w4.heap.size [.int .i64 2, .int .u32 1, .int .u16 7, .string ⟨#[97, 110, 115, 119, 101, 114]⟩] :: (hC g13 [.int .i64 1, .int .u32 9, .int .u16 20000, .string ⟨#[97, 115, 107]⟩] :: [])) _ (w4.alloc (.cells #[.int .i64 2, .int .u32 1, .int .u16 7, .string ⟨#[97, 110, 115, 119, 101, 114]⟩] 42)) := SA.out.new [.int .i64 2, .int .u32 1, .int .u16 7, .string ⟨#[97, 110, 115, 119, 101, 114]⟩] 42
    have SB := Lib.hid s.below
    clear s SA FA
    go_wp2
    go_ret
    exact ⟨rfl, hB.out.trans (SB.out.mono hB.out.size)⟩
  · as_aux_lemma =>
    go_wp2_with fail
    refine (del_l (n := ba3 m f) 90 0 FA.out.vb rfl (by decide) (by decide) SA.out).mono ?_; rintro e w4 ⟨rfl, s⟩
    clear SA
    have SA := Lib.hid s
    clear s
    have a0 := (hA.out.keep SA.out.below).cell 0 _ rfl; have a1 := (hA.out.keep SA.out.below).cell 1 _ rfl; have al := (hA.out.keep SA.out.below).lt
    have c0 := (SA.out.cs (b := g13) (vs := [.int .i64 1, .int .u32 9, .int .u16 20000, .string ⟨#[97, 115, 107]⟩]) (.head _)).cell 0 _ rfl; have c1 := (SA.out.cs (b := g13) (vs := [.int .i64 1, .int .u32 9, .int .u16 20000, .string ⟨#[97, 115, 107]⟩]) (.head _)).cell 1 _ rfl; have c2 := (SA.out.cs (b := g13) (vs := [.int .i64 1, .int .u32 9, .int .u16 20000, .string ⟨#[97, 115, 107]⟩]) (.head _)).cell 2 _ rfl; have c3 := (SA.out.cs (b := g13) (vs := [.int .i64 1, .int .u32 9, .int .u16 20000, .string ⟨#[97, 115, 107]⟩]) (.head _)).cell 3 _ rfl; have cl := (SA.out.cs (b := g13) (vs := [.int .i64 1, .int .u32 9, .int .u16 20000, .string ⟨#[97, 115, 107]⟩]) (.head _)).lt
    have s : NN wN m_ (hC w4.heap.size [.int .i64 0, .int .u32 1, .int .u16 7, .string ⟨#[97, 110, 115, 119, 101, 114]⟩] :: (hC g13 [.int .i64 1, .int .u32 9, .int .u16 20000, .string ⟨#[97, 115, 107]⟩] :: [])) _ (w4.alloc (.cells #[.int .i64 0, .int .u32 1, .int .u16 7, .string ⟨#[97, 110, 115, 119, 101, 114]⟩] 42)) := SA.out.new [.int .i64 0, .int .u32 1, .int .u16 7, .string ⟨#[97, 110, 115, 119, 101, 114]⟩] 42
    have SB := Lib.hid s.below
    clear s SA FA
    go_wp2
    go_ret
    exact ⟨rfl, hB.out.trans (SB.out.mono hB.out.size)⟩
  · as_aux_lemma =>
    go_wp2_with fail
    refine (reb_l (n := ba3 m f) 1 8 FA.out.r (show _ = ba4 m f from rfl) SA.out).mono ?_; rintro e w4 ⟨rfl, s⟩
    clear SA
    have SA := Lib.hid s
    clear s
    go_wp2_with fail
    refine (del_l (n := ba4 m f) 2 0 FA.out.vc rfl (by decide) (by decide) SA.out).mono ?_; rintro e w5 ⟨rfl, s⟩
    clear SA
    have SA := Lib.hid s
    clear s
    have a0 := (hA.out.keep SA.out.below).cell 0 _ rfl; have a1 := (hA.out.keep SA.out.below).cell 1 _ rfl; have al := (hA.out.keep SA.out.below).lt
    have c0 := (SA.out.cs (b := g13) (vs := [.int .i64 1, .int .u32 9, .int .u16 20000, .string ⟨#[97, 115, 107]⟩]) (.head _)).cell 0 _ rfl; have c1 := (SA.out.cs (b := g13) (vs := [.int .i64 1, .int .u32 9, .int .u16 20000, .string ⟨#[97, 115, 107]⟩]) (.head _)).cell 1 _ rfl; have c2 := (SA.out.cs (b := g13) (vs := [.int .i64 1, .int .u32 9, .int .u16 20000, .string ⟨#[97, 115, 107]⟩]) (.head _)).cell 2 _ rfl; have c3 := (SA.out.cs (b := g13) (vs := [.int .i64 1, .int .u32 9, .int .u16 20000, .string ⟨#[97, 115, 107]⟩]) (.head _)).cell 3 _ rfl; have cl := (SA.out.cs (b := g13) (vs := [.int .i64 1, .int .u32 9, .int .u16 20000, .string ⟨#[97, 115, 107]⟩]) (.head _)).lt
    have s : NN wN m_ (hC w5.heap.size [.int .i64 0, .int .u32 1, .int .u16 7, .string ⟨#[97, 110, 115, 119, 101, 114]⟩] :: (hC g13 [.int .i64 1, .int .u32 9, .int .u16 20000, .string ⟨#[97, 115, 107]⟩] :: [])) _ (w5.alloc (.cells #[.int .i64 0, .int .u32 1, .int .u16 7, .string ⟨#[97, 110, 115, 119, 101, 114]⟩] 42)) := SA.out.new [.int .i64 0, .int .u32 1, .int .u16 7, .string ⟨#[97, 110, 115, 119, 101, 114]⟩] 42
    have SB := Lib.hid s.below
    clear s SA FA
    go_wp2
    go_ret
    exact ⟨rfl, hB.out.trans (SB.out.mono hB.out.size)⟩
  · as_aux_lemma =>
    go_wp2_with fail
    refine (reb_l (n := ba3 m f) 1 8 FA.out.r (show _ = ba4 m f from rfl) SA.out).mono ?_; rintro e w4 ⟨rfl, s⟩
    clear SA
    have SA := Lib.hid s
    clear s
    go_wp2_with fail
    refine (del_l (n := ba4 m f) 90 0 FA.out.vd rfl (by decide) (by decide) SA.out).mono ?_; rintro e w5 ⟨rfl, s⟩
    clear SA
    have SA := Lib.hid s
    clear s
    have a0 := (hA.out.keep SA.out.below).cell 0 _ rfl; have a1 := (hA.out.keep SA.out.below).cell 1 _ rfl; have al := (hA.out.keep SA.out.below).lt
    have c0 := (SA.out.cs (b := g13) (vs := [.int .i64 1, .int .u32 9, .int .u16 20000, .string ⟨#[97, 115, 107]⟩]) (.head _)).cell 0 _ rfl; have c1 := (SA.out.cs (b := g13) (vs := [.int .i64 1, .int .u32 9, .int .u16 20000, .string ⟨#[97, 115, 107]⟩]) (.head _)).cell 1 _ rfl; have c2 := (SA.out.cs (b := g13) (vs := [.int .i64 1, .int .u32 9, .int .u16 20000, .string ⟨#[97, 115, 107]⟩]) (.head _)).cell 2 _ rfl; have c3 := (SA.out.cs (b := g13) (vs := [.int .i64 1, .int .u32 9, .int .u16 20000, .string ⟨#[97, 115, 107]⟩]) (.head _)).cell 3 _ rfl; have cl := (SA.out.cs (b := g13) (vs := [.int .i64 1, .int .u32 9, .int .u16 20000, .string ⟨#[97, 115, 107]⟩]) (.head _)).lt
    have s : NN wN m_ (hC w5.heap.size [.int .i64 0, .int .u32 1, .int .u16 7, .string ⟨#[97, 110, 115, 119, 101, 114]⟩] :: (hC g13 [.int .i64 1, .int .u32 9, .int .u16 20000, .string ⟨#[97, 115, 107]⟩] :: [])) _ (w5.alloc (.cells #[.int .i64 0, .int .u32 1, .int .u16 7, .string ⟨#[97, 110, 115, 119, 101, 114]⟩] 42)) := SA.out.new [.int .i64 0, .int .u32 1, .int .u16 7, .string ⟨#[97, 110, 115, 119, 101, 114]⟩] 42
    have SB := Lib.hid s.below
    clear s SA FA
    go_wp2
    go_ret
    exact ⟨rfl, hB.out.trans (SB.out.mono hB.out.size)⟩
end Go.Proofs.Ytdpgmdkclaahdaa.Ne
namespace Go.Proofs.Ytdpgmdkclaahdaa
open Go.Sort Go.RowKit Go.BigFrame Go.ChangeShapes Go.WideShapes Go.ChangeAt
open Go.ChangeMaps (open_string shut_string)
set_option linter.unusedVariables false
set_option linter.unusedSimpArgs false
theorem back_run (t : Int) (a b : Bool) (w : World) (wa : (Lit.int .u8 t).wf = true) :
    Calls Try.prog 4 #[.int .u8 t, .bool a, .bool b] w fun e w' => e = .returned (.bool true) ∧ Below w.heap.size w w' := Ne.back_walk t a b w wa
theorem netBack_own : ownKnob Try.prog.godebug = none := by kernel_rfl
theorem netBack_laid : laidOutB Try.prog = true := by kernel_rfl
set_option maxRecDepth 100000 in
theorem netBack_lifted (os : Os) (started : os.Started) (H : Type) (enc : TypeId × Value → H) :
    ReturnsInHanded {} Try.checked os 4 .any (Rows.netBackSpec.pre6 enc Try.prog Try.f4 Rows.netBackRow.domain false) (Rows.netBackSpec.post enc Try.prog Try.f4 false true false false) := by
  refine returnsInHanded_of_change (C := Try.checked) netBack_own started (by kernel_rfl) Try.func4
    (ChangeSpec.witness6 (enc := enc) (C := Try.checked) false ⟨#[], #[.int .u8 0, .bool false, .bool false], []⟩ 8 (by kernel_rfl) (by kernel_rfl) (by kernel_rfl) (by kernel_rfl)) ?_
  intro W base args ds gs before hval0 hW hcnd _
  have hval : ∀ (j : Nat) t v, Try.f4.params[j]? = some t → args[j]? = some v → Value.okWide Try.prog W .any base t v := hval0
  have hW' := hW
  obtain ⟨p, q, hA0, hV, rfl, hfz, hnd⟩ := hW
  have hA : DataW.TrodAll enc Try.prog W 0 (fun _ => true) true Try.f4.params.toList args.toList ds p := hA0
  rw [Try.params4] at hA hval
  obtain ⟨v0, vs0, d0, ds0, p0, q0, hargs, rfl, rfl, h0, r0⟩ := trodAll_cons hA
  obtain ⟨v1, vs1, d1, ds1, p1, q1, rfl, rfl, rfl, h1, r1⟩ := trodAll_cons r0
  obtain ⟨v2, vs2, d2, ds2, p2, q2, rfl, rfl, rfl, h2, r2⟩ := trodAll_cons r1
  obtain ⟨rfl, rfl, rfl⟩ := trodAll_nil r2
  obtain rfl : args = #[v0, v1, v2] := by cases args; simp_all
  obtain ⟨rfl, rfl⟩ := trodVars_none hV
  obtain ⟨a0, rfl, rfl, rfl, w0⟩ := open_int Try.underlying5 (hval 0 5 v0 rfl rfl) h0
  obtain ⟨a1, rfl, rfl, rfl⟩ := open_bool Try.underlying4 (hval 1 4 v1 rfl rfl) h1
  obtain ⟨a2, rfl, rfl, rfl⟩ := open_bool Try.underlying4 (hval 2 4 v2 rfl rfl) h2
  clear hA0 hval0
  refine (back_run a0 a1 a2 W w0).mono fun e W' ⟨he, bel⟩ => ?_
  subst he
  exact ⟨_, rfl, _, _, _, [], _, [], hW', trodAll_mk1 (shut_bool Try.underlying4 _), (trodAll_cons_mk (shut_int Try.underlying5 w0) (trodAll_cons_mk (shut_bool Try.underlying4 _) (trodAll_cons_mk (shut_bool Try.underlying4 _) trodAll_mk0))), rfl, bel.frame _, fun h => by cases h⟩
theorem netBack_over : Rows.netBackRow.holds Try.pinned (OpenSpec.ofChange Rows.netBackSpec) :=
  OpenClaim.holds_of_wide 4 Try.f4 rfl rfl rfl rfl rfl rfl rfl ⟨rfl, rfl, rfl, rfl, rfl⟩ rfl rfl rfl rfl rfl (by kernel_rfl) Try.func4 (by kernel_rfl)
    (of_decide_eq_true (by kernel_rfl)) (by unfold Func.isWrapper; first | (rw [if_pos (by decide +kernel)]; kernel_rfl) | (rw [if_neg (by decide +kernel)]; exact ⟨rfl, rfl⟩))
    (fun os started H enc _ => netBack_lifted os started H enc)
theorem netBack_holds : Rows.NetBackSaid := netBack_over
#print axioms netBack_holds
end Go.Proofs.Ytdpgmdkclaahdaa
