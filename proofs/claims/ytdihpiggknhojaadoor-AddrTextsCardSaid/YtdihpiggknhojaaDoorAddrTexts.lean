/- The statement AddrTexts: what is no address's text is refused, for each of the eighteen texts and every address. No conditions but the row's own: the library's tables lie as the program's text lays them. -/
import Derived.Test.YtdihpiggknhojaaDoorAddrEx
import Derived.Test.YtdihpiggknhojaaDoorAddrLaid
import Derived.Test.YtdihpiggknhojaaDoorAddrSmall
import Derived.Test.YtdihpiggknhojaaDoorPackLess
import Derived.SevenTiedAt
import Derived.ChangeOld
import Derived.ChangeMaps5
import Derived.ShutString
import Derived.OpenShut
import Derived.SizedLaws
import Derived.Lib.SmallJoins
import Derived.Lib.QuietBelow
import Derived.BigQuiet
namespace Go.Proofs.YtdihpiggknhojaaDoor
open Go.Sort Go.RowKit Go.BigFrame Go.ChangeShapes Go.WideShapes Go.ChangeAt
open Go.ChangeMaps (open_string shut_string)
set_option linter.unusedVariables false
set_option linter.unusedSimpArgs false

def strs (T : ByteArray) : List ByteArray := [⟨#[]⟩, ⟨#[49, 46, 50, 46, 51, 58, 52]⟩, ⟨#[49, 46, 50, 46, 51, 46, 52, 46, 53, 58, 54]⟩, ⟨#[49, 46, 50, 46, 51, 46, 50, 53, 54, 58, 55]⟩, ⟨#[49, 46, 50, 46, 51, 46, 52, 58, 54, 53, 53, 51, 54]⟩, ⟨#[48, 49, 46, 50, 46, 51, 46, 52, 58, 53]⟩, ⟨#[49, 46, 50, 46, 51, 46, 52, 58, 48, 53]⟩, ⟨#[49, 46, 50, 46, 51, 46, 52]⟩, ⟨#[49, 46, 50, 46, 51, 46, 52, 58]⟩, ⟨#[46, 50, 46, 51, 46, 52, 58, 53]⟩, ⟨#[49, 46, 50, 46, 51, 46, 52, 58, 43, 53]⟩, ⟨#[45, 49, 46, 50, 46, 51, 46, 52, 58, 53]⟩, ⟨#[32]⟩ ++ T, T ++ ⟨#[32]⟩, T ++ T, ⟨#[49, 58, 50, 46, 51, 46, 52, 46, 53]⟩, ⟨#[49, 46, 50, 46, 51, 46, 52, 58, 53, 58, 54]⟩, ⟨#[57, 57, 57, 57, 57, 57, 57, 57, 57, 57, 57, 57, 57, 57, 57, 57, 57, 57, 57, 57, 46, 50, 46, 51, 46, 52, 58, 53]⟩]
theorem strs_len (T : ByteArray) : (strs T).length = 18 := rfl
theorem strs_none (ip port : Nat) (h1 : ip < 4294967296) (h2 : port < 65536) (q : Nat) (h : q < 18) : rdL ((strs (atx ip port)).getD q ⟨#[]⟩).data.toList = none := by
  have hc := txtL_count ip port
  match q, h with
  | 0, _ => show rdL (⟨#[]⟩ : ByteArray).data.toList = none; decide +kernel
  | 1, _ => show rdL (⟨#[49, 46, 50, 46, 51, 58, 52]⟩ : ByteArray).data.toList = none; decide +kernel
  | 2, _ => show rdL (⟨#[49, 46, 50, 46, 51, 46, 52, 46, 53, 58, 54]⟩ : ByteArray).data.toList = none; decide +kernel
  | 3, _ => show rdL (⟨#[49, 46, 50, 46, 51, 46, 50, 53, 54, 58, 55]⟩ : ByteArray).data.toList = none; decide +kernel
  | 4, _ => show rdL (⟨#[49, 46, 50, 46, 51, 46, 52, 58, 54, 53, 53, 51, 54]⟩ : ByteArray).data.toList = none; decide +kernel
  | 5, _ => show rdL (⟨#[48, 49, 46, 50, 46, 51, 46, 52, 58, 53]⟩ : ByteArray).data.toList = none; decide +kernel
  | 6, _ => show rdL (⟨#[49, 46, 50, 46, 51, 46, 52, 58, 48, 53]⟩ : ByteArray).data.toList = none; decide +kernel
  | 7, _ => show rdL (⟨#[49, 46, 50, 46, 51, 46, 52]⟩ : ByteArray).data.toList = none; decide +kernel
  | 8, _ => show rdL (⟨#[49, 46, 50, 46, 51, 46, 52, 58]⟩ : ByteArray).data.toList = none; decide +kernel
  | 9, _ => show rdL (⟨#[46, 50, 46, 51, 46, 52, 58, 53]⟩ : ByteArray).data.toList = none; decide +kernel
  | 10, _ => show rdL (⟨#[49, 46, 50, 46, 51, 46, 52, 58, 43, 53]⟩ : ByteArray).data.toList = none; decide +kernel
  | 11, _ => show rdL (⟨#[45, 49, 46, 50, 46, 51, 46, 52, 58, 53]⟩ : ByteArray).data.toList = none; decide +kernel
  | 12, _ => exact rdL_mem 32 (by show (32 : UInt8) ∈ ((⟨#[32]⟩ : ByteArray) ++ atx ip port).data.toList; rw [ba_append]; simp) (by decide)
  | 13, _ => exact rdL_mem 32 (by show (32 : UInt8) ∈ (atx ip port ++ (⟨#[32]⟩ : ByteArray)).data.toList; rw [ba_append]; simp) (by decide)
  | 14, _ => exact rdL_count (by show List.count 58 (atx ip port ++ atx ip port).data.toList ≠ 1; rw [ba_append, atx_data, List.count_append, hc]; omega)
  | 15, _ => show rdL (⟨#[49, 58, 50, 46, 51, 46, 52, 46, 53]⟩ : ByteArray).data.toList = none; decide +kernel
  | 16, _ => show rdL (⟨#[49, 46, 50, 46, 51, 46, 52, 58, 53, 58, 54]⟩ : ByteArray).data.toList = none; decide +kernel
  | 17, _ => show rdL (⟨#[57, 57, 57, 57, 57, 57, 57, 57, 57, 57, 57, 57, 57, 57, 57, 57, 57, 57, 57, 57, 46, 50, 46, 51, 46, 52, 58, 53]⟩ : ByteArray).data.toList = none; decide +kernel
  | n + 18, h => exact absurd h (by omega)
theorem strs_size (T : ByteArray) (q : Nat) (h : T.size ≤ 21) : ((strs T).getD q ⟨#[]⟩).size ≤ 42 := by
  have hall : ∀ s ∈ strs T, s.size ≤ 42 := by
    intro s hs
    simp only [strs, List.mem_cons, List.not_mem_nil, or_false] at hs
    rcases hs with rfl | rfl | rfl | rfl | rfl | rfl | rfl | rfl | rfl | rfl | rfl | rfl | rfl | rfl | rfl | rfl | rfl | rfl
    all_goals (first | (simp only [ByteArray.size_append, one_size]; omega) | (simp [ByteArray.size]))
  by_cases hq : q < (strs T).length
  · rw [List.getD_eq_getElem?_getD, List.getElem?_eq_getElem hq]
    exact hall _ (List.getElem_mem hq)
  · rw [List.getD_eq_getElem?_getD, List.getElem?_eq_none (by omega)]
    exact Nat.zero_le _
theorem strs_get (T S : ByteArray) (q : Nat) (h : q < 18) (hS : (strs T).getD q ⟨#[]⟩ = S) (h2 : q < ([Value.string ⟨#[]⟩, Value.string ⟨#[49, 46, 50, 46, 51, 58, 52]⟩, Value.string ⟨#[49, 46, 50, 46, 51, 46, 52, 46, 53, 58, 54]⟩, Value.string ⟨#[49, 46, 50, 46, 51, 46, 50, 53, 54, 58, 55]⟩, Value.string ⟨#[49, 46, 50, 46, 51, 46, 52, 58, 54, 53, 53, 51, 54]⟩, Value.string ⟨#[48, 49, 46, 50, 46, 51, 46, 52, 58, 53]⟩, Value.string ⟨#[49, 46, 50, 46, 51, 46, 52, 58, 48, 53]⟩, Value.string ⟨#[49, 46, 50, 46, 51, 46, 52]⟩, Value.string ⟨#[49, 46, 50, 46, 51, 46, 52, 58]⟩, Value.string ⟨#[46, 50, 46, 51, 46, 52, 58, 53]⟩, Value.string ⟨#[49, 46, 50, 46, 51, 46, 52, 58, 43, 53]⟩, Value.string ⟨#[45, 49, 46, 50, 46, 51, 46, 52, 58, 53]⟩, Value.string (⟨#[32]⟩ ++ T), Value.string (T ++ ⟨#[32]⟩), Value.string (T ++ T), Value.string ⟨#[49, 58, 50, 46, 51, 46, 52, 46, 53]⟩, Value.string ⟨#[49, 46, 50, 46, 51, 46, 52, 58, 53, 58, 54]⟩, Value.string ⟨#[57, 57, 57, 57, 57, 57, 57, 57, 57, 57, 57, 57, 57, 57, 57, 57, 57, 57, 57, 57, 46, 50, 46, 51, 46, 52, 58, 53]⟩] : List Value).length) : ([Value.string ⟨#[]⟩, Value.string ⟨#[49, 46, 50, 46, 51, 58, 52]⟩, Value.string ⟨#[49, 46, 50, 46, 51, 46, 52, 46, 53, 58, 54]⟩, Value.string ⟨#[49, 46, 50, 46, 51, 46, 50, 53, 54, 58, 55]⟩, Value.string ⟨#[49, 46, 50, 46, 51, 46, 52, 58, 54, 53, 53, 51, 54]⟩, Value.string ⟨#[48, 49, 46, 50, 46, 51, 46, 52, 58, 53]⟩, Value.string ⟨#[49, 46, 50, 46, 51, 46, 52, 58, 48, 53]⟩, Value.string ⟨#[49, 46, 50, 46, 51, 46, 52]⟩, Value.string ⟨#[49, 46, 50, 46, 51, 46, 52, 58]⟩, Value.string ⟨#[46, 50, 46, 51, 46, 52, 58, 53]⟩, Value.string ⟨#[49, 46, 50, 46, 51, 46, 52, 58, 43, 53]⟩, Value.string ⟨#[45, 49, 46, 50, 46, 51, 46, 52, 58, 53]⟩, Value.string (⟨#[32]⟩ ++ T), Value.string (T ++ ⟨#[32]⟩), Value.string (T ++ T), Value.string ⟨#[49, 58, 50, 46, 51, 46, 52, 46, 53]⟩, Value.string ⟨#[49, 46, 50, 46, 51, 46, 52, 58, 53, 58, 54]⟩, Value.string ⟨#[57, 57, 57, 57, 57, 57, 57, 57, 57, 57, 57, 57, 57, 57, 57, 57, 57, 57, 57, 57, 46, 50, 46, 51, 46, 52, 58, 53]⟩] : List Value)[q]'h2 = .string S := by
  have e : ([Value.string ⟨#[]⟩, Value.string ⟨#[49, 46, 50, 46, 51, 58, 52]⟩, Value.string ⟨#[49, 46, 50, 46, 51, 46, 52, 46, 53, 58, 54]⟩, Value.string ⟨#[49, 46, 50, 46, 51, 46, 50, 53, 54, 58, 55]⟩, Value.string ⟨#[49, 46, 50, 46, 51, 46, 52, 58, 54, 53, 53, 51, 54]⟩, Value.string ⟨#[48, 49, 46, 50, 46, 51, 46, 52, 58, 53]⟩, Value.string ⟨#[49, 46, 50, 46, 51, 46, 52, 58, 48, 53]⟩, Value.string ⟨#[49, 46, 50, 46, 51, 46, 52]⟩, Value.string ⟨#[49, 46, 50, 46, 51, 46, 52, 58]⟩, Value.string ⟨#[46, 50, 46, 51, 46, 52, 58, 53]⟩, Value.string ⟨#[49, 46, 50, 46, 51, 46, 52, 58, 43, 53]⟩, Value.string ⟨#[45, 49, 46, 50, 46, 51, 46, 52, 58, 53]⟩, Value.string (⟨#[32]⟩ ++ T), Value.string (T ++ ⟨#[32]⟩), Value.string (T ++ T), Value.string ⟨#[49, 58, 50, 46, 51, 46, 52, 46, 53]⟩, Value.string ⟨#[49, 46, 50, 46, 51, 46, 52, 58, 53, 58, 54]⟩, Value.string ⟨#[57, 57, 57, 57, 57, 57, 57, 57, 57, 57, 57, 57, 57, 57, 57, 57, 57, 57, 57, 57, 46, 50, 46, 51, 46, 52, 58, 53]⟩] : List Value) = (strs T).map Value.string := rfl
  simp only [e, List.getElem_map]
  rw [← hS, List.getD_eq_getElem?_getD, List.getElem?_eq_getElem (by rw [strs_len]; exact h)]
  rfl
theorem text_at {a p : Nat} {T : ByteArray} (h : Hid (atx a p = T)) (h1 : a < 4294967296) (h2 : p < 65536) (w : World) (ht : Tab w) :
    Calls Tryd.prog 11 #[.agg #[.int .u32 a, .int .u16 p]] w fun e w' => e = .returned (.string T) ∧ Below w.heap.size w w' := by
  rw [← h.out]
  exact text_any a p h1 h2 w ht
set_option maxRecDepth 100000 in
set_option maxHeartbeats 4000000 in
theorem addrTexts_walk (which : Int) (q a p : Nat) (hq : which % 18 = (q : Int)) (hw : 0 ≤ which ∧ which ≤ 255) (hq18 : q < 18) (h1 : a < 4294967296) (h2 : p < 65536) (w : World) (ht : Tab w) :
    Calls Tryd.prog 8 #[.int .u8 which, .agg #[.int .u32 a, .int .u16 p]] w fun e w' => e = .returned (.bool true) ∧ Below w.heap.size w w' := by
  obtain ⟨hw0, hw1⟩ := hw
  have HT := Lib.hid ht
  clear ht
  have hn := strs_none a p h1 h2 q hq18
  have hz := (atx_size a p h1 h2).1
  obtain ⟨T, hT⟩ : ∃ T, atx a p = T := ⟨_, rfl⟩
  rw [hT] at hn hz
  have hT := Lib.hid hT
  obtain ⟨S, hS⟩ : ∃ S, (strs T).getD q ⟨#[]⟩ = S := ⟨_, rfl⟩
  rw [hS] at hn
  have HN := Lib.hid hn
  have hget := strs_get T S q hq18 hS (by simp; omega)
  have hSz : S.size ≤ 42 := by
    rw [← hS]
    exact strs_size T q hz
  clear hn hS
  have hqi : (q : Int) < 18 := by omega
  have hq0 : (0 : Int) ≤ q := by omega
  go_enter Tryd.func8, Tryd.ntmps8
  go_wp2_with fail
  refine (examples_yes _ (HT.out.below (by (repeat (first | exact Below.refl _ _ | refine Below.drew ?_ | refine below_drewN ?_ _ | refine Below.alloc ?_ (by first | omega | (simp; done) | (simp; omega)) _ | refine Below.setCell ?_ (by first | omega | (simp; done) | (simp; omega)) _))))).mono ?_; rintro e w1 ⟨rfl, b1⟩; obtain ⟨hc1, hf1, hz1⟩ := bcell b1; (try simp at hz1); have kc1_0 := fun o => hc1 (w.heap.size) o (by first | omega | (simp; done) | (simp; omega)); have kf1_0 := fun o => hf1 (w.heap.size) o (by first | omega | (simp; done) | (simp; omega)); have kl1_0 : w.heap.size < w1.heap.size := (by omega); clear hc1 hf1
  go_wp2_with fail
  refine (text_at hT h1 h2 _ (HT.out.below (by (have zz0 := Below.size b1; (try simp at zz0); repeat (first | exact Below.refl _ _ | refine Below.drew ?_ | refine below_drewN ?_ _ | refine Below.alloc ?_ (by first | omega | (simp; done) | (simp; omega)) _ | refine Below.setCell ?_ (by first | omega | (simp; done) | (simp; omega)) _ | (with_reducible refine Below.trans ?_ (Below.mono b1 (by first | omega | (simp; done) | (simp; omega))))))))).mono ?_; rintro e w2 ⟨rfl, b2⟩
  go_wp2_with fail
  refine (read_no HN (by omega) _).mono ?_; rintro e w3 ⟨rfl, b3⟩
  go_wp2
  go_ret
  refine ⟨rfl, ?_⟩
  (have zz0 := Below.size b3; (try simp at zz0); have zz1 := Below.size b2; (try simp at zz1); have zz2 := Below.size b1; (try simp at zz2); repeat (first | exact Below.refl _ _ | refine Below.drew ?_ | refine below_drewN ?_ _ | refine Below.alloc ?_ (by first | omega | (simp; done) | (simp; omega)) _ | refine Below.setCell ?_ (by first | omega | (simp; done) | (simp; omega)) _ | (with_reducible refine Below.trans ?_ (Below.mono b3 (by first | omega | (simp; done) | (simp; omega)))) | (with_reducible refine Below.trans ?_ (Below.mono b2 (by first | omega | (simp; done) | (simp; omega)))) | (with_reducible refine Below.trans ?_ (Below.mono b1 (by first | omega | (simp; done) | (simp; omega))))))

theorem addrTexts_run (which a p : Int) (w : World) (ww : (Lit.int .u8 which).wf = true) (wa : (Lit.int .u32 a).wf = true) (wp : (Lit.int .u16 p).wf = true) (ht : Tab w) :
    Calls Tryd.prog 8 #[.int .u8 which, .agg #[.int .u32 a, .int .u16 p]] w fun e w' => e = .returned (.bool true) ∧ Below w.heap.size w w' := by
  have bw := bounds_u8 ww
  have ba := bounds_u32 wa
  have bp := bounds_u16 wp
  obtain ⟨a, rfl⟩ := Int.eq_ofNat_of_zero_le ba.1
  obtain ⟨p, rfl⟩ := Int.eq_ofNat_of_zero_le bp.1
  exact addrTexts_walk which (which % 18).toNat a p (by omega) bw (by omega) (by omega) (by omega) w ht

theorem addrTexts_own : ownKnob Tryd.prog.godebug = none := by kernel_rfl
theorem addrTexts_laid : laidOutB Tryd.prog = true := by kernel_rfl
set_option maxRecDepth 100000 in
theorem addrTexts_lifted (os : Os) (started : os.Started) (H : Type) (enc : TypeId × Value → H) :
    ReturnsInHanded {} Tryd.checked os 8 .any (fun w args => (Rows.addrTextsSpec.pre enc Tryd.prog Tryd.f8 [] false w args ∧ laidMetH Tryd.prog seatLaid w) ∧ sizedMet enc Tryd.prog Tryd.f8 (OpenSpec.ofChange Rows.addrTextsSpec) false w args) (Rows.addrTextsSpec.post enc Tryd.prog Tryd.f8 false true false false) := by
  refine returnsInHanded_of_change_and (C := Tryd.checked) (X := fun w _ => laidMetH Tryd.prog seatLaid w) (fun _ _ _ hh h => h.of_heap hh) addrTexts_own started (by kernel_rfl) Tryd.func8
    (ChangeSpec.witness_shaped (enc := enc) (C := Tryd.checked) (os := os) (X := fun w _ => laidMetH Tryd.prog seatLaid w) false (World.doorLaid Tryd.prog seatSteps os) #[.int .u8 0, .agg #[.int .u32 0, .int .u16 0]] 8 rfl (World.shaped_of_RefB (by kernel_rfl) (by kernel_rfl)) (by kernel_rfl) (by kernel_rfl) (by kernel_rfl) (door_met os _)) ?_
  intro W base args ds gs before hval0 hW hcnd hsz hL _
  have hval : ∀ (j : Nat) t v, Tryd.f8.params[j]? = some t → args[j]? = some v → Value.okWide Tryd.prog W .any base t v := hval0
  have hW' := hW
  obtain ⟨p, q, hA0, hV, rfl, hfz, hnd⟩ := hW
  have hA : DataW.TrodAll enc Tryd.prog W 0 (fun _ => true) true Tryd.f8.params.toList args.toList ds p := hA0
  rw [Tryd.params8] at hA hval
  obtain ⟨v0, vs0, d0, ds0, p0, q0, hargs, rfl, rfl, h0, r0⟩ := trodAll_cons hA
  obtain ⟨v1, vs1, d1, ds1, p1, q1, rfl, rfl, rfl, h1, r1⟩ := trodAll_cons r0
  obtain ⟨rfl, rfl, rfl⟩ := trodAll_nil r1
  obtain rfl : args = #[v0, v1] := by cases args; simp_all
  obtain ⟨rfl, rfl⟩ := trodVars_none hV
  obtain ⟨a0, rfl, rfl, rfl, w0⟩ := open_int Tryd.underlying5 (hval 0 5 v0 rfl rfl) h0
  have k1 := h1
  have lt1 : ∀ x ∈ p1, x.block < W.heap.size := by obtain ⟨m, hm⟩ := k1; exact DataW.trod_lt m _ _ _ hm
  obtain ⟨c1_0, c1_1, y1_0, y1_1, n1, rfl, rfl, rfl, t1_0, t1_1⟩ := Joins.open_agg2 Tryd.underlying25 (by kernel_rfl) (by kernel_rfl) (hval 1 25 v1 rfl rfl) h1
  obtain ⟨a1_0, e1_0, rfl, w1_0⟩ := DataW.trod_int Tryd.underlying22 t1_0
  obtain rfl := (List.cons.inj e1_0).1
  obtain ⟨a1_1, e1_1, rfl, w1_1⟩ := DataW.trod_int Tryd.underlying23 t1_1
  obtain rfl := (List.cons.inj e1_1).1
  clear hA0 hval0
  refine (addrTexts_run a0 a1_0 a1_1 W w0 w1_0 w1_1 (tab_of_laid hL)).mono fun e W' ⟨he, bel⟩ => ?_
  subst he
  exact ⟨_, rfl, _, _, _, [], _, [], hW', trodAll_mk1 (shut_bool Tryd.underlying4 _), (trodAll_cons_mk (shut_int Tryd.underlying5 w0) (trodAll_cons_mk (Below.trod addrTexts_laid (by kernel_rfl) (of_decide_eq_true (by kernel_rfl)) k1 bel lt1) trodAll_mk0)), rfl, bel.frame _, fun h => by cases h⟩
theorem addrTexts_over : Rows.addrTextsRow.holds Tryd.pinned (OpenSpec.ofChange Rows.addrTextsSpec) :=
  OpenClaim.holds_of_wide 8 Tryd.f8 rfl rfl rfl rfl rfl rfl rfl ⟨rfl, rfl, rfl, rfl, rfl⟩ rfl rfl rfl rfl rfl (by kernel_rfl) Tryd.func8 (by kernel_rfl)
    (of_decide_eq_true (by kernel_rfl)) (by unfold Func.isWrapper; first | (rw [if_pos (by decide +kernel)]; kernel_rfl) | (rw [if_neg (by decide +kernel)]; exact ⟨rfl, rfl⟩))
    (fun os started H enc _ => addrTexts_lifted os started H enc)
theorem addrTexts_holds : Rows.AddrTextsCardSaid :=
  Claim7.holds_tied_plain_at .later [] [.data, .data, .data] true Rows.addrTextsCard.stood.harness false addrTexts_over (fun _ h => by cases h) (by kernel_rfl) (fun _ h => by cases h) addrTexts_row_tie rfl ⟨rfl, rfl⟩ (by kernel_rfl) rfl
    (fun f fn hf hfn => by
      obtain rfl : f = 8 := Option.some.inj ((show Tryd.prog.funcNamed "scuttlebutt/scuttlebuttlaw03.AddrTexts" = some 8 by kernel_rfl).symm.trans hf) |>.symm
      obtain rfl : fn = Tryd.f8 := (Option.some.inj (Tryd.func8.symm.trans hfn)).symm
      exact ⟨by kernel_rfl, fun j t ht => by
        rw [Tryd.params8] at ht
        have hm : t ∈ [5, 25] := by simpa using Array.mem_of_getElem? ht
        have hall : ([5, 25].all fun u => !Tryd.prog.wantsStandIn u) = true := by kernel_rfl
        exact (show Tryd.prog.wantsStandIn t = false by simpa using List.all_eq_true.1 hall t hm)⟩)
    (by kernel_rfl)
#print axioms addrTexts_holds
end Go.Proofs.YtdihpiggknhojaaDoor
