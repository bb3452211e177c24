/- The statement AddrPrivate: of a network that is private all addresses are; next to its ends none is; for every network's number, every number in it, every port. No conditions but the row's own: the library's tables lie as the program's text lays them. -/
import Derived.Test.YtdihpiggknhojaaDoorAddrEx
import Derived.Test.YtdihpiggknhojaaDoorAddrLaid
import Derived.Test.YtdihpiggknhojaaDoorAddrSmall
import Derived.SevenTiedAt
import Derived.ChangeOld
import Derived.ChangeMaps5
import Derived.ShutString
import Derived.OpenShut
import Derived.SizedLaws
namespace Go.Proofs.YtdihpiggknhojaaDoor
open Go.RowKit Go.ChangeShapes Go.WideShapes Go.ChangeAt
open Go.ChangeMaps (open_string shut_string)
set_option linter.unusedVariables false
set_option linter.unusedSimpArgs false

theorem dec_zero (port : Nat) : (decide (port = 0) == ((port : Int) == 0)) = true := by
  have e : decide (port = 0) = ((port : Int) == 0) := by rw [Bool.eq_iff_iff]; simp
  simp [e]
theorem priv_at (a p : Int) (ip port : Nat) (b : Bool) (ha : a = ip) (hp : p = port) (h1 : ip < 4294967296) (h2 : port < 65536) (hb : privI ip = b) (w : World) :
    Calls Tryd.prog 17 #[.agg #[.int .u32 a, .int .u16 p]] w fun e w' => e = .returned (.bool b) ∧ Below w.heap.size w w' := by
  subst ha hp hb
  exact priv_any ip port h1 h2 w
theorem none_at (a p : Int) (ip port : Nat) (b : Bool) (ha : a = ip) (hp : p = port) (h1 : ip < 4294967296) (h2 : port < 65536) (hb : noneI ip port = b) (w : World) :
    Calls Tryd.prog 15 #[.agg #[.int .u32 a, .int .u16 p]] w fun e w' => e = .returned (.bool b) ∧ Below w.heap.size w w' := by
  subst ha hp hb
  exact none_any ip port h1 h2 w

set_option maxRecDepth 100000 in
set_option maxHeartbeats 1600000 in
theorem addrPrivate_0 (which : Int) (i port : Nat) (hw : which % 3 = 0) (hb : 0 ≤ which ∧ which ≤ 255) (h1 : i < 4294967296) (h2 : port < 65536) (w : World) (ht : Tab w) :
    Calls Tryd.prog 7 #[.int .u8 which, .int .u32 i, .int .u16 port] w fun e w' => e = .returned (.bool true) ∧ Below w.heap.size w w' := by
  obtain ⟨hb0, hb1⟩ := hb
  have HT := Lib.hid ht
  clear ht
  have hm := Nat.mod_lt i (show 0 < 16777216 by omega)
  have p1 : privI (167772160 + i % 16777216) = true := by unfold privI; simp; omega
  have p2 : privI 167772159 = false := by decide +kernel
  have p3 : privI 184549376 = false := by decide +kernel
  have p4 : noneI i 0 = true := by simp [noneI]
  have p5 : noneI 167772160 port = decide (port = 0) := by simp [noneI]
  have hwi : (which : Int).tmod 3 = 0 := by rw [tmod_pos _ _ hb0]; exact hw
  go_enter Tryd.func7, Tryd.ntmps7
  go_wp2_with fail
  refine (examples_yes _ HT.out).mono ?_; rintro e w1 ⟨rfl, b1⟩
  go_wp2_with fail
  refine (priv_at _ _ (167772160 + i % 16777216) port _ (by omega) rfl (by omega) h2 p1 _).mono ?_; rintro e w2 ⟨rfl, b2⟩
  go_wp2_with fail
  refine (priv_at _ _ 167772159 port _ rfl rfl (by omega) h2 p2 _).mono ?_; rintro e w3 ⟨rfl, b3⟩
  go_wp2_with fail
  refine (priv_at _ _ 184549376 port _ rfl rfl (by omega) h2 p3 _).mono ?_; rintro e w4 ⟨rfl, b4⟩
  go_wp2_with fail
  refine (none_at _ _ i 0 _ rfl rfl (by omega) (by omega) p4 _).mono ?_; rintro e w5 ⟨rfl, b5⟩
  go_wp2_with fail
  refine (none_at _ _ 167772160 port _ rfl rfl (by omega) h2 p5 _).mono ?_; rintro e w6 ⟨rfl, b6⟩
  go_wp2
  go_ret
  refine ⟨bool_ret (dec_zero port), ?_⟩
  (have zz0 := Below.size b6; (try simp at zz0); have zz1 := Below.size b5; (try simp at zz1); have zz2 := Below.size b4; (try simp at zz2); have zz3 := Below.size b3; (try simp at zz3); have zz4 := Below.size b2; (try simp at zz4); have zz5 := Below.size b1; (try simp at zz5); repeat (first | exact Below.refl _ _ | refine Below.drew ?_ | refine below_drewN ?_ _ | refine Below.alloc ?_ (by first | omega | (simp; done) | (simp; omega)) _ | refine Below.setCell ?_ (by first | omega | (simp; done) | (simp; omega)) _ | (with_reducible refine Below.trans ?_ (Below.mono b6 (by first | omega | (simp; done) | (simp; omega)))) | (with_reducible refine Below.trans ?_ (Below.mono b5 (by first | omega | (simp; done) | (simp; omega)))) | (with_reducible refine Below.trans ?_ (Below.mono b4 (by first | omega | (simp; done) | (simp; omega)))) | (with_reducible refine Below.trans ?_ (Below.mono b3 (by first | omega | (simp; done) | (simp; omega)))) | (with_reducible refine Below.trans ?_ (Below.mono b2 (by first | omega | (simp; done) | (simp; omega)))) | (with_reducible refine Below.trans ?_ (Below.mono b1 (by first | omega | (simp; done) | (simp; omega))))))

set_option maxRecDepth 100000 in
set_option maxHeartbeats 1600000 in
theorem addrPrivate_1 (which : Int) (i port : Nat) (hw : which % 3 = 1) (hb : 0 ≤ which ∧ which ≤ 255) (h1 : i < 4294967296) (h2 : port < 65536) (w : World) (ht : Tab w) :
    Calls Tryd.prog 7 #[.int .u8 which, .int .u32 i, .int .u16 port] w fun e w' => e = .returned (.bool true) ∧ Below w.heap.size w w' := by
  obtain ⟨hb0, hb1⟩ := hb
  have HT := Lib.hid ht
  clear ht
  have hm := Nat.mod_lt i (show 0 < 1048576 by omega)
  have p1 : privI (2886729728 + i % 1048576) = true := by unfold privI; simp; omega
  have p2 : privI 2886729727 = false := by decide +kernel
  have p3 : privI 2887778304 = false := by decide +kernel
  have p4 : noneI i 0 = true := by simp [noneI]
  have p5 : noneI 2886729728 port = decide (port = 0) := by simp [noneI]
  have hwi : (which : Int).tmod 3 = 1 := by rw [tmod_pos _ _ hb0]; exact hw
  go_enter Tryd.func7, Tryd.ntmps7
  go_wp2_with fail
  refine (examples_yes _ HT.out).mono ?_; rintro e w1 ⟨rfl, b1⟩
  go_wp2_with fail
  refine (priv_at _ _ (2886729728 + i % 1048576) port _ (by omega) rfl (by omega) h2 p1 _).mono ?_; rintro e w2 ⟨rfl, b2⟩
  go_wp2_with fail
  refine (priv_at _ _ 2886729727 port _ rfl rfl (by omega) h2 p2 _).mono ?_; rintro e w3 ⟨rfl, b3⟩
  go_wp2_with fail
  refine (priv_at _ _ 2887778304 port _ rfl rfl (by omega) h2 p3 _).mono ?_; rintro e w4 ⟨rfl, b4⟩
  go_wp2_with fail
  refine (none_at _ _ i 0 _ rfl rfl (by omega) (by omega) p4 _).mono ?_; rintro e w5 ⟨rfl, b5⟩
  go_wp2_with fail
  refine (none_at _ _ 2886729728 port _ rfl rfl (by omega) h2 p5 _).mono ?_; rintro e w6 ⟨rfl, b6⟩
  go_wp2
  go_ret
  refine ⟨bool_ret (dec_zero port), ?_⟩
  (have zz0 := Below.size b6; (try simp at zz0); have zz1 := Below.size b5; (try simp at zz1); have zz2 := Below.size b4; (try simp at zz2); have zz3 := Below.size b3; (try simp at zz3); have zz4 := Below.size b2; (try simp at zz4); have zz5 := Below.size b1; (try simp at zz5); repeat (first | exact Below.refl _ _ | refine Below.drew ?_ | refine below_drewN ?_ _ | refine Below.alloc ?_ (by first | omega | (simp; done) | (simp; omega)) _ | refine Below.setCell ?_ (by first | omega | (simp; done) | (simp; omega)) _ | (with_reducible refine Below.trans ?_ (Below.mono b6 (by first | omega | (simp; done) | (simp; omega)))) | (with_reducible refine Below.trans ?_ (Below.mono b5 (by first | omega | (simp; done) | (simp; omega)))) | (with_reducible refine Below.trans ?_ (Below.mono b4 (by first | omega | (simp; done) | (simp; omega)))) | (with_reducible refine Below.trans ?_ (Below.mono b3 (by first | omega | (simp; done) | (simp; omega)))) | (with_reducible refine Below.trans ?_ (Below.mono b2 (by first | omega | (simp; done) | (simp; omega)))) | (with_reducible refine Below.trans ?_ (Below.mono b1 (by first | omega | (simp; done) | (simp; omega))))))

set_option maxRecDepth 100000 in
set_option maxHeartbeats 1600000 in
theorem addrPrivate_2 (which : Int) (i port : Nat) (hw : which % 3 = 2) (hb : 0 ≤ which ∧ which ≤ 255) (h1 : i < 4294967296) (h2 : port < 65536) (w : World) (ht : Tab w) :
    Calls Tryd.prog 7 #[.int .u8 which, .int .u32 i, .int .u16 port] w fun e w' => e = .returned (.bool true) ∧ Below w.heap.size w w' := by
  obtain ⟨hb0, hb1⟩ := hb
  have HT := Lib.hid ht
  clear ht
  have hm := Nat.mod_lt i (show 0 < 65536 by omega)
  have p1 : privI (3232235520 + i % 65536) = true := by unfold privI; simp; omega
  have p2 : privI 3232235519 = false := by decide +kernel
  have p3 : privI 3232301056 = false := by decide +kernel
  have p4 : noneI i 0 = true := by simp [noneI]
  have p5 : noneI 3232235520 port = decide (port = 0) := by simp [noneI]
  have hwi : (which : Int).tmod 3 = 2 := by rw [tmod_pos _ _ hb0]; exact hw
  go_enter Tryd.func7, Tryd.ntmps7
  go_wp2_with fail
  refine (examples_yes _ HT.out).mono ?_; rintro e w1 ⟨rfl, b1⟩
  go_wp2_with fail
  refine (priv_at _ _ (3232235520 + i % 65536) port _ (by omega) rfl (by omega) h2 p1 _).mono ?_; rintro e w2 ⟨rfl, b2⟩
  go_wp2_with fail
  refine (priv_at _ _ 3232235519 port _ rfl rfl (by omega) h2 p2 _).mono ?_; rintro e w3 ⟨rfl, b3⟩
  go_wp2_with fail
  refine (priv_at _ _ 3232301056 port _ rfl rfl (by omega) h2 p3 _).mono ?_; rintro e w4 ⟨rfl, b4⟩
  go_wp2_with fail
  refine (none_at _ _ i 0 _ rfl rfl (by omega) (by omega) p4 _).mono ?_; rintro e w5 ⟨rfl, b5⟩
  go_wp2_with fail
  refine (none_at _ _ 3232235520 port _ rfl rfl (by omega) h2 p5 _).mono ?_; rintro e w6 ⟨rfl, b6⟩
  go_wp2
  go_ret
  refine ⟨bool_ret (dec_zero port), ?_⟩
  (have zz0 := Below.size b6; (try simp at zz0); have zz1 := Below.size b5; (try simp at zz1); have zz2 := Below.size b4; (try simp at zz2); have zz3 := Below.size b3; (try simp at zz3); have zz4 := Below.size b2; (try simp at zz4); have zz5 := Below.size b1; (try simp at zz5); repeat (first | exact Below.refl _ _ | refine Below.drew ?_ | refine below_drewN ?_ _ | refine Below.alloc ?_ (by first | omega | (simp; done) | (simp; omega)) _ | refine Below.setCell ?_ (by first | omega | (simp; done) | (simp; omega)) _ | (with_reducible refine Below.trans ?_ (Below.mono b6 (by first | omega | (simp; done) | (simp; omega)))) | (with_reducible refine Below.trans ?_ (Below.mono b5 (by first | omega | (simp; done) | (simp; omega)))) | (with_reducible refine Below.trans ?_ (Below.mono b4 (by first | omega | (simp; done) | (simp; omega)))) | (with_reducible refine Below.trans ?_ (Below.mono b3 (by first | omega | (simp; done) | (simp; omega)))) | (with_reducible refine Below.trans ?_ (Below.mono b2 (by first | omega | (simp; done) | (simp; omega)))) | (with_reducible refine Below.trans ?_ (Below.mono b1 (by first | omega | (simp; done) | (simp; omega))))))

theorem addrPrivate_run (which i port : Int) (w : World) (ww : (Lit.int .u8 which).wf = true) (wi : (Lit.int .u32 i).wf = true) (wp : (Lit.int .u16 port).wf = true) (ht : Tab w) :
    Calls Tryd.prog 7 #[.int .u8 which, .int .u32 i, .int .u16 port] w fun e w' => e = .returned (.bool true) ∧ Below w.heap.size w w' := by
  have hw := bounds_u8 ww
  have hi := bounds_u32 wi
  have hp := bounds_u16 wp
  obtain ⟨I, rfl⟩ := Int.eq_ofNat_of_zero_le hi.1
  obtain ⟨P, rfl⟩ := Int.eq_ofNat_of_zero_le hp.1
  have h3 : which % 3 = 0 ∨ which % 3 = 1 ∨ which % 3 = 2 := by omega
  rcases h3 with h | h | h
  · exact addrPrivate_0 which I P h hw (by omega) (by omega) w ht
  · exact addrPrivate_1 which I P h hw (by omega) (by omega) w ht
  · exact addrPrivate_2 which I P h hw (by omega) (by omega) w ht

theorem addrPrivate_own : ownKnob Tryd.prog.godebug = none := by kernel_rfl
theorem addrPrivate_laid : laidOutB Tryd.prog = true := by kernel_rfl
set_option maxRecDepth 100000 in
theorem addrPrivate_lifted (os : Os) (started : os.Started) (H : Type) (enc : TypeId × Value → H) :
    ReturnsInHanded {} Tryd.checked os 7 .any (fun w args => (Rows.addrPrivateSpec.pre enc Tryd.prog Tryd.f7 [] false w args ∧ laidMetH Tryd.prog seatLaid w) ∧ sizedMet enc Tryd.prog Tryd.f7 (OpenSpec.ofChange Rows.addrPrivateSpec) false w args) (Rows.addrPrivateSpec.post enc Tryd.prog Tryd.f7 false true false false) := by
  refine returnsInHanded_of_change_and (C := Tryd.checked) (X := fun w _ => laidMetH Tryd.prog seatLaid w) (fun _ _ _ hh h => h.of_heap hh) addrPrivate_own started (by kernel_rfl) Tryd.func7
    (ChangeSpec.witness_shaped (enc := enc) (C := Tryd.checked) (os := os) (X := fun w _ => laidMetH Tryd.prog seatLaid w) false (World.doorLaid Tryd.prog seatSteps os) #[.int .u8 0, .int .u32 0, .int .u16 0] 8 rfl (World.shaped_of_RefB (by kernel_rfl) (by kernel_rfl)) (by kernel_rfl) (by kernel_rfl) (by kernel_rfl) (door_met os _)) ?_
  intro W base args ds gs before hval0 hW hcnd hsz hL _
  have hval : ∀ (j : Nat) t v, Tryd.f7.params[j]? = some t → args[j]? = some v → Value.okWide Tryd.prog W .any base t v := hval0
  have hW' := hW
  obtain ⟨p, q, hA0, hV, rfl, hfz, hnd⟩ := hW
  have hA : DataW.TrodAll enc Tryd.prog W 0 (fun _ => true) true Tryd.f7.params.toList args.toList ds p := hA0
  rw [Tryd.params7] at hA hval
  obtain ⟨v0, vs0, d0, ds0, p0, q0, hargs, rfl, rfl, h0, r0⟩ := trodAll_cons hA
  obtain ⟨v1, vs1, d1, ds1, p1, q1, rfl, rfl, rfl, h1, r1⟩ := trodAll_cons r0
  obtain ⟨v2, vs2, d2, ds2, p2, q2, rfl, rfl, rfl, h2, r2⟩ := trodAll_cons r1
  obtain ⟨rfl, rfl, rfl⟩ := trodAll_nil r2
  obtain rfl : args = #[v0, v1, v2] := by cases args; simp_all
  obtain ⟨rfl, rfl⟩ := trodVars_none hV
  obtain ⟨a0, rfl, rfl, rfl, w0⟩ := open_int Tryd.underlying5 (hval 0 5 v0 rfl rfl) h0
  obtain ⟨a1, rfl, rfl, rfl, w1⟩ := open_int Tryd.underlying22 (hval 1 22 v1 rfl rfl) h1
  obtain ⟨a2, rfl, rfl, rfl, w2⟩ := open_int Tryd.underlying23 (hval 2 23 v2 rfl rfl) h2
  clear hA0 hval0
  refine (addrPrivate_run a0 a1 a2 W w0 w1 w2 (tab_of_laid hL)).mono fun e W' ⟨he, bel⟩ => ?_
  subst he
  exact ⟨_, rfl, _, _, _, [], _, [], hW', trodAll_mk1 (shut_bool Tryd.underlying4 _), (trodAll_cons_mk (shut_int Tryd.underlying5 w0) (trodAll_cons_mk (shut_int Tryd.underlying22 w1) (trodAll_cons_mk (shut_int Tryd.underlying23 w2) trodAll_mk0))), rfl, bel.frame _, fun h => by cases h⟩
theorem addrPrivate_over : Rows.addrPrivateRow.holds Tryd.pinned (OpenSpec.ofChange Rows.addrPrivateSpec) :=
  OpenClaim.holds_of_wide 7 Tryd.f7 rfl rfl rfl rfl rfl rfl rfl ⟨rfl, rfl, rfl, rfl, rfl⟩ rfl rfl rfl rfl rfl (by kernel_rfl) Tryd.func7 (by kernel_rfl)
    (of_decide_eq_true (by kernel_rfl)) (by unfold Func.isWrapper; first | (rw [if_pos (by decide +kernel)]; kernel_rfl) | (rw [if_neg (by decide +kernel)]; exact ⟨rfl, rfl⟩))
    (fun os started H enc _ => addrPrivate_lifted os started H enc)
theorem addrPrivate_holds : Rows.AddrPrivateCardSaid :=
  Claim7.holds_tied_plain_at .later [] [.data, .data, .data] true Rows.addrPrivateCard.stood.harness false addrPrivate_over (fun _ h => by cases h) (by kernel_rfl) (fun _ h => by cases h) addrPrivate_row_tie rfl ⟨rfl, rfl⟩ (by kernel_rfl) rfl
    (fun f fn hf hfn => by
      obtain rfl : f = 7 := Option.some.inj ((show Tryd.prog.funcNamed "scuttlebutt/scuttlebuttlaw03.AddrPrivate" = some 7 by kernel_rfl).symm.trans hf) |>.symm
      obtain rfl : fn = Tryd.f7 := (Option.some.inj (Tryd.func7.symm.trans hfn)).symm
      exact ⟨by kernel_rfl, fun j t ht => by
        rw [Tryd.params7] at ht
        have hm : t ∈ [5, 22, 23] := by simpa using Array.mem_of_getElem? ht
        have hall : ([5, 22, 23].all fun u => !Tryd.prog.wantsStandIn u) = true := by kernel_rfl
        exact (show Tryd.prog.wantsStandIn t = false by simpa using List.all_eq_true.1 hall t hm)⟩)
    (by kernel_rfl)
#print axioms addrPrivate_holds
end Go.Proofs.YtdihpiggknhojaaDoor
