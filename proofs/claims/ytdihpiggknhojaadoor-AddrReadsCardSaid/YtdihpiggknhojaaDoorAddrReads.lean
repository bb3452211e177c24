/- The statement AddrReads: any text, and that of an address with a byte another one, one more, or one less, is the address, or none, that the document's own answer tells; so are any bytes. No conditions but the row's own: the library's tables lie as the program's text lays them. -/
import Derived.Test.YtdihpiggknhojaaDoorAddrEx
import Derived.Test.YtdihpiggknhojaaDoorAddrLaid
import Derived.Test.YtdihpiggknhojaaDoorAddrSmall
import Derived.Test.YtdihpiggknhojaaDoorPackLess
import Derived.SevenTiedAt
import Derived.ChangeOld
import Derived.ChangeMaps5
import Derived.ShutString
import Derived.OpenShut
import Derived.SizedLaws
import Derived.Lib.SmallJoins
import Derived.Test.YtdihpiggknhojaaDoorAddrRRead
import Derived.Test.YtdihpiggknhojaaDoorAddrBend
import Derived.Lib.QuietBelow
import Derived.BigQuiet
namespace Go.Proofs.YtdihpiggknhojaaDoor
open Go.Sort Go.RowKit Go.BigFrame Go.ChangeShapes Go.WideShapes Go.ChangeAt
open Go.ChangeMaps (open_string shut_string)
set_option linter.unusedVariables false
set_option linter.unusedSimpArgs false

theorem rd_letters (o : Option (Nat × Nat)) : ∃ (x0 x1 : Nat) (ok : Bool), Hid (rdV o = .tuple #[.agg #[.int .u32 x0, .int .u16 x1], .bool ok]) := by
  cases o with
  | none => exact ⟨0, 0, false, rfl⟩
  | some x => obtain ⟨a, b⟩ := x; exact ⟨a, b, true, rfl⟩
theorem read_l {s : ByteArray} {v : Value} (h : Hid (rdV (rdL s.data.toList) = v)) (hs : s.size ≤ 9223372036854775807) (w : World) :
    Calls Tryd.prog 22 #[.string s] w fun e w' => e = .returned v ∧ Below w.heap.size w w' := by
  rw [← h.out]; exact read_any' s hs w
theorem rread_l {s : ByteArray} {v : Value} (h : Hid (rdV (rdL s.data.toList) = v)) (hs : s.size ≤ 9223372036854775807) (w : World) :
    Calls Tryd.prog 23 #[.string s] w fun e w' => e = .returned v ∧ Below w.heap.size w w' := by
  rw [← h.out]; exact rread_any s hs w
theorem get_l {s : ByteArray} {v : Value} (h : Hid (rdV (getI s) = v)) (hs : s.size ≤ 9223372036854775807) (w : World) :
    Calls Tryd.prog 24 #[.string s] w fun e w' => e = .returned v ∧ Below w.heap.size w w' := by
  rw [← h.out]
  cases hg : getI s with
  | none => exact get_no hg hs w
  | some x => obtain ⟨a, b⟩ := x; exact get_yes hg hs w
theorem rget_l {s : ByteArray} {v : Value} (h : Hid (rdV (getI s) = v)) (hs : s.size ≤ 9223372036854775807) (w : World) :
    Calls Tryd.prog 25 #[.string s] w fun e w' => e = .returned v ∧ Below w.heap.size w w' := by
  rw [← h.out]
  cases hg : getI s with
  | none => exact rget_no hg hs w
  | some x => obtain ⟨a, b⟩ := x; exact rget_yes hg hs w
theorem Two.al {g : Nat} {v0 v1 : Value} {w : World} (h : Two g v0 v1 w) (o : Obj) : Two g v0 v1 (w.alloc o) := h.keep ((Below.refl _ _).alloc (Nat.le_refl _) o)
theorem rtext_at {a p : Nat} {T : ByteArray} (h : Hid (atx a p = T)) (h1 : a < 4294967296) (h2 : p < 65536) (w : World) :
    Calls Tryd.prog 12 #[.agg #[.int .u32 a, .int .u16 p]] w fun e w' => e = .returned (.string T) ∧ Below w.heap.size w w' := by
  rw [← h.out]; exact rtext_any a p h1 h2 w
theorem bend_any (s : ByteArray) (at_ : Int) (by_ : Nat) (hs : 0 < s.size) (hs2 : s.size ≤ 1000) (hb : by_ < 256) (h1 : -9223372036854775808 ≤ at_) (h2 : at_ ≤ 9223372036854775807) (w : World) :
    Calls Tryd.prog 21 #[.string s, .int .i64 at_, .int .u8 (by_ : Int)] w fun e w' => ∃ S, e = .returned (.string S) ∧ S.size = s.size ∧ Below w.heap.size w w' := by
  by_cases h : at_ < 0
  · exact bend_neg s at_ (-(at_ + 1)).toNat by_ hs hs2 hb h h1 (by omega) w
  · exact bend_pos s at_ at_.toNat by_ hs hs2 hb (by omega) (by omega) w
theorem one_conv (w : World) (B : UInt8) (g : Nat) (h : w.cell? ⟨g, 0, none⟩ = some (.int .u8 (B.toNat : Int))) : (convert 35 9 (.slice (some ⟨g, 0, none⟩) 1 1)).run Tryd.prog w = .ok (.string ⟨#[B]⟩) w := by
  have hcv := run_convert_bytes_back (P := Tryd.prog) w 35 9 5 ⟨g, 0, none⟩ 1 [B] Tryd.underlying35 Tryd.underlying5 Tryd.underlying9 (fun j hj => by
    obtain rfl : j = 0 := by simpa using hj
    simpa [Addr.add] using h)
  exact hcv
theorem ex_size (T : ByteArray) (a b : Nat) (h : b ≤ T.size) : (T.extract a b).size ≤ T.size := extract_le T a b h
theorem u64_letter (n : Int) : ∃ u : Nat, IntKind.u64.wrap n = (u : Int) := ⟨(n % 18446744073709551616).toNat, by rw [IntKind.wrap_u64]; omega⟩

set_option maxRecDepth 100000 in
set_option maxHeartbeats 4000000 in
theorem addrReads_0 (a p : Nat) (s b : ByteArray) (own at_ : Int) (by_ : Nat) (h1 : a < 4294967296) (h2 : p < 65536) (hs : s.size ≤ 140737488355327) (hb : b.size ≤ 140737488355327) (hown : own % 4 = 0) (ho : 0 ≤ own ∧ own ≤ 255) (hat : -9223372036854775808 ≤ at_ ∧ at_ ≤ 9223372036854775807) (hby : by_ < 256) (w : World) (ht : Tab w) :
    Calls Tryd.prog 4 #[.agg #[.int .u32 a, .int .u16 p], .string s, .int .u8 own, .int .i64 at_, .int .u8 (by_ : Int), .string b] w fun e w' => e = .returned (.bool true) ∧ Below w.heap.size w w' := by
  have HT := Lib.hid ht
  clear ht
  obtain ⟨ho0, ho1⟩ := ho
  obtain ⟨hat0, hat1⟩ := hat
  have hown2 : own.tmod 4 = 0 := by rw [tmod_pos _ _ ho0]; exact hown
  obtain ⟨y0, y1, good, Y⟩ := rd_letters (getI b)
  obtain ⟨hz, hz9⟩ := atx_size a p h1 h2
  obtain ⟨T, hT⟩ : ∃ T, atx a p = T := ⟨_, rfl⟩
  rw [hT] at hz hz9
  have HTx := Lib.hid hT
  clear hT
  obtain ⟨x0, x1, ok, X⟩ := rd_letters (rdL s.data.toList)
  go_enter Tryd.func4, Tryd.ntmps4
  go_wp2_with fail
  refine (examples_yes _ (HT.out.below (by (repeat (first | exact Below.refl _ _ | refine Below.drew ?_ | refine below_drewN ?_ _ | refine Below.alloc ?_ (by first | omega | (simp; done) | (simp; omega)) _ | refine Below.setCell ?_ (by first | omega | (simp; done) | (simp; omega)) _))))).mono ?_; rintro e w1 ⟨rfl, b1⟩; obtain ⟨hc1, hf1, hz1⟩ := bcell b1; (try simp at hz1); have kc1_0 := fun o => hc1 (w.heap.size) o (by first | omega | (simp; done) | (simp; omega)); have kf1_0 := fun o => hf1 (w.heap.size) o (by first | omega | (simp; done) | (simp; omega)); have kl1_0 : w.heap.size < w1.heap.size := (by omega); clear hc1 hf1
  go_wp2_with fail
  refine (ref_any a p _).mono ?_; rintro e w2 ⟨rfl, b2⟩
  go_wp2_with fail
  refine (rtext_at HTx h1 h2 _).mono ?_; rintro e w3 ⟨rfl, b3⟩
  have B3 : Hid (Below w.heap.size w w3) := by show Below _ _ _; ((have zz0 := Below.size b3; (try simp at zz0); have zz1 := Below.size b2; (try simp at zz1); have zz2 := Below.size b1; (try simp at zz2); repeat (first | exact Below.refl _ _ | refine Below.drew ?_ | refine below_drewN ?_ _ | refine Below.alloc ?_ (by first | omega | (simp; done) | (simp; omega)) _ | refine Below.setCell ?_ (by first | omega | (simp; done) | (simp; omega)) _ | (with_reducible refine Below.trans ?_ (Below.mono b3 (by first | omega | (simp; done) | (simp; omega)))) | (with_reducible refine Below.trans ?_ (Below.mono b2 (by first | omega | (simp; done) | (simp; omega)))) | (with_reducible refine Below.trans ?_ (Below.mono b1 (by first | omega | (simp; done) | (simp; omega)))))))
  clear b1 b2 b3 hz1 kc1_0 kf1_0 kl1_0
  have hBd := B3.out
  have HBd := Lib.hid hBd
  clear hBd
  go_wp2_with fail
  refine (read_l X (by omega) _).mono ?_; rintro e v1 ⟨rfl, d1⟩
  have t1 := Two.new v1 (.int .u32 x0) (.int .u16 x1) 25
  have HT1 := Lib.hid t1
  clear t1
  go_wp2_with fail
  refine (rread_l X (by omega) _).mono ?_; rintro e v2 ⟨rfl, d2⟩
  have HT2 := Lib.hid (HT1.out.keep d2)
  have HS2 := Lib.hid (Two.new v2 (.int .u32 x0) (.int .u16 x1) 27)
  have D2 : Hid (Below w.heap.size w v2) := by have h1 := HBd.out; have h2 := d1; have h3 := d2; show Below _ _ _; ((have zz0 := Below.size h3; (try simp at zz0); have zz1 := Below.size h2; (try simp at zz1); have zz2 := Below.size h1; (try simp at zz2); repeat (first | exact Below.refl _ _ | refine Below.drew ?_ | refine below_drewN ?_ _ | refine Below.alloc ?_ (by first | omega | (simp; done) | (simp; omega)) _ | refine Below.setCell ?_ (by first | omega | (simp; done) | (simp; omega)) _ | (with_reducible refine Below.trans ?_ (Below.mono h3 (by first | omega | (simp; done) | (simp; omega)))) | (with_reducible refine Below.trans ?_ (Below.mono h2 (by first | omega | (simp; done) | (simp; omega)))) | (with_reducible refine Below.trans ?_ (Below.mono h1 (by first | omega | (simp; done) | (simp; omega)))))))
  clear HT1 d1 d2 HBd
  go_wp2_with fail
  refine (get_l Y (by omega) _).mono ?_; rintro e v3 ⟨rfl, d3⟩
  have HT3 := Lib.hid ((HT2.out.al (.cells #[.int .u32 x0, .int .u16 x1] 27)).keep d3)
  have HS3 := Lib.hid (HS2.out.keep d3)
  have HP3 := Lib.hid (Two.new v3 (.int .u32 y0) (.int .u16 y1) 25)
  have D3 : Hid (Below w.heap.size w v3) := by have h1 := D2.out; have h2 := d3; show Below _ _ _; ((have zz0 := Below.size h2; (try simp at zz0); have zz1 := Below.size h1; (try simp at zz1); repeat (first | exact Below.refl _ _ | refine Below.drew ?_ | refine below_drewN ?_ _ | refine Below.alloc ?_ (by first | omega | (simp; done) | (simp; omega)) _ | refine Below.setCell ?_ (by first | omega | (simp; done) | (simp; omega)) _ | (with_reducible refine Below.trans ?_ (Below.mono h2 (by first | omega | (simp; done) | (simp; omega)))) | (with_reducible refine Below.trans ?_ (Below.mono h1 (by first | omega | (simp; done) | (simp; omega)))))))
  clear HT2 HS2 D2 d3
  go_wp2_with fail
  refine (rget_l Y (by omega) _).mono ?_; rintro e v4 ⟨rfl, d4⟩
  have T4 := (HT3.out.al (.cells #[.int .u32 y0, .int .u16 y1] 25)).keep d4
  have S4 := (HS3.out.al (.cells #[.int .u32 y0, .int .u16 y1] 25)).keep d4
  have P4 := HP3.out.keep d4
  have Q5 := Two.new v4 (.int .u32 y0) (.int .u16 y1) 27
  have T5 := T4.al (.cells #[.int .u32 y0, .int .u16 y1] 27)
  have S5 := S4.al (.cells #[.int .u32 y0, .int .u16 y1] 27)
  have P5 := P4.al (.cells #[.int .u32 y0, .int .u16 y1] 27)
  have D5 : Hid (Below w.heap.size w (v4.alloc (.cells #[.int .u32 y0, .int .u16 y1] 27))) := by have h1 := D3.out; have h2 := d4; show Below _ _ _; ((have zz0 := Below.size h2; (try simp at zz0); have zz1 := Below.size h1; (try simp at zz1); repeat (first | exact Below.refl _ _ | refine Below.drew ?_ | refine below_drewN ?_ _ | refine Below.alloc ?_ (by first | omega | (simp; done) | (simp; omega)) _ | refine Below.setCell ?_ (by first | omega | (simp; done) | (simp; omega)) _ | (with_reducible refine Below.trans ?_ (Below.mono h2 (by first | omega | (simp; done) | (simp; omega)))) | (with_reducible refine Below.trans ?_ (Below.mono h1 (by first | omega | (simp; done) | (simp; omega)))))))
  clear HT3 HS3 HP3 D3 d4 T4 S4 P4
  go_upto_region 18 with fail
  generalize (v4.alloc (.cells #[.int .u32 y0, .int .u16 y1] 27)) = wq at *
  have k0 := cell_regrown T5.c0
  have k1 := cell_regrown T5.c1
  have k2 := cell_regrown S5.c0
  have k3 := cell_regrown S5.c1
  have k4 := cell_regrown P5.c0
  have k5 := cell_regrown P5.c1
  have k6 := cell_regrown Q5.c0
  have k7 := cell_regrown Q5.c1
  clear T5 S5 P5 Q5
  have C1 := fun d os => Calls.regrown_of (ref_any x0 x1 (grow (redrawn wq d) os))
  have C2 := fun d os => Calls.regrown_of (ref_any y0 y1 (grow (redrawn wq d) os))
  (refine wp_region_quiet_below (by kernel_rfl) (by kernel_rfl) ?_; (repeat (go_big_quiet_step (first | with_reducible exact C1 _ _ | with_reducible exact C2 _ _))); refine wpQuiet_nil ?_; intro _ hw'; obtain ⟨⟨dq, osq⟩, hw''⟩ := hw'; subst hw'')
  go_wp2
  go_ret
  exact ⟨rfl, D5.out.trans ((below_regrown wq dq osq).mono D5.out.size)⟩

set_option maxRecDepth 100000 in
set_option maxHeartbeats 4000000 in
theorem addrReads_1 (a p : Nat) (s b : ByteArray) (own at_ : Int) (by_ : Nat) (h1 : a < 4294967296) (h2 : p < 65536) (hs : s.size ≤ 140737488355327) (hb : b.size ≤ 140737488355327) (hown : own % 4 = 1) (ho : 0 ≤ own ∧ own ≤ 255) (hat : -9223372036854775808 ≤ at_ ∧ at_ ≤ 9223372036854775807) (hby : by_ < 256) (w : World) (ht : Tab w) :
    Calls Tryd.prog 4 #[.agg #[.int .u32 a, .int .u16 p], .string s, .int .u8 own, .int .i64 at_, .int .u8 (by_ : Int), .string b] w fun e w' => e = .returned (.bool true) ∧ Below w.heap.size w w' := by
  have HT := Lib.hid ht
  clear ht
  obtain ⟨ho0, ho1⟩ := ho
  obtain ⟨hat0, hat1⟩ := hat
  have hown2 : own.tmod 4 = 1 := by rw [tmod_pos _ _ ho0]; exact hown
  obtain ⟨y0, y1, good, Y⟩ := rd_letters (getI b)
  obtain ⟨hz, hz9⟩ := atx_size a p h1 h2
  obtain ⟨T, hT⟩ : ∃ T, atx a p = T := ⟨_, rfl⟩
  rw [hT] at hz hz9
  have HTx := Lib.hid hT
  clear hT
  go_enter Tryd.func4, Tryd.ntmps4
  go_wp2_with fail
  refine (examples_yes _ (HT.out.below (by (repeat (first | exact Below.refl _ _ | refine Below.drew ?_ | refine below_drewN ?_ _ | refine Below.alloc ?_ (by first | omega | (simp; done) | (simp; omega)) _ | refine Below.setCell ?_ (by first | omega | (simp; done) | (simp; omega)) _))))).mono ?_; rintro e w1 ⟨rfl, b1⟩; obtain ⟨hc1, hf1, hz1⟩ := bcell b1; (try simp at hz1); have kc1_0 := fun o => hc1 (w.heap.size) o (by first | omega | (simp; done) | (simp; omega)); have kf1_0 := fun o => hf1 (w.heap.size) o (by first | omega | (simp; done) | (simp; omega)); have kl1_0 : w.heap.size < w1.heap.size := (by omega); clear hc1 hf1
  go_wp2_with fail
  refine (ref_any a p _).mono ?_; rintro e w2 ⟨rfl, b2⟩
  go_wp2_with fail
  refine (rtext_at HTx h1 h2 _).mono ?_; rintro e w3 ⟨rfl, b3⟩
  have B3 : Hid (Below w.heap.size w w3) := by show Below _ _ _; ((have zz0 := Below.size b3; (try simp at zz0); have zz1 := Below.size b2; (try simp at zz1); have zz2 := Below.size b1; (try simp at zz2); repeat (first | exact Below.refl _ _ | refine Below.drew ?_ | refine below_drewN ?_ _ | refine Below.alloc ?_ (by first | omega | (simp; done) | (simp; omega)) _ | refine Below.setCell ?_ (by first | omega | (simp; done) | (simp; omega)) _ | (with_reducible refine Below.trans ?_ (Below.mono b3 (by first | omega | (simp; done) | (simp; omega)))) | (with_reducible refine Below.trans ?_ (Below.mono b2 (by first | omega | (simp; done) | (simp; omega)))) | (with_reducible refine Below.trans ?_ (Below.mono b1 (by first | omega | (simp; done) | (simp; omega)))))))
  clear b1 b2 b3 hz1 kc1_0 kf1_0 kl1_0
  go_wp2_with fail
  refine (bend_any T at_ by_ (by omega) (by omega) hby hat0 hat1 _).mono ?_; rintro e w4 ⟨S, rfl, hSz, b4⟩
  obtain ⟨x0, x1, ok, X⟩ := rd_letters (rdL S.data.toList)
  have hBd := B3.out.trans (b4.mono B3.out.size)
  clear b4
  have HBd := Lib.hid hBd
  clear hBd
  go_wp2_with fail
  refine (read_l X (by omega) _).mono ?_; rintro e v1 ⟨rfl, d1⟩
  have t1 := Two.new v1 (.int .u32 x0) (.int .u16 x1) 25
  have HT1 := Lib.hid t1
  clear t1
  go_wp2_with fail
  refine (rread_l X (by omega) _).mono ?_; rintro e v2 ⟨rfl, d2⟩
  have HT2 := Lib.hid (HT1.out.keep d2)
  have HS2 := Lib.hid (Two.new v2 (.int .u32 x0) (.int .u16 x1) 27)
  have D2 : Hid (Below w.heap.size w v2) := by have h1 := HBd.out; have h2 := d1; have h3 := d2; show Below _ _ _; ((have zz0 := Below.size h3; (try simp at zz0); have zz1 := Below.size h2; (try simp at zz1); have zz2 := Below.size h1; (try simp at zz2); repeat (first | exact Below.refl _ _ | refine Below.drew ?_ | refine below_drewN ?_ _ | refine Below.alloc ?_ (by first | omega | (simp; done) | (simp; omega)) _ | refine Below.setCell ?_ (by first | omega | (simp; done) | (simp; omega)) _ | (with_reducible refine Below.trans ?_ (Below.mono h3 (by first | omega | (simp; done) | (simp; omega)))) | (with_reducible refine Below.trans ?_ (Below.mono h2 (by first | omega | (simp; done) | (simp; omega)))) | (with_reducible refine Below.trans ?_ (Below.mono h1 (by first | omega | (simp; done) | (simp; omega)))))))
  clear HT1 d1 d2 HBd
  go_wp2_with fail
  refine (get_l Y (by omega) _).mono ?_; rintro e v3 ⟨rfl, d3⟩
  have HT3 := Lib.hid ((HT2.out.al (.cells #[.int .u32 x0, .int .u16 x1] 27)).keep d3)
  have HS3 := Lib.hid (HS2.out.keep d3)
  have HP3 := Lib.hid (Two.new v3 (.int .u32 y0) (.int .u16 y1) 25)
  have D3 : Hid (Below w.heap.size w v3) := by have h1 := D2.out; have h2 := d3; show Below _ _ _; ((have zz0 := Below.size h2; (try simp at zz0); have zz1 := Below.size h1; (try simp at zz1); repeat (first | exact Below.refl _ _ | refine Below.drew ?_ | refine below_drewN ?_ _ | refine Below.alloc ?_ (by first | omega | (simp; done) | (simp; omega)) _ | refine Below.setCell ?_ (by first | omega | (simp; done) | (simp; omega)) _ | (with_reducible refine Below.trans ?_ (Below.mono h2 (by first | omega | (simp; done) | (simp; omega)))) | (with_reducible refine Below.trans ?_ (Below.mono h1 (by first | omega | (simp; done) | (simp; omega)))))))
  clear HT2 HS2 D2 d3
  go_wp2_with fail
  refine (rget_l Y (by omega) _).mono ?_; rintro e v4 ⟨rfl, d4⟩
  have T4 := (HT3.out.al (.cells #[.int .u32 y0, .int .u16 y1] 25)).keep d4
  have S4 := (HS3.out.al (.cells #[.int .u32 y0, .int .u16 y1] 25)).keep d4
  have P4 := HP3.out.keep d4
  have Q5 := Two.new v4 (.int .u32 y0) (.int .u16 y1) 27
  have T5 := T4.al (.cells #[.int .u32 y0, .int .u16 y1] 27)
  have S5 := S4.al (.cells #[.int .u32 y0, .int .u16 y1] 27)
  have P5 := P4.al (.cells #[.int .u32 y0, .int .u16 y1] 27)
  have D5 : Hid (Below w.heap.size w (v4.alloc (.cells #[.int .u32 y0, .int .u16 y1] 27))) := by have h1 := D3.out; have h2 := d4; show Below _ _ _; ((have zz0 := Below.size h2; (try simp at zz0); have zz1 := Below.size h1; (try simp at zz1); repeat (first | exact Below.refl _ _ | refine Below.drew ?_ | refine below_drewN ?_ _ | refine Below.alloc ?_ (by first | omega | (simp; done) | (simp; omega)) _ | refine Below.setCell ?_ (by first | omega | (simp; done) | (simp; omega)) _ | (with_reducible refine Below.trans ?_ (Below.mono h2 (by first | omega | (simp; done) | (simp; omega)))) | (with_reducible refine Below.trans ?_ (Below.mono h1 (by first | omega | (simp; done) | (simp; omega)))))))
  clear HT3 HS3 HP3 D3 d4 T4 S4 P4
  go_upto_region 18 with fail
  generalize (v4.alloc (.cells #[.int .u32 y0, .int .u16 y1] 27)) = wq at *
  have k0 := cell_regrown T5.c0
  have k1 := cell_regrown T5.c1
  have k2 := cell_regrown S5.c0
  have k3 := cell_regrown S5.c1
  have k4 := cell_regrown P5.c0
  have k5 := cell_regrown P5.c1
  have k6 := cell_regrown Q5.c0
  have k7 := cell_regrown Q5.c1
  clear T5 S5 P5 Q5
  have C1 := fun d os => Calls.regrown_of (ref_any x0 x1 (grow (redrawn wq d) os))
  have C2 := fun d os => Calls.regrown_of (ref_any y0 y1 (grow (redrawn wq d) os))
  (refine wp_region_quiet_below (by kernel_rfl) (by kernel_rfl) ?_; (repeat (go_big_quiet_step (first | with_reducible exact C1 _ _ | with_reducible exact C2 _ _))); refine wpQuiet_nil ?_; intro _ hw'; obtain ⟨⟨dq, osq⟩, hw''⟩ := hw'; subst hw'')
  go_wp2
  go_ret
  exact ⟨rfl, D5.out.trans ((below_regrown wq dq osq).mono D5.out.size)⟩

set_option maxRecDepth 100000 in
set_option maxHeartbeats 4000000 in
theorem addrReads_2 (a p : Nat) (s b : ByteArray) (own at_ : Int) (by_ : Nat) (h1 : a < 4294967296) (h2 : p < 65536) (hs : s.size ≤ 140737488355327) (hb : b.size ≤ 140737488355327) (hown : own % 4 = 2) (ho : 0 ≤ own ∧ own ≤ 255) (hat : -9223372036854775808 ≤ at_ ∧ at_ ≤ 9223372036854775807) (hby : by_ < 256) (w : World) (ht : Tab w) :
    Calls Tryd.prog 4 #[.agg #[.int .u32 a, .int .u16 p], .string s, .int .u8 own, .int .i64 at_, .int .u8 (by_ : Int), .string b] w fun e w' => e = .returned (.bool true) ∧ Below w.heap.size w w' := by
  have HT := Lib.hid ht
  clear ht
  obtain ⟨ho0, ho1⟩ := ho
  obtain ⟨hat0, hat1⟩ := hat
  have hown2 : own.tmod 4 = 2 := by rw [tmod_pos _ _ ho0]; exact hown
  obtain ⟨y0, y1, good, Y⟩ := rd_letters (getI b)
  obtain ⟨hz, hz9⟩ := atx_size a p h1 h2
  obtain ⟨T, hT⟩ : ∃ T, atx a p = T := ⟨_, rfl⟩
  rw [hT] at hz hz9
  have HTx := Lib.hid hT
  clear hT
  obtain ⟨u, hu⟩ := u64_letter at_
  obtain ⟨k, hk⟩ : ∃ k, u % (T.size + 1) = k := ⟨_, rfl⟩
  have hkl : k < T.size + 1 := by rw [← hk]; exact Nat.mod_lt _ (by omega)
  have hk1 : (u : Int) % ((T.size : Int) + 1) = (k : Int) := by rw [← hk]; simp
  have hk2 : (u : Int).tmod ((T.size : Int) + 1) = (k : Int) := by rw [tmod_pos _ _ (by omega)]; exact hk1
  have hki : (k : Int) ≤ T.size := by omega
  have hk0 : (0 : Int) ≤ k := by omega
  have hk21 : (k : Int) ≤ 21 := by omega
  obtain ⟨m, hm⟩ : ∃ m, by_ % 16 = m := ⟨_, rfl⟩
  have hm16 : m < 16 := by omega
  have hm1 : (by_ : Int) % 16 = (m : Int) := by omega
  have hm2 : (by_ : Int).tmod 16 = (m : Int) := by rw [tmod_pos _ _ (by omega)]; exact hm1
  have hmi : (m : Int) < 16 := by omega
  have hm0 : (0 : Int) ≤ m := by omega
  obtain ⟨B, hB⟩ : ∃ B, ({ data := #[48, 49, 50, 51, 52, 53, 54, 55, 56, 57, 46, 58, 45, 43, 32, 120] } : ByteArray)[m]'(by exact hm16) = B := ⟨_, rfl⟩
  have cv := fun w g h => one_conv w B g h
  have sx1 := ex_size T 0 k (by omega)
  have sx2 := ex_size T k T.size (Nat.le_refl _)
  obtain ⟨X1, hx1⟩ : ∃ X1, T.extract 0 k = X1 := ⟨_, rfl⟩
  obtain ⟨X2, hx2⟩ : ∃ X2, T.extract k T.size = X2 := ⟨_, rfl⟩
  rw [hx1] at sx1
  rw [hx2] at sx2
  obtain ⟨E1, q1⟩ : ∃ E, X1 ++ ⟨#[B]⟩ = E := ⟨_, rfl⟩
  have s1 : E1.size ≤ 22 := by have hq := congrArg ByteArray.size q1; simp only [ByteArray.size_append, one_size] at hq; omega
  have R1 := cat_rule q1 (by simp only [one_size]; omega)
  obtain ⟨E2, q2⟩ : ∃ E, E1 ++ X2 = E := ⟨_, rfl⟩
  have s2 : E2.size ≤ 43 := by have hq := congrArg ByteArray.size q2; simp only [ByteArray.size_append] at hq; omega
  have R2 := cat_rule q2 (by omega)
  have hBn : B.toNat < 256 := B.toNat_lt
  obtain ⟨x0, x1, ok, X⟩ := rd_letters (rdL E2.data.toList)
  clear q1 q2 hk hm sx1 sx2 s1
  go_enter Tryd.func4, Tryd.ntmps4
  go_wp2_with fail
  refine (examples_yes _ (HT.out.below (by (repeat (first | exact Below.refl _ _ | refine Below.drew ?_ | refine below_drewN ?_ _ | refine Below.alloc ?_ (by first | omega | (simp; done) | (simp; omega)) _ | refine Below.setCell ?_ (by first | omega | (simp; done) | (simp; omega)) _))))).mono ?_; rintro e w1 ⟨rfl, b1⟩; obtain ⟨hc1, hf1, hz1⟩ := bcell b1; (try simp at hz1); have kc1_0 := fun o => hc1 (w.heap.size) o (by first | omega | (simp; done) | (simp; omega)); have kf1_0 := fun o => hf1 (w.heap.size) o (by first | omega | (simp; done) | (simp; omega)); have kl1_0 : w.heap.size < w1.heap.size := (by omega); clear hc1 hf1
  go_wp2_with fail
  refine (ref_any a p _).mono ?_; rintro e w2 ⟨rfl, b2⟩
  go_wp2_with fail
  refine (rtext_at HTx h1 h2 _).mono ?_; rintro e w3 ⟨rfl, b3⟩
  have B3 : Hid (Below w.heap.size w w3) := by show Below _ _ _; ((have zz0 := Below.size b3; (try simp at zz0); have zz1 := Below.size b2; (try simp at zz1); have zz2 := Below.size b1; (try simp at zz2); repeat (first | exact Below.refl _ _ | refine Below.drew ?_ | refine below_drewN ?_ _ | refine Below.alloc ?_ (by first | omega | (simp; done) | (simp; omega)) _ | refine Below.setCell ?_ (by first | omega | (simp; done) | (simp; omega)) _ | (with_reducible refine Below.trans ?_ (Below.mono b3 (by first | omega | (simp; done) | (simp; omega)))) | (with_reducible refine Below.trans ?_ (Below.mono b2 (by first | omega | (simp; done) | (simp; omega)))) | (with_reducible refine Below.trans ?_ (Below.mono b1 (by first | omega | (simp; done) | (simp; omega)))))))
  clear b1 b2 b3 hz1 kc1_0 kf1_0 kl1_0
  go_upto_region 10 with fail
  go_region
  have hBd := B3.out
  have HBd := Lib.hid hBd
  clear hBd
  go_wp2_with fail
  refine (read_l X (by omega) _).mono ?_; rintro e v1 ⟨rfl, d1⟩
  have t1 := Two.new v1 (.int .u32 x0) (.int .u16 x1) 25
  have HT1 := Lib.hid t1
  clear t1
  go_wp2_with fail
  refine (rread_l X (by omega) _).mono ?_; rintro e v2 ⟨rfl, d2⟩
  have HT2 := Lib.hid (HT1.out.keep d2)
  have HS2 := Lib.hid (Two.new v2 (.int .u32 x0) (.int .u16 x1) 27)
  have D2 : Hid (Below w.heap.size w v2) := by have h1 := HBd.out; have h2 := d1; have h3 := d2; show Below _ _ _; ((have zz0 := Below.size h3; (try simp at zz0); have zz1 := Below.size h2; (try simp at zz1); have zz2 := Below.size h1; (try simp at zz2); repeat (first | exact Below.refl _ _ | refine Below.drew ?_ | refine below_drewN ?_ _ | refine Below.alloc ?_ (by first | omega | (simp; done) | (simp; omega)) _ | refine Below.setCell ?_ (by first | omega | (simp; done) | (simp; omega)) _ | (with_reducible refine Below.trans ?_ (Below.mono h3 (by first | omega | (simp; done) | (simp; omega)))) | (with_reducible refine Below.trans ?_ (Below.mono h2 (by first | omega | (simp; done) | (simp; omega)))) | (with_reducible refine Below.trans ?_ (Below.mono h1 (by first | omega | (simp; done) | (simp; omega)))))))
  clear HT1 d1 d2 HBd
  go_wp2_with fail
  refine (get_l Y (by omega) _).mono ?_; rintro e v3 ⟨rfl, d3⟩
  have HT3 := Lib.hid ((HT2.out.al (.cells #[.int .u32 x0, .int .u16 x1] 27)).keep d3)
  have HS3 := Lib.hid (HS2.out.keep d3)
  have HP3 := Lib.hid (Two.new v3 (.int .u32 y0) (.int .u16 y1) 25)
  have D3 : Hid (Below w.heap.size w v3) := by have h1 := D2.out; have h2 := d3; show Below _ _ _; ((have zz0 := Below.size h2; (try simp at zz0); have zz1 := Below.size h1; (try simp at zz1); repeat (first | exact Below.refl _ _ | refine Below.drew ?_ | refine below_drewN ?_ _ | refine Below.alloc ?_ (by first | omega | (simp; done) | (simp; omega)) _ | refine Below.setCell ?_ (by first | omega | (simp; done) | (simp; omega)) _ | (with_reducible refine Below.trans ?_ (Below.mono h2 (by first | omega | (simp; done) | (simp; omega)))) | (with_reducible refine Below.trans ?_ (Below.mono h1 (by first | omega | (simp; done) | (simp; omega)))))))
  clear HT2 HS2 D2 d3
  go_wp2_with fail
  refine (rget_l Y (by omega) _).mono ?_; rintro e v4 ⟨rfl, d4⟩
  have T4 := (HT3.out.al (.cells #[.int .u32 y0, .int .u16 y1] 25)).keep d4
  have S4 := (HS3.out.al (.cells #[.int .u32 y0, .int .u16 y1] 25)).keep d4
  have P4 := HP3.out.keep d4
  have Q5 := Two.new v4 (.int .u32 y0) (.int .u16 y1) 27
  have T5 := T4.al (.cells #[.int .u32 y0, .int .u16 y1] 27)
  have S5 := S4.al (.cells #[.int .u32 y0, .int .u16 y1] 27)
  have P5 := P4.al (.cells #[.int .u32 y0, .int .u16 y1] 27)
  have D5 : Hid (Below w.heap.size w (v4.alloc (.cells #[.int .u32 y0, .int .u16 y1] 27))) := by have h1 := D3.out; have h2 := d4; show Below _ _ _; ((have zz0 := Below.size h2; (try simp at zz0); have zz1 := Below.size h1; (try simp at zz1); repeat (first | exact Below.refl _ _ | refine Below.drew ?_ | refine below_drewN ?_ _ | refine Below.alloc ?_ (by first | omega | (simp; done) | (simp; omega)) _ | refine Below.setCell ?_ (by first | omega | (simp; done) | (simp; omega)) _ | (with_reducible refine Below.trans ?_ (Below.mono h2 (by first | omega | (simp; done) | (simp; omega)))) | (with_reducible refine Below.trans ?_ (Below.mono h1 (by first | omega | (simp; done) | (simp; omega)))))))
  clear HT3 HS3 HP3 D3 d4 T4 S4 P4
  go_upto_region 18 with fail
  generalize (v4.alloc (.cells #[.int .u32 y0, .int .u16 y1] 27)) = wq at *
  have k0 := cell_regrown T5.c0
  have k1 := cell_regrown T5.c1
  have k2 := cell_regrown S5.c0
  have k3 := cell_regrown S5.c1
  have k4 := cell_regrown P5.c0
  have k5 := cell_regrown P5.c1
  have k6 := cell_regrown Q5.c0
  have k7 := cell_regrown Q5.c1
  clear T5 S5 P5 Q5
  have C1 := fun d os => Calls.regrown_of (ref_any x0 x1 (grow (redrawn wq d) os))
  have C2 := fun d os => Calls.regrown_of (ref_any y0 y1 (grow (redrawn wq d) os))
  (refine wp_region_quiet_below (by kernel_rfl) (by kernel_rfl) ?_; (repeat (go_big_quiet_step (first | with_reducible exact C1 _ _ | with_reducible exact C2 _ _))); refine wpQuiet_nil ?_; intro _ hw'; obtain ⟨⟨dq, osq⟩, hw''⟩ := hw'; subst hw'')
  go_wp2
  go_ret
  exact ⟨rfl, D5.out.trans ((below_regrown wq dq osq).mono D5.out.size)⟩

set_option maxRecDepth 100000 in
set_option maxHeartbeats 4000000 in
theorem addrReads_3 (a p : Nat) (s b : ByteArray) (own at_ : Int) (by_ : Nat) (h1 : a < 4294967296) (h2 : p < 65536) (hs : s.size ≤ 140737488355327) (hb : b.size ≤ 140737488355327) (hown : own % 4 = 3) (ho : 0 ≤ own ∧ own ≤ 255) (hat : -9223372036854775808 ≤ at_ ∧ at_ ≤ 9223372036854775807) (hby : by_ < 256) (w : World) (ht : Tab w) :
    Calls Tryd.prog 4 #[.agg #[.int .u32 a, .int .u16 p], .string s, .int .u8 own, .int .i64 at_, .int .u8 (by_ : Int), .string b] w fun e w' => e = .returned (.bool true) ∧ Below w.heap.size w w' := by
  have HT := Lib.hid ht
  clear ht
  obtain ⟨ho0, ho1⟩ := ho
  obtain ⟨hat0, hat1⟩ := hat
  have hown2 : own.tmod 4 = 3 := by rw [tmod_pos _ _ ho0]; exact hown
  obtain ⟨y0, y1, good, Y⟩ := rd_letters (getI b)
  obtain ⟨hz, hz9⟩ := atx_size a p h1 h2
  obtain ⟨T, hT⟩ : ∃ T, atx a p = T := ⟨_, rfl⟩
  rw [hT] at hz hz9
  have HTx := Lib.hid hT
  clear hT
  obtain ⟨u, hu⟩ := u64_letter at_
  obtain ⟨k, hk⟩ : ∃ k, u % T.size = k := ⟨_, rfl⟩
  have hkl : k < T.size := by rw [← hk]; exact Nat.mod_lt _ (by omega)
  have hk1 : (u : Int) % (T.size : Int) = (k : Int) := by rw [← hk]; simp
  have hk2 : (u : Int).tmod (T.size : Int) = (k : Int) := by rw [tmod_pos _ _ (by omega)]; exact hk1
  have hT0 : ¬ (T.size : Int) = 0 := by omega
  have hki : (k : Int) ≤ T.size := by omega
  have hkj : (k : Int) + 1 ≤ T.size := by omega
  have hk0 : (0 : Int) ≤ k := by omega
  have hk21 : (k : Int) ≤ 20 := by omega
  have sx1 := ex_size T 0 k (by omega)
  have sx2 := ex_size T (k + 1) T.size (Nat.le_refl _)
  obtain ⟨X1, hx1⟩ : ∃ X1, T.extract 0 k = X1 := ⟨_, rfl⟩
  obtain ⟨X2, hx2⟩ : ∃ X2, T.extract (k + 1) T.size = X2 := ⟨_, rfl⟩
  rw [hx1] at sx1
  rw [hx2] at sx2
  obtain ⟨E2, q2⟩ : ∃ E, X1 ++ X2 = E := ⟨_, rfl⟩
  have s2 : E2.size ≤ 43 := by have hq := congrArg ByteArray.size q2; simp only [ByteArray.size_append] at hq; omega
  have R2 := cat_rule q2 (by omega)
  obtain ⟨x0, x1, ok, X⟩ := rd_letters (rdL E2.data.toList)
  clear q2 hk sx1 sx2
  go_enter Tryd.func4, Tryd.ntmps4
  go_wp2_with fail
  refine (examples_yes _ (HT.out.below (by (repeat (first | exact Below.refl _ _ | refine Below.drew ?_ | refine below_drewN ?_ _ | refine Below.alloc ?_ (by first | omega | (simp; done) | (simp; omega)) _ | refine Below.setCell ?_ (by first | omega | (simp; done) | (simp; omega)) _))))).mono ?_; rintro e w1 ⟨rfl, b1⟩; obtain ⟨hc1, hf1, hz1⟩ := bcell b1; (try simp at hz1); have kc1_0 := fun o => hc1 (w.heap.size) o (by first | omega | (simp; done) | (simp; omega)); have kf1_0 := fun o => hf1 (w.heap.size) o (by first | omega | (simp; done) | (simp; omega)); have kl1_0 : w.heap.size < w1.heap.size := (by omega); clear hc1 hf1
  go_wp2_with fail
  refine (ref_any a p _).mono ?_; rintro e w2 ⟨rfl, b2⟩
  go_wp2_with fail
  refine (rtext_at HTx h1 h2 _).mono ?_; rintro e w3 ⟨rfl, b3⟩
  have B3 : Hid (Below w.heap.size w w3) := by show Below _ _ _; ((have zz0 := Below.size b3; (try simp at zz0); have zz1 := Below.size b2; (try simp at zz1); have zz2 := Below.size b1; (try simp at zz2); repeat (first | exact Below.refl _ _ | refine Below.drew ?_ | refine below_drewN ?_ _ | refine Below.alloc ?_ (by first | omega | (simp; done) | (simp; omega)) _ | refine Below.setCell ?_ (by first | omega | (simp; done) | (simp; omega)) _ | (with_reducible refine Below.trans ?_ (Below.mono b3 (by first | omega | (simp; done) | (simp; omega)))) | (with_reducible refine Below.trans ?_ (Below.mono b2 (by first | omega | (simp; done) | (simp; omega)))) | (with_reducible refine Below.trans ?_ (Below.mono b1 (by first | omega | (simp; done) | (simp; omega)))))))
  clear b1 b2 b3 hz1 kc1_0 kf1_0 kl1_0
  go_upto_region 13 with fail
  go_region
  have hBd := B3.out
  have HBd := Lib.hid hBd
  clear hBd
  go_wp2_with fail
  refine (read_l X (by omega) _).mono ?_; rintro e v1 ⟨rfl, d1⟩
  have t1 := Two.new v1 (.int .u32 x0) (.int .u16 x1) 25
  have HT1 := Lib.hid t1
  clear t1
  go_wp2_with fail
  refine (rread_l X (by omega) _).mono ?_; rintro e v2 ⟨rfl, d2⟩
  have HT2 := Lib.hid (HT1.out.keep d2)
  have HS2 := Lib.hid (Two.new v2 (.int .u32 x0) (.int .u16 x1) 27)
  have D2 : Hid (Below w.heap.size w v2) := by have h1 := HBd.out; have h2 := d1; have h3 := d2; show Below _ _ _; ((have zz0 := Below.size h3; (try simp at zz0); have zz1 := Below.size h2; (try simp at zz1); have zz2 := Below.size h1; (try simp at zz2); repeat (first | exact Below.refl _ _ | refine Below.drew ?_ | refine below_drewN ?_ _ | refine Below.alloc ?_ (by first | omega | (simp; done) | (simp; omega)) _ | refine Below.setCell ?_ (by first | omega | (simp; done) | (simp; omega)) _ | (with_reducible refine Below.trans ?_ (Below.mono h3 (by first | omega | (simp; done) | (simp; omega)))) | (with_reducible refine Below.trans ?_ (Below.mono h2 (by first | omega | (simp; done) | (simp; omega)))) | (with_reducible refine Below.trans ?_ (Below.mono h1 (by first | omega | (simp; done) | (simp; omega)))))))
  clear HT1 d1 d2 HBd
  go_wp2_with fail
  refine (get_l Y (by omega) _).mono ?_; rintro e v3 ⟨rfl, d3⟩
  have HT3 := Lib.hid ((HT2.out.al (.cells #[.int .u32 x0, .int .u16 x1] 27)).keep d3)
  have HS3 := Lib.hid (HS2.out.keep d3)
  have HP3 := Lib.hid (Two.new v3 (.int .u32 y0) (.int .u16 y1) 25)
  have D3 : Hid (Below w.heap.size w v3) := by have h1 := D2.out; have h2 := d3; show Below _ _ _; ((have zz0 := Below.size h2; (try simp at zz0); have zz1 := Below.size h1; (try simp at zz1); repeat (first | exact Below.refl _ _ | refine Below.drew ?_ | refine below_drewN ?_ _ | refine Below.alloc ?_ (by first | omega | (simp; done) | (simp; omega)) _ | refine Below.setCell ?_ (by first | omega | (simp; done) | (simp; omega)) _ | (with_reducible refine Below.trans ?_ (Below.mono h2 (by first | omega | (simp; done) | (simp; omega)))) | (with_reducible refine Below.trans ?_ (Below.mono h1 (by first | omega | (simp; done) | (simp; omega)))))))
  clear HT2 HS2 D2 d3
  go_wp2_with fail
  refine (rget_l Y (by omega) _).mono ?_; rintro e v4 ⟨rfl, d4⟩
  have T4 := (HT3.out.al (.cells #[.int .u32 y0, .int .u16 y1] 25)).keep d4
  have S4 := (HS3.out.al (.cells #[.int .u32 y0, .int .u16 y1] 25)).keep d4
  have P4 := HP3.out.keep d4
  have Q5 := Two.new v4 (.int .u32 y0) (.int .u16 y1) 27
  have T5 := T4.al (.cells #[.int .u32 y0, .int .u16 y1] 27)
  have S5 := S4.al (.cells #[.int .u32 y0, .int .u16 y1] 27)
  have P5 := P4.al (.cells #[.int .u32 y0, .int .u16 y1] 27)
  have D5 : Hid (Below w.heap.size w (v4.alloc (.cells #[.int .u32 y0, .int .u16 y1] 27))) := by have h1 := D3.out; have h2 := d4; show Below _ _ _; ((have zz0 := Below.size h2; (try simp at zz0); have zz1 := Below.size h1; (try simp at zz1); repeat (first | exact Below.refl _ _ | refine Below.drew ?_ | refine below_drewN ?_ _ | refine Below.alloc ?_ (by first | omega | (simp; done) | (simp; omega)) _ | refine Below.setCell ?_ (by first | omega | (simp; done) | (simp; omega)) _ | (with_reducible refine Below.trans ?_ (Below.mono h2 (by first | omega | (simp; done) | (simp; omega)))) | (with_reducible refine Below.trans ?_ (Below.mono h1 (by first | omega | (simp; done) | (simp; omega)))))))
  clear HT3 HS3 HP3 D3 d4 T4 S4 P4
  go_upto_region 18 with fail
  generalize (v4.alloc (.cells #[.int .u32 y0, .int .u16 y1] 27)) = wq at *
  have k0 := cell_regrown T5.c0
  have k1 := cell_regrown T5.c1
  have k2 := cell_regrown S5.c0
  have k3 := cell_regrown S5.c1
  have k4 := cell_regrown P5.c0
  have k5 := cell_regrown P5.c1
  have k6 := cell_regrown Q5.c0
  have k7 := cell_regrown Q5.c1
  clear T5 S5 P5 Q5
  have C1 := fun d os => Calls.regrown_of (ref_any x0 x1 (grow (redrawn wq d) os))
  have C2 := fun d os => Calls.regrown_of (ref_any y0 y1 (grow (redrawn wq d) os))
  (refine wp_region_quiet_below (by kernel_rfl) (by kernel_rfl) ?_; (repeat (go_big_quiet_step (first | with_reducible exact C1 _ _ | with_reducible exact C2 _ _))); refine wpQuiet_nil ?_; intro _ hw'; obtain ⟨⟨dq, osq⟩, hw''⟩ := hw'; subst hw'')
  go_wp2
  go_ret
  exact ⟨rfl, D5.out.trans ((below_regrown wq dq osq).mono D5.out.size)⟩

theorem addrReads_run (a p : Int) (s : ByteArray) (own at_ by_ : Int) (b : ByteArray) (w : World) (wa : (Lit.int .u32 a).wf = true) (wp : (Lit.int .u16 p).wf = true) (ws : s.size ≤ 140737488355327) (wo : (Lit.int .u8 own).wf = true) (wt : (Lit.int .i64 at_).wf = true) (wy : (Lit.int .u8 by_).wf = true) (wb : b.size ≤ 140737488355327) (ht : Tab w) :
    Calls Tryd.prog 4 #[.agg #[.int .u32 a, .int .u16 p], .string s, .int .u8 own, .int .i64 at_, .int .u8 by_, .string b] w fun e w' => e = .returned (.bool true) ∧ Below w.heap.size w w' := by
  have ba := bounds_u32 wa
  have bp := bounds_u16 wp
  have bo := bounds_u8 wo
  have bt := bounds_i64 wt
  have bb := bounds_u8 wy
  obtain ⟨a, rfl⟩ := Int.eq_ofNat_of_zero_le ba.1
  obtain ⟨p, rfl⟩ := Int.eq_ofNat_of_zero_le bp.1
  obtain ⟨y, rfl⟩ := Int.eq_ofNat_of_zero_le bb.1
  have h4 : own % 4 = 0 ∨ own % 4 = 1 ∨ own % 4 = 2 ∨ own % 4 = 3 := by omega
  rcases h4 with h | h | h | h
  · exact addrReads_0 a p s b own at_ y (by omega) (by omega) ws wb h bo bt (by omega) w ht
  · exact addrReads_1 a p s b own at_ y (by omega) (by omega) ws wb h bo bt (by omega) w ht
  · exact addrReads_2 a p s b own at_ y (by omega) (by omega) ws wb h bo bt (by omega) w ht
  · exact addrReads_3 a p s b own at_ y (by omega) (by omega) ws wb h bo bt (by omega) w ht

theorem addrReads_own : ownKnob Tryd.prog.godebug = none := by kernel_rfl
theorem addrReads_laid : laidOutB Tryd.prog = true := by kernel_rfl
set_option maxRecDepth 100000 in
theorem addrReads_lifted (os : Os) (started : os.Started) (H : Type) (enc : TypeId × Value → H) :
    ReturnsInHanded {} Tryd.checked os 4 .any (fun w args => (Rows.addrReadsSpec.pre enc Tryd.prog Tryd.f4 [] false w args ∧ laidMetH Tryd.prog seatLaid w) ∧ sizedMet enc Tryd.prog Tryd.f4 (OpenSpec.ofChange Rows.addrReadsSpec) false w args) (Rows.addrReadsSpec.post enc Tryd.prog Tryd.f4 false true false false) := by
  refine returnsInHanded_of_change_and (C := Tryd.checked) (X := fun w _ => laidMetH Tryd.prog seatLaid w) (fun _ _ _ hh h => h.of_heap hh) addrReads_own started (by kernel_rfl) Tryd.func4
    (ChangeSpec.witness_shaped (enc := enc) (C := Tryd.checked) (os := os) (X := fun w _ => laidMetH Tryd.prog seatLaid w) false (World.doorLaid Tryd.prog seatSteps os) #[.agg #[.int .u32 0, .int .u16 0], .string ⟨#[]⟩, .int .u8 0, .int .i64 0, .int .u8 0, .string ⟨#[]⟩] 8 rfl (World.shaped_of_RefB (by kernel_rfl) (by kernel_rfl)) (by kernel_rfl) (by kernel_rfl) (by kernel_rfl) (door_met os _)) ?_
  intro W base args ds gs before hval0 hW hcnd hsz hL _
  have hval : ∀ (j : Nat) t v, Tryd.f4.params[j]? = some t → args[j]? = some v → Value.okWide Tryd.prog W .any base t v := hval0
  have hW' := hW
  obtain ⟨p, q, hA0, hV, rfl, hfz, hnd⟩ := hW
  have hA : DataW.TrodAll enc Tryd.prog W 0 (fun _ => true) true Tryd.f4.params.toList args.toList ds p := hA0
  rw [Tryd.params4] at hA hval
  obtain ⟨v0, vs0, d0, ds0, p0, q0, hargs, rfl, rfl, h0, r0⟩ := trodAll_cons hA
  obtain ⟨v1, vs1, d1, ds1, p1, q1, rfl, rfl, rfl, h1, r1⟩ := trodAll_cons r0
  obtain ⟨v2, vs2, d2, ds2, p2, q2, rfl, rfl, rfl, h2, r2⟩ := trodAll_cons r1
  obtain ⟨v3, vs3, d3, ds3, p3, q3, rfl, rfl, rfl, h3, r3⟩ := trodAll_cons r2
  obtain ⟨v4, vs4, d4, ds4, p4, q4, rfl, rfl, rfl, h4, r4⟩ := trodAll_cons r3
  obtain ⟨v5, vs5, d5, ds5, p5, q5, rfl, rfl, rfl, h5, r5⟩ := trodAll_cons r4
  obtain ⟨rfl, rfl, rfl⟩ := trodAll_nil r5
  obtain rfl : args = #[v0, v1, v2, v3, v4, v5] := by cases args; simp_all
  obtain ⟨rfl, rfl⟩ := trodVars_none hV
  have k0 := h0
  have lt0 : ∀ x ∈ p0, x.block < W.heap.size := by obtain ⟨m, hm⟩ := k0; exact DataW.trod_lt m _ _ _ hm
  obtain ⟨c0_0, c0_1, y0_0, y0_1, n0, rfl, rfl, rfl, t0_0, t0_1⟩ := Joins.open_agg2 Tryd.underlying25 (by kernel_rfl) (by kernel_rfl) (hval 0 25 v0 rfl rfl) h0
  obtain ⟨a0_0, e0_0, rfl, w0_0⟩ := DataW.trod_int Tryd.underlying22 t0_0
  obtain rfl := (List.cons.inj e0_0).1
  obtain ⟨a0_1, e0_1, rfl, w0_1⟩ := DataW.trod_int Tryd.underlying23 t0_1
  obtain rfl := (List.cons.inj e0_1).1
  obtain ⟨a1, rfl, rfl, rfl, m1⟩ := open_string Tryd.underlying9 (hval 1 9 v1 rfl rfl) h1
  obtain ⟨a2, rfl, rfl, rfl, w2⟩ := open_int Tryd.underlying5 (hval 2 5 v2 rfl rfl) h2
  obtain ⟨a3, rfl, rfl, rfl, w3⟩ := open_int Tryd.underlying3 (hval 3 3 v3 rfl rfl) h3
  obtain ⟨a4, rfl, rfl, rfl, w4⟩ := open_int Tryd.underlying5 (hval 4 5 v4 rfl rfl) h4
  obtain ⟨a5, rfl, rfl, rfl, m5⟩ := open_string Tryd.underlying9 (hval 5 9 v5 rfl rfl) h5
  have w1 : a1.size ≤ 140737488355327 := by
    have h := sized_string (j := 1) (t := 9) (bytes := a1.data.toList) hsz rfl rfl
    have h2 := reachBytes_lt
    have h3 := Lib.size_eq a1
    omega
  have w5 : a5.size ≤ 140737488355327 := by
    have h := sized_string (j := 5) (t := 9) (bytes := a5.data.toList) hsz rfl rfl
    have h2 := reachBytes_lt
    have h3 := Lib.size_eq a5
    omega
  clear hA0 hval0
  refine (addrReads_run a0_0 a0_1 a1 a2 a3 a4 a5 W w0_0 w0_1 w1 w2 w3 w4 w5 (tab_of_laid hL)).mono fun e W' ⟨he, bel⟩ => ?_
  subst he
  exact ⟨_, rfl, _, _, _, [], _, [], hW', trodAll_mk1 (shut_bool Tryd.underlying4 _), (trodAll_cons_mk (Below.trod addrReads_laid (by kernel_rfl) (of_decide_eq_true (by kernel_rfl)) k0 bel lt0) (trodAll_cons_mk (shut_string Tryd.underlying9 m1) (trodAll_cons_mk (shut_int Tryd.underlying5 w2) (trodAll_cons_mk (shut_int Tryd.underlying3 w3) (trodAll_cons_mk (shut_int Tryd.underlying5 w4) (trodAll_cons_mk (shut_string Tryd.underlying9 m5) trodAll_mk0)))))), rfl, bel.frame _, fun h => by cases h⟩
theorem addrReads_over : Rows.addrReadsRow.holds Tryd.pinned (OpenSpec.ofChange Rows.addrReadsSpec) :=
  OpenClaim.holds_of_wide 4 Tryd.f4 rfl rfl rfl rfl rfl rfl rfl ⟨rfl, rfl, rfl, rfl, rfl⟩ rfl rfl rfl rfl rfl (by kernel_rfl) Tryd.func4 (by kernel_rfl)
    (of_decide_eq_true (by kernel_rfl)) (by unfold Func.isWrapper; first | (rw [if_pos (by decide +kernel)]; kernel_rfl) | (rw [if_neg (by decide +kernel)]; exact ⟨rfl, rfl⟩))
    (fun os started H enc _ => addrReads_lifted os started H enc)
theorem addrReads_holds : Rows.AddrReadsCardSaid :=
  Claim7.holds_tied_plain_at .later [] [.data, .data, .data] true Rows.addrReadsCard.stood.harness false addrReads_over (fun _ h => by cases h) (by kernel_rfl) (fun _ h => by cases h) addrReads_row_tie rfl ⟨rfl, rfl⟩ (by kernel_rfl) rfl
    (fun f fn hf hfn => by
      obtain rfl : f = 4 := Option.some.inj ((show Tryd.prog.funcNamed "scuttlebutt/scuttlebuttlaw03.AddrReads" = some 4 by kernel_rfl).symm.trans hf) |>.symm
      obtain rfl : fn = Tryd.f4 := (Option.some.inj (Tryd.func4.symm.trans hfn)).symm
      exact ⟨by kernel_rfl, fun j t ht => by
        rw [Tryd.params4] at ht
        have hm : t ∈ [25, 9, 5, 3, 5, 9] := by simpa using Array.mem_of_getElem? ht
        have hall : ([25, 9, 5, 3, 5, 9].all fun u => !Tryd.prog.wantsStandIn u) = true := by kernel_rfl
        exact (show Tryd.prog.wantsStandIn t = false by simpa using List.all_eq_true.1 hall t hm)⟩)
    (by kernel_rfl)
#print axioms addrReads_holds
end Go.Proofs.YtdihpiggknhojaaDoor
