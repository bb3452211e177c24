/- The contract of Put. -/
import Derived.Test.YtmhlnlippfaclaaDoorWirePutF
namespace Go.Proofs.YtmhlnlippfaclaaDoor
open Go.Sort Go.RowKit Go.BigFrame
set_option linter.unusedVariables false
set_option linter.unusedSimpArgs false

theorem putF_size (m : Ms) (hm : m.Ok) (j : Nat) (hj : j < 6) (hr : m.rightF j = true) : (m.putF j).size ≤ 1000 := by
  rcases j with _ | _ | _ | _ | _ | j
  · show (numB _ 1).size ≤ _; rw [numB_size]; omega
  · show (putB _ _).size ≤ _; rw [putB_size]; omega
  · exact Nat.le_trans hm.pb (by omega)
  · show (numB _ 1).size ≤ _; rw [numB_size]; omega
  · have h : (decide (1 ≤ m.b.size) && decide (m.b.size ≤ 900)) = true := hr
    rw [Bool.and_eq_true] at h
    have h2 := of_decide_eq_true h.2
    show (numB _ 2 ++ m.b).size ≤ _
    rw [ByteArray.size_append, numB_size]; omega
  · rcases j with _ | j
    · have h : (decide (m.rs.length ≤ mostN m.k) && m.rs.all Rec.right) = true := hr
      rw [Bool.and_eq_true] at h
      have h1 := of_decide_eq_true h.1
      have h3 : mostN m.k ≤ 32 := by unfold mostN; split <;> omega
      show (numB _ 1 ++ newsP m.rs).size ≤ _
      rw [ByteArray.size_append, numB_size, newsP_size]; omega
    · omega
theorem fitsUp_at {m : Ms} {n : Nat} (h : m.fitsUp n = true) (j : Nat) (hj : j < n) : m.fits j = true := by
  cases hf : m.fits j
  · rw [fitsUp_false hf n hj] at h; cases h
  · rfl
theorem put_none (m : Ms) (hm : m.Ok) (hr : m.right = false) (w : World) (ha : m.At w) :
    Calls Tryd.prog 6 #[.agg #[.int .i64 (m.k : Nat), .int .i64 m.f, .int .u32 (m.q : Nat), .int .i64 m.n, .int .u32 (m.ip : Nat), .int .u16 (m.port : Nat), .complex .f64 m.re m.im, .bool m.fl, .string m.b, .slice m.a m.rs.length m.cap]] w fun e w' => e = .returned (.tuple #[.string ⟨#[]⟩, .bool false]) ∧ Below w.heap.size w w' := by
  have R := Lib.hid (right_ms m hm)
  rw [hr] at R
  clear hm hr
  go_enter Tryd.func6, Tryd.ntmps6
  have HA : Hid (m.At (w.alloc (.cells #[.int .i64 (m.k : Nat), .int .i64 m.f, .int .u32 (m.q : Nat), .int .i64 m.n, .int .u32 (m.ip : Nat), .int .u16 (m.port : Nat), .complex .f64 m.re m.im, .bool m.fl, .string m.b, .slice m.a m.rs.length m.cap] 35))) := ha.keep (by (repeat (first | with_reducible exact Below.refl _ _ | with_reducible refine Below.drew ?_ | with_reducible refine below_drewN ?_ _ | with_reducible refine Below.alloc ?_ (by first | omega | (simp; done) | (simp; omega)) _ | with_reducible refine Below.setCell ?_ (by first | omega | (simp; done) | (simp; omega)) _)))
  clear ha
  go_wp2
  refine wp_scope_fwd 0 rfl ?_
  go_wp2_with fail
  refine (R.out _ HA.out).mono ?_; rintro e w1 ⟨rfl, b1⟩
  go_wp2_with fail
  go_step3
  go_wp2
  refine ⟨rfl, ?_⟩
  go_wp2
  rw [Exit.noGoto_ret]
  refine bodyPost_ret (v := .tuple #[.string ⟨#[]⟩, .bool false]) (by simp [results, Tryd.results6, go_sem]) rfl ⟨rfl, ?_⟩
  (have zz0 := Below.size b1; (try simp at zz0); repeat (first | with_reducible exact Below.refl _ _ | with_reducible refine Below.drew ?_ | with_reducible refine below_drewN ?_ _ | with_reducible refine Below.alloc ?_ (by first | omega | (simp; done) | (simp; omega)) _ | with_reducible refine Below.setCell ?_ (by first | omega | (simp; done) | (simp; omega)) _ | (with_reducible refine Below.trans ?_ (Below.mono b1 (by first | omega | (simp; done) | (simp; omega))))))
def PutMJ (m : Ms) (w0 : World) (s i : Value) (wr : World) : Prop := ∃ (j : Nat) (S : ByteArray), j ≤ 6 ∧ i = .int .i64 j ∧ s = .string S ∧ S = m.putUp j ∧ S.size ≤ 6 + 1000 * j ∧ Below w0.heap.size w0 wr
theorem head_size (m : Ms) : m.head.size = 6 := by unfold Ms.head; rw [ByteArray.size_append, ByteArray.size_append, numB_size, numB_size, numB_size]
theorem putUp_yes {m : Ms} {j : Nat} (h : hasB m.k j = true) : m.putUp (j + 1) = m.putUp j ++ m.putF j := by rw [Ms.putUp, if_pos h]
theorem putUp_no {m : Ms} {j : Nat} (h : hasB m.k j = false) : m.putUp (j + 1) = m.putUp j := by rw [Ms.putUp, if_neg (by rw [h]; decide)]
set_option maxHeartbeats 1600000 in
theorem put_some (m : Ms) (hm : m.Ok) (hr : m.right = true) (hz : (m.putUp 6).size ≤ 1024) (w : World) (ha : m.At w) :
    Calls Tryd.prog 6 #[.agg #[.int .i64 (m.k : Nat), .int .i64 m.f, .int .u32 (m.q : Nat), .int .i64 m.n, .int .u32 (m.ip : Nat), .int .u16 (m.port : Nat), .complex .f64 m.re m.im, .bool m.fl, .string m.b, .slice m.a m.rs.length m.cap]] w fun e w' => e = .returned (.tuple #[.string (m.putUp 6), .bool true]) ∧ Below w.heap.size w w' := by
  have R := Lib.hid (right_ms m hm)
  rw [hr] at R
  have hr2 : (kindB m.k && (nodeB m.f && m.fitsUp 6)) = true := hr
  rw [Bool.and_eq_true, Bool.and_eq_true] at hr2
  obtain ⟨hk, hf, hfit⟩ := hr2
  have hk2 : m.k < 17 := hm.k
  have hf2 : 1 ≤ m.f ∧ m.f ≤ 32 := by unfold nodeB at hf; simp at hf; exact hf
  have hq2 := hm.q
  have N1 := Lib.hid (fun w => num_at (m.k : Int) (1 : Int) m.k 1 rfl rfl (by omega) (by omega) (by omega) w)
  have N2 := Lib.hid (fun w => num_at (m.f : Int) (1 : Int) m.f.toNat 1 (by omega) rfl (by omega) (by omega) (by omega) w)
  have N3 := Lib.hid (fun w => num_at (m.q : Int) (4 : Int) m.q 4 rfl rfl (by omega) (by omega) (by omega) w)
  have c1 := IntWalk.u64_in (m.k : Int) ⟨by omega, by omega⟩
  have c2 := IntWalk.u64_in m.f ⟨by omega, by omega⟩
  have c3 := IntWalk.u64_in (m.q : Int) ⟨by omega, by omega⟩
  have HP : Hid (m.putUp 0 = (numB m.k 1 ++ numB m.f.toNat 1) ++ numB m.q 4) := rfl
  have z1 := numB_size m.k 1
  have z2 := numB_size m.f.toNat 1
  have z3 := numB_size m.q 4
  have hz0 : (m.putUp 0).size = 6 := head_size m
  have HF := Lib.hid (fun j hj w ht => hasField_j m.k hm.k j hj w ht)
  have PF := Lib.hid (fun j hj hr w ha => putF_any m hm j hj hr w ha)
  have Fit := Lib.hid (fun j hj => fitsUp_at hfit j hj)
  have PS := Lib.hid (fun j hj hr => putF_size m hm j hj hr)
  generalize numB m.k 1 = p1 at *
  generalize numB m.f.toNat 1 = p2 at *
  generalize numB m.q 4 = p3 at *
  clear hm hr hk hf hfit hk2 hf2 hq2
  go_enter Tryd.func6, Tryd.ntmps6
  have X : Hid (Cs w.heap.size m.list (w.alloc (.cells #[.int .i64 (m.k : Nat), .int .i64 m.f, .int .u32 (m.q : Nat), .int .i64 m.n, .int .u32 (m.ip : Nat), .int .u16 (m.port : Nat), .complex .f64 m.re m.im, .bool m.fl, .string m.b, .slice m.a m.rs.length m.cap] 35))) := Cs.new w m.list 35
  have hB : Hid (Below w.heap.size w (w.alloc (.cells #[.int .i64 (m.k : Nat), .int .i64 m.f, .int .u32 (m.q : Nat), .int .i64 m.n, .int .u32 (m.ip : Nat), .int .u16 (m.port : Nat), .complex .f64 m.re m.im, .bool m.fl, .string m.b, .slice m.a m.rs.length m.cap] 35))) := by show Below _ _ _; (repeat (first | with_reducible exact Below.refl _ _ | with_reducible refine Below.drew ?_ | with_reducible refine below_drewN ?_ _ | with_reducible refine Below.alloc ?_ (by first | omega | (simp; done) | (simp; omega)) _ | with_reducible refine Below.setCell ?_ (by first | omega | (simp; done) | (simp; omega)) _))
  have HA : Hid (m.At (w.alloc (.cells #[.int .i64 (m.k : Nat), .int .i64 m.f, .int .u32 (m.q : Nat), .int .i64 m.n, .int .u32 (m.ip : Nat), .int .u16 (m.port : Nat), .complex .f64 m.re m.im, .bool m.fl, .string m.b, .slice m.a m.rs.length m.cap] 35))) := ha.keep hB.out
  clear ha
  go_wp2
  refine wp_scope_fwd 0 rfl ?_
  go_wp2_with fail
  refine (R.out _ HA.out).mono ?_; rintro e w1 ⟨rfl, b1⟩
  replace hB : Hid (Below w.heap.size w w1) := hB.out.trans (b1.mono hB.out.size)
  replace X := Lib.hid (X.out.keep b1)
  replace HA := Lib.hid (HA.out.keep b1)
  clear b1 R
  have y0 := X.out.cell 0 (.int .i64 (m.k : Nat)) rfl
  have y1 := X.out.cell 1 (.int .i64 m.f) rfl
  have y2 := X.out.cell 2 (.int .u32 (m.q : Nat)) rfl
  go_upto_region 3 with fail
  have y0 := cell_regrown y0
  have y1 := cell_regrown y1
  have y2 := cell_regrown y2
  have C1 := fun d os => Calls.regrown_of (N1.out (grow (redrawn w1 d) os))
  have C2 := fun d os => Calls.regrown_of (N2.out (grow (redrawn w1 d) os))
  have C3 := fun d os => Calls.regrown_of (N3.out (grow (redrawn w1 d) os))
  (refine wp_region_quiet_below (by kernel_rfl) (by kernel_rfl) ?_; (repeat (go_big_quiet_step (first | with_reducible exact C1 _ _ | with_reducible exact C2 _ _ | with_reducible exact C3 _ _))); refine wpQuiet_nil ?_; intro _ hw'; obtain ⟨⟨dq, osq⟩, hw''⟩ := hw'; subst hw'')
  have bq := below_regrown w1 dq osq
  generalize (grow (redrawn w1 dq) osq) = w2 at *
  replace hB : Hid (Below w.heap.size w w2) := hB.out.trans (bq.mono hB.out.size)
  replace X := Lib.hid (X.out.keep bq)
  replace HA := Lib.hid (HA.out.keep bq)
  clear bq y0 y1 y2 C1 C2 C3 N1 N2 N3 c1 c2 c3 z1 z2 z3
  go_wp2_with fail
  go_loopw [4, 5, 23] (fun s _ i wr => PutMJ m w2 s i wr) (fun _ _ i _ => 6 - (intOf i).toNat)
  case atStart => exact ⟨0, _, Nat.zero_le _, rfl, rfl, HP.out.symm, by rw [← HP.out, hz0]; omega, Below.refl _ _⟩
  case round =>
    obtain ⟨j, S, hj, rfl, rfl, hS, zS, hb⟩ := hrel
    have HS := Lib.hid hS
    replace X := Lib.hid (X.out.keep hb)
    replace HA := Lib.hid (HA.out.keep hb)
    have hB1 : Hid (Below w.heap.size w wr) := hB.out.trans (hb.mono hB.out.size)
    clear hB hS HP hz0
    have x0 := X.out.cell 0 _ rfl
    by_cases hlt : j < 6
    · have hlt' : (j : Int) < 6 := by omega
      have H := HF.out j hlt wr HA.out.tab
      have fj := Fit.out j hlt
      cases hh : hasB m.k j
      · rw [hh] at H
        have E : Hid (S = m.putUp (j + 1)) := by show _ = _; rw [putUp_no hh]; exact HS.out
        clear HF Fit PF PS fj hh
        go_wp2_with fail
        refine H.mono ?_; rintro e w3 ⟨rfl, b3⟩
        go_wp2
        go_roundw
        case rel => exact ⟨j + 1, S, by omega, by go_num, rfl, E.out, by omega, hb.trans (b3.mono hb.size)⟩
        case measure => simp [intOf]; omega
      · rw [hh] at H
        have fr : m.rightF j = true := by
          have h : (if hasB m.k j = true then m.rightF j else m.zeroF j) = true := fj
          rw [hh] at h; exact h
        have zF := PS.out j hlt fr
        have P := Lib.hid (fun w ha => PF.out j hlt fr w ha)
        have E : Hid (S ++ m.putF j = m.putUp (j + 1)) := by show _ = _; rw [putUp_yes hh, HS.out]
        generalize m.putF j = F at *
        clear HF Fit PF PS fj hh fr
        go_wp2_with fail
        refine H.mono ?_; rintro e w3 ⟨rfl, b3⟩
        replace X := Lib.hid (X.out.keep b3)
        replace HA := Lib.hid (HA.out.keep b3)
        clear x0
        have x0 := X.out.cell 0 _ rfl
        have x1 := X.out.cell 1 _ rfl
        have x2 := X.out.cell 2 _ rfl
        have x3 := X.out.cell 3 _ rfl
        have x4 := X.out.cell 4 _ rfl
        have x5 := X.out.cell 5 _ rfl
        have x6 := X.out.cell 6 _ rfl
        have x7 := X.out.cell 7 _ rfl
        have x8 := X.out.cell 8 _ rfl
        have x9 := X.out.cell 9 _ rfl
        go_wp2_with fail
        refine (P.out _ HA.out).mono ?_; rintro e w4 ⟨rfl, b4⟩
        go_wp2
        go_roundw
        case rel => exact ⟨j + 1, S ++ F, by omega, by go_num, rfl, E.out, by rw [ByteArray.size_append]; omega, (hb.trans (b3.mono hb.size)).trans (b4.mono (Nat.le_trans hb.size b3.size))⟩
        case measure => simp [intOf]; omega
    · obtain rfl : j = 6 := by omega
      have z6 : S.size ≤ 1024 := by rw [HS.out]; exact hz
      clear HF Fit PF PS HA X x0
      go_wp2
      simp only [Exit.jump]
      refine bodyPost_ret (v := .tuple #[.string S, .bool true]) (by simp [results, Tryd.results6, go_sem]) rfl ⟨by rw [HS.out], ?_⟩
      exact hB1.out
end Go.Proofs.YtmhlnlippfaclaaDoor
