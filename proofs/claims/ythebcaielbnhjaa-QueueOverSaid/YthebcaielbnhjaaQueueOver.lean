/- QueueOver: what is over takes the place of what it is over, and is told anew; what is not is refused; with no room the one that was told most goes: for every two records of one node, every room of 1 to 8, however many more. -/
import Derived.Test.YthebcaielbnhjaaQuOver
namespace Go.Proofs.Ythebcaielbnhjaa
open Go.Sort Go.RowKit Go.BigFrame Go.ChangeShapes Go.WideShapes Go.ChangeAt
open Go.ChangeMaps (open_string shut_string)
set_option linter.unusedVariables false
set_option linter.unusedSimpArgs false

theorem St.set {w0 w : World} {b : Nat} {vs : List Value} (H1 H2 : List Hl) (s : St w0 (H1 ++ hC b vs :: H2) w) (i : Nat) (v : Value) (hi : i < vs.length) : St w0 (H1 ++ hC b (vs.set i v) :: H2) (w.setCell ⟨b, i, none⟩ v) :=
  s.aft (h' := hC b (vs.set i v)) (Touch.set (F := fun k => k = b) (Touch.refl _ _) (fun _ => rfl) _) ((s.cs (by simp)).set i v hi) (fun k hk => .inl hk)
def VJ (k n : Nat) (x : Im) (w0 : World) (g : Nat) (H : List Hl) (iv : Value) (wr : World) : Prop := ∃ (i : Nat) (v : Sl) (S : List Im), iv = .int .i64 (i : Nat) ∧ i ≤ n ∧ OvS k x i S ∧ St w0 (H ++ [hQ true g k v S]) wr
set_option maxHeartbeats 12800000 in
set_option maxRecDepth 100000 in
theorem over_walk (rx ry : Rec) (ox oy : Bool) (hx : rx.Ok) (hy : ry.Ok) (room more : Int) (w : World) (r0 : 0 ≤ room ∧ room ≤ 255) (m0 : 0 ≤ more ∧ more ≤ 255) :
    Calls Try.prog 5 #[.agg #[.int .i64 rx.id, .int .i64 rx.st, .int .u32 rx.n, .int .u32 rx.ip, .int .u16 rx.port, .bool ox], .agg #[.int .i64 ry.id, .int .i64 ry.st, .int .u32 ry.n, .int .u32 ry.ip, .int .u16 ry.port, .bool oy], .int .u8 room, .int .u8 more] w fun e w' => e = .returned (.bool true) ∧ Below w.heap.size w w' := by
  have A0 : Hid (St w [hC (w.heap.size + 1) [.int .i64 ry.id, .int .i64 ry.st, .int .u32 ry.n, .int .u32 ry.ip, .int .u16 ry.port, .bool oy], hC w.heap.size [.int .i64 rx.id, .int .i64 rx.st, .int .u32 rx.n, .int .u32 rx.ip, .int .u16 rx.port, .bool ox]] ((w.alloc (.cells #[.int .i64 rx.id, .int .i64 rx.st, .int .u32 rx.n, .int .u32 rx.ip, .int .u16 rx.port, .bool ox] 39)).alloc (.cells #[.int .i64 ry.id, .int .i64 ry.st, .int .u32 ry.n, .int .u32 ry.ip, .int .u16 ry.port, .bool oy] 39))) := by
    have := ((St.start w w (Below.refl _ _)).box [.int .i64 rx.id, .int .i64 rx.st, .int .u32 rx.n, .int .u32 rx.ip, .int .u16 rx.port, .bool ox] 39).box [.int .i64 ry.id, .int .i64 ry.st, .int .u32 ry.n, .int .u32 ry.ip, .int .u16 ry.port, .bool oy] 39
    simp only [World.size_alloc] at this
    exact this
  have E := fun w => ex_any w
  have TX1 := thing_own rx hx
  have TY1 := thing_own ry hy
  obtain ⟨q, hq⟩ : ∃ q, room % 8 = q := ⟨_, rfl⟩
  have hq2 : room.tmod 8 = q := by rw [tmod_pos _ _ r0.1]; exact hq
  have q0 : 0 ≤ q ∧ q < 8 := by omega
  have cq := IntWalk.u8_in q ⟨by omega, by omega⟩
  have cq2 := IntWalk.i64_in q ⟨by omega, by omega⟩
  have cq3 := IntWalk.i64_in (1 + q) ⟨by omega, by omega⟩
  obtain ⟨kk, hkk⟩ : ∃ kk : Nat, 1 + q = (kk : Int) := ⟨(1 + q).toNat, by omega⟩
  have hk1 : 1 ≤ kk := by omega
  have hk8 : kk ≤ 8 := by omega
  obtain ⟨n, hn⟩ : ∃ n : Nat, more % 12 = (n : Int) := ⟨(more % 12).toNat, by omega⟩
  have hn2 : more.tmod 12 = (n : Int) := by rw [tmod_pos _ _ m0.1]; exact hn
  have hn11 : n ≤ 11 := by omega
  have cn := IntWalk.u8_in (n : Int) ⟨by omega, by omega⟩
  have cn2 := IntWalk.i64_in (n : Int) ⟨by omega, by omega⟩
  clear hq hn
  go_enter Try.func5, Try.ntmps5
  go_upto_region 1 with fail
  generalize ((w.alloc (.cells #[.int .i64 rx.id, .int .i64 rx.st, .int .u32 rx.n, .int .u32 rx.ip, .int .u16 rx.port, .bool ox] 39)).alloc (.cells #[.int .i64 ry.id, .int .i64 ry.st, .int .u32 ry.n, .int .u32 ry.ip, .int .u16 ry.port, .bool oy] 39)) = wa at *
  have hdb : w.heap.size + 1 ≠ w.heap.size := by omega
  generalize w.heap.size + 1 = by1 at *
  go_wp2_with fail
  refine (E _).mono ?_; rintro e w1 ⟨rfl, b1⟩
  have K := newq_ok kk hk1 (by omega) (A0.out.keep b1)
  clear E b1 A0
  go_wp2_with fail
  refine K.mono ?_; rintro e w2 ⟨g, rfl, s2⟩
  have S2 := Lib.hid s2
  clear K s2
  have x5 := (S2.out.cs (b := w.heap.size) (vs := [.int .i64 rx.id, .int .i64 rx.st, .int .u32 rx.n, .int .u32 rx.ip, .int .u16 rx.port, .bool ox]) (by simp)).cell 5 _ rfl
  have xf := (S2.out.cs (b := w.heap.size) (vs := [.int .i64 rx.id, .int .i64 rx.st, .int .u32 rx.n, .int .u32 rx.ip, .int .u16 rx.port, .bool ox]) (by simp)).free 5 _ rfl
  have y5 := (S2.out.cs (b := by1) (vs := [.int .i64 ry.id, .int .i64 ry.st, .int .u32 ry.n, .int .u32 ry.ip, .int .u16 ry.port, .bool oy]) (by simp)).cell 5 _ rfl
  have yf := (S2.out.cs (b := by1) (vs := [.int .i64 ry.id, .int .i64 ry.st, .int .u32 ry.n, .int .u32 ry.ip, .int .u16 ry.port, .bool oy]) (by simp)).free 5 _ rfl
  have S3 : Hid (St w [hQ true g kk ⟨none, 0, 0⟩ [], hC by1 [.int .i64 ry.id, .int .i64 ry.st, .int .u32 ry.n, .int .u32 ry.ip, .int .u16 ry.port, .bool true], hC w.heap.size [.int .i64 rx.id, .int .i64 rx.st, .int .u32 rx.n, .int .u32 rx.ip, .int .u16 rx.port, .bool true]] ((w2.setCell ⟨w.heap.size, 5, none⟩ (.bool true)).setCell ⟨by1, 5, none⟩ (.bool true))) :=
    St.set [_] [_] (St.set [_, _] [] S2.out 5 (.bool true) (by show 5 < 6; omega)) 5 (.bool true) (by show 5 < 6; omega)
  clear S2
  go_upto_region 10 with fail
  generalize ((w2.setCell ⟨w.heap.size, 5, none⟩ (.bool true)).setCell ⟨by1, 5, none⟩ (.bool true)) = w3 at *
  clear x5 xf y5 yf
  have x0 := (S3.out.cs (b := w.heap.size) (vs := [.int .i64 rx.id, .int .i64 rx.st, .int .u32 rx.n, .int .u32 rx.ip, .int .u16 rx.port, .bool true]) (by simp)).cell 0 _ rfl
  have x1 := (S3.out.cs (b := w.heap.size) (vs := [.int .i64 rx.id, .int .i64 rx.st, .int .u32 rx.n, .int .u32 rx.ip, .int .u16 rx.port, .bool true]) (by simp)).cell 1 _ rfl
  have x2 := (S3.out.cs (b := w.heap.size) (vs := [.int .i64 rx.id, .int .i64 rx.st, .int .u32 rx.n, .int .u32 rx.ip, .int .u16 rx.port, .bool true]) (by simp)).cell 2 _ rfl
  have x3 := (S3.out.cs (b := w.heap.size) (vs := [.int .i64 rx.id, .int .i64 rx.st, .int .u32 rx.n, .int .u32 rx.ip, .int .u16 rx.port, .bool true]) (by simp)).cell 3 _ rfl
  have x4 := (S3.out.cs (b := w.heap.size) (vs := [.int .i64 rx.id, .int .i64 rx.st, .int .u32 rx.n, .int .u32 rx.ip, .int .u16 rx.port, .bool true]) (by simp)).cell 4 _ rfl
  have x5 := (S3.out.cs (b := w.heap.size) (vs := [.int .i64 rx.id, .int .i64 rx.st, .int .u32 rx.n, .int .u32 rx.ip, .int .u16 rx.port, .bool true]) (by simp)).cell 5 _ rfl
  go_wp2_with fail
  refine (TX1 _).mono ?_; rintro e w4 ⟨rfl, b4⟩
  have S4 : Hid (St w [hC w4.heap.size (rcs (ownR rx)), hQ true g kk ⟨none, 0, 0⟩ [], hC by1 [.int .i64 ry.id, .int .i64 ry.st, .int .u32 ry.n, .int .u32 ry.ip, .int .u16 ry.port, .bool true], hC w.heap.size [.int .i64 rx.id, .int .i64 rx.st, .int .u32 rx.n, .int .u32 rx.ip, .int .u16 rx.port, .bool true]] (w4.alloc (.cells #[.int .i64 (ownR rx).id, .int .i64 (ownR rx).st, .int .u32 (ownR rx).n, .int .u32 (ownR rx).ip, .int .u16 (ownR rx).port] 37))) := (S3.out.keep b4).box (rcs (ownR rx)) _
  clear b4 S3 TX1 x0 x1 x2 x3 x4 x5
  go_upto_region 11 with fail
  generalize (w4.alloc (.cells #[.int .i64 (ownR rx).id, .int .i64 (ownR rx).st, .int .u32 (ownR rx).n, .int .u32 (ownR rx).ip, .int .u16 (ownR rx).port] 37)) = w5 at *
  generalize w4.heap.size = ba at *
  have y0 := (S4.out.cs (b := by1) (vs := [.int .i64 ry.id, .int .i64 ry.st, .int .u32 ry.n, .int .u32 ry.ip, .int .u16 ry.port, .bool true]) (by simp)).cell 0 _ rfl
  have y1 := (S4.out.cs (b := by1) (vs := [.int .i64 ry.id, .int .i64 ry.st, .int .u32 ry.n, .int .u32 ry.ip, .int .u16 ry.port, .bool true]) (by simp)).cell 1 _ rfl
  have y2 := (S4.out.cs (b := by1) (vs := [.int .i64 ry.id, .int .i64 ry.st, .int .u32 ry.n, .int .u32 ry.ip, .int .u16 ry.port, .bool true]) (by simp)).cell 2 _ rfl
  have y3 := (S4.out.cs (b := by1) (vs := [.int .i64 ry.id, .int .i64 ry.st, .int .u32 ry.n, .int .u32 ry.ip, .int .u16 ry.port, .bool true]) (by simp)).cell 3 _ rfl
  have y4 := (S4.out.cs (b := by1) (vs := [.int .i64 ry.id, .int .i64 ry.st, .int .u32 ry.n, .int .u32 ry.ip, .int .u16 ry.port, .bool true]) (by simp)).cell 4 _ rfl
  have y5 := (S4.out.cs (b := by1) (vs := [.int .i64 ry.id, .int .i64 ry.st, .int .u32 ry.n, .int .u32 ry.ip, .int .u16 ry.port, .bool true]) (by simp)).cell 5 _ rfl
  go_wp2_with fail
  refine (TY1 _).mono ?_; rintro e w6 ⟨rfl, b6⟩
  have S6 : Hid (St w [hC w6.heap.size (rcs (ownR ry)), hC ba (rcs (ownR rx)), hQ true g kk ⟨none, 0, 0⟩ []] (w6.alloc (.cells #[.int .i64 (ownR ry).id, .int .i64 (ownR ry).st, .int .u32 (ownR ry).n, .int .u32 (ownR ry).ip, .int .u16 (ownR ry).port] 37))) := ((S4.out.keep b6).sub (H' := [hC ba (rcs (ownR rx)), hQ true g kk ⟨none, 0, 0⟩ []]) (by simp)).box (rcs (ownR ry)) _
  clear b6 S4 TY1 y0 y1 y2 y3 y4 y5
  go_upto_region 12 with fail
  generalize (w6.alloc (.cells #[.int .i64 (ownR ry).id, .int .i64 (ownR ry).st, .int .u32 (ownR ry).n, .int .u32 (ownR ry).ip, .int .u16 (ownR ry).port] 37)) = w7 at *
  generalize w6.heap.size = bb at *
  have a0 := (S6.out.cs (b := ba) (vs := rcs (ownR rx)) (by simp)).cell 0 _ rfl
  have af := (S6.out.cs (b := ba) (vs := rcs (ownR rx)) (by simp)).free 0 _ rfl
  have b0 := (S6.out.cs (b := bb) (vs := rcs (ownR ry)) (by simp)).cell 0 _ rfl
  have bf := (S6.out.cs (b := bb) (vs := rcs (ownR ry)) (by simp)).free 0 _ rfl
  have hab : ba ≠ bb := fun e => by
    have h := (List.pairwise_cons.1 S6.out.apart).1 (hC ba (rcs (ownR rx))) (by simp) bb rfl
    exact h e.symm
  have S8 : Hid (St w [hC bb (rcs (oneR ry)), hC ba (rcs (oneR rx)), hQ true g kk ⟨none, 0, 0⟩ []] ((w7.setCell ⟨ba, 0, none⟩ (.int .i64 1)).setCell ⟨bb, 0, none⟩ (.int .i64 1))) :=
    St.set [] [_, _] (St.set [_] [_] S6.out 0 (.int .i64 1) (by show 0 < 5; omega)) 0 (.int .i64 1) (by show 0 < 5; omega)
  clear S6
  go_upto_region 14 with fail
  generalize ((w7.setCell ⟨ba, 0, none⟩ (.int .i64 1)).setCell ⟨bb, 0, none⟩ (.int .i64 1)) = w8 at *
  clear a0 af b0 bf hab
  have hAk := oneR_ok rx
  have hBk := oneR_ok ry
  have hAr := oneR_right rx
  have hBr := oneR_right ry
  have hAB : (oneR rx).id = (oneR ry).id := rfl
  have F1 := Lib.hid (ov_first kk hk1 (oneR rx) hAr)
  have F2 := Lib.hid (ov_some (oneR rx))
  have F3 := Lib.hid (ov_second kk hk1 (oneR rx) (oneR ry) hBr hAB)
  have HA1 : Hid ((oneR rx).id = 1) := rfl
  have HB1 : Hid ((oneR ry).id = 1) := rfl
  have O := over_rec (oneR ry) (oneR rx) hBk hAk
  have HAR := Lib.hid hAr
  have HBR := Lib.hid hBr
  clear hAr hBr hAB hx hy
  generalize oneR rx = A at *
  generalize oneR ry = B at *
  have a0 := (S8.out.cs (b := ba) (vs := rcs A) (by simp)).cell 0 _ rfl
  have a1 := (S8.out.cs (b := ba) (vs := rcs A) (by simp)).cell 1 _ rfl
  have a2 := (S8.out.cs (b := ba) (vs := rcs A) (by simp)).cell 2 _ rfl
  have a3 := (S8.out.cs (b := ba) (vs := rcs A) (by simp)).cell 3 _ rfl
  have a4 := (S8.out.cs (b := ba) (vs := rcs A) (by simp)).cell 4 _ rfl
  have K := add_l A hAk 4 [_, _] [] S8.out
  rw [F1.out.1, F1.out.2] at K
  go_wp2_with fail
  refine K.mono ?_; rintro e w9 ⟨rfl, v9, s9⟩
  have K2 := some_l 1 [_, _] [] s9
  rw [F2.out.1, F2.out.2] at K2
  clear K s9 S8 a0 a1 a2 a3 a4
  go_wp2_with fail
  refine K2.mono ?_; rintro e w10 ⟨t10, v10, rfl, s10⟩
  have S10 : Hid (St w [hC bb (rcs B), hC ba (rcs A), hQ true g kk v10 [⟨A, 3⟩]] w10) := s10.drop
  clear K2 s10
  have b0 := (S10.out.cs (b := bb) (vs := rcs B) (by simp)).cell 0 _ rfl
  have b1 := (S10.out.cs (b := bb) (vs := rcs B) (by simp)).cell 1 _ rfl
  have b2 := (S10.out.cs (b := bb) (vs := rcs B) (by simp)).cell 2 _ rfl
  have b3 := (S10.out.cs (b := bb) (vs := rcs B) (by simp)).cell 3 _ rfl
  have b4 := (S10.out.cs (b := bb) (vs := rcs B) (by simp)).cell 4 _ rfl
  have K := add_l B hBk 4 [_, _] [] S10.out
  obtain ⟨ov, hov⟩ : ∃ ov, overR B A = ov := ⟨_, rfl⟩
  obtain ⟨ge, hge⟩ : ∃ ge, (if overR B A = true then (0 : Int) else 6) = ge := ⟨_, rfl⟩
  have hS : ∃ x : Im, ovS kk A B = [x] ∧ OkI x ∧ x.r.id = 1 ∧ x.left ≤ 4 ∧ (ov = true → x = ⟨B, 4⟩ ∧ ge = 0) ∧ (ov = false → x = ⟨A, 3⟩ ∧ ge = 6) := by
    unfold ovS
    cases ho : overR B A with
    | true =>
      rw [ho] at hov hge
      subst hov hge
      exact ⟨⟨B, 4⟩, rfl, ⟨hBk, HBR.out, by show (1 : Int) ≤ 4; omega, by show (4 : Int) ≤ 100; omega⟩, HB1.out, by show (4 : Int) ≤ 4; omega, fun _ => ⟨rfl, rfl⟩, fun e => (by cases e)⟩
    | false =>
      rw [ho] at hov hge
      subst hov hge
      exact ⟨⟨A, 3⟩, rfl, ⟨hAk, HAR.out, by show (1 : Int) ≤ 3; omega, by show (3 : Int) ≤ 100; omega⟩, HA1.out, by show (3 : Int) ≤ 4; omega, fun e => (by cases e), fun _ => ⟨rfl, rfl⟩⟩
  obtain ⟨x, hSx, hxo, hx1, hx4, hxt, hxf⟩ := hS
  rw [F3.out.1, F3.out.2, hge, hSx] at K
  rw [hov] at O
  replace hge := Lib.hid hge
  replace hov := Lib.hid hov
  replace hSx := Lib.hid hSx
  have HX1 := Lib.hid hx1
  have HX4 := Lib.hid hx4
  have HXO := Lib.hid hxo
  have HXT := Lib.hid hxt
  have HXF := Lib.hid hxf
  clear hx1 hx4 hxo hxt hxf HA1 HB1 HAR HBR F1 F2 F3
  go_wp2_with fail
  refine K.mono ?_; rintro e w11 ⟨rfl, v11, s11⟩
  have K2 := items_l (g := g) (room := kk) (v := v11) (S := [x]) s11 (by simp)
  clear K s11 S10 b0 b1 b2 b3 b4
  go_wp2_with fail
  refine K2.mono ?_; rintro e w12 ⟨u, rfl, s12⟩
  have S12 : Hid (St w [hE ci 6 61 u [x], hC bb (rcs B), hC ba (rcs A), hQ true g kk v11 [x]] w12) := s12
  clear K2 s12
  have a0 := (S12.out.cs (b := ba) (vs := rcs A) (by simp)).cell 0 _ rfl
  have a1 := (S12.out.cs (b := ba) (vs := rcs A) (by simp)).cell 1 _ rfl
  have a2 := (S12.out.cs (b := ba) (vs := rcs A) (by simp)).cell 2 _ rfl
  have a3 := (S12.out.cs (b := ba) (vs := rcs A) (by simp)).cell 3 _ rfl
  have a4 := (S12.out.cs (b := ba) (vs := rcs A) (by simp)).cell 4 _ rfl
  have b0 := (S12.out.cs (b := bb) (vs := rcs B) (by simp)).cell 0 _ rfl
  have b1 := (S12.out.cs (b := bb) (vs := rcs B) (by simp)).cell 1 _ rfl
  have b2 := (S12.out.cs (b := bb) (vs := rcs B) (by simp)).cell 2 _ rfl
  have b3 := (S12.out.cs (b := bb) (vs := rcs B) (by simp)).cell 3 _ rfl
  have b4 := (S12.out.cs (b := bb) (vs := rcs B) (by simp)).cell 4 _ rfl
  go_wp2_with fail
  refine (O _).mono ?_; rintro e w13 ⟨rfl, b13⟩
  have S13 := Lib.hid (S12.out.keep b13)
  clear O b13 S12 a0 a1 a2 a3 a4 b0 b1 b2 b3 b4
  go_upto_region 19 with fail
  go_cut [110] (fun c wx => c = .bool false ∧ St w [hQ true g kk v11 [x]] wx)
  case first =>
    have a0 := (S13.out.cs (b := ba) (vs := rcs A) (by simp)).cell 0 _ rfl
    have a1 := (S13.out.cs (b := ba) (vs := rcs A) (by simp)).cell 1 _ rfl
    have a2 := (S13.out.cs (b := ba) (vs := rcs A) (by simp)).cell 2 _ rfl
    have a3 := (S13.out.cs (b := ba) (vs := rcs A) (by simp)).cell 3 _ rfl
    have a4 := (S13.out.cs (b := ba) (vs := rcs A) (by simp)).cell 4 _ rfl
    have b0 := (S13.out.cs (b := bb) (vs := rcs B) (by simp)).cell 0 _ rfl
    have b1 := (S13.out.cs (b := bb) (vs := rcs B) (by simp)).cell 1 _ rfl
    have b2 := (S13.out.cs (b := bb) (vs := rcs B) (by simp)).cell 2 _ rfl
    have b3 := (S13.out.cs (b := bb) (vs := rcs B) (by simp)).cell 3 _ rfl
    have b4 := (S13.out.cs (b := bb) (vs := rcs B) (by simp)).cell 4 _ rfl
    obtain ⟨bu, ou, hbo, hbl, hcc⟩ := (S13.out.rd (T := 61) (u := u) (L := [x]) ci_enc (by simp)) (by simp)
    have hcx := hcc 0 x rfl
    have c0 := hcx 0 _ rfl
    have c1 := hcx 1 _ rfl
    have c2 := hcx 2 _ rfl
    have c3 := hcx 3 _ rfl
    have c4 := hcx 4 _ rfl
    have c5 := hcx 5 _ rfl
    obtain ⟨ua, un, uc⟩ := u
    simp only at hbo
    subst hbo
    have SD : Hid (∀ n, St w [hQ true g kk v11 [x]] (w13.drewN n)) := fun n => (S13.out.sub (H' := [hQ true g kk v11 [x]]) (by simp)).keep (below_drewN (Below.refl _ _) n)
    clear hcc hcx S13
    cases ov
    · obtain ⟨rfl, rfl⟩ := HXF.out rfl
      simp only [Nat.zero_mul, Nat.add_zero] at c0 c1 c2 c3 c4 c5
      clear HXF HXT HX1 HX4 HXO hSx hge
      go_quiet (fail)
      go_wp2_with fail
      go_meet
      exact ⟨rfl, SD.out _⟩
    · obtain ⟨rfl, rfl⟩ := HXT.out rfl
      simp only [Nat.zero_mul, Nat.add_zero] at c0 c1 c2 c3 c4 c5
      clear HXF HXT HX1 HX4 HXO hSx hge
      go_quiet (fail)
      go_wp2_with fail
      go_meet
      exact ⟨rfl, SD.out _⟩
  case rest =>
    obtain ⟨rfl, hs⟩ := hcut
    generalize wc = w14 at *
    have SJ : Hid (VJ kk n x w g [] (.int .i64 0) w14) := ⟨0, v11, [x], rfl, Nat.zero_le _, ov_start hk1 HXO.out, hs⟩
    clear hs S13
    go_wp2_with fail
    go_loopw [20] (fun iv wr => VJ kk n x w g [] iv wr) (fun iv _ => 100 - (intOf iv).toNat)
    case atStart => exact SJ.out
    case round =>
      obtain ⟨i, v, S, rfl, hi, hO, hs⟩ := hrel
      clear SJ
      have hI0 : (0 : Int) ≤ i := by omega
      have s : St w [hQ true g kk v S] wr := hs
      have HO := Lib.hid hO
      clear hs hO
      by_cases hlt : i < n
      · have hlt' : (i : Int) < n := by omega
        have hi1 : i + 1 ≤ n := hlt
        have hst := ov_step HX1.out HX4.out HO.out (by omega) hk1
        have K := add_l (nR (i + 1)) (nR_ok _) 9 [] [] s
        obtain ⟨S', hS'⟩ : ∃ S', addS kk S (nR (i + 1)) 9 = S' := ⟨_, rfl⟩
        obtain ⟨er, her⟩ : ∃ er, errA S (nR (i + 1)) 9 = er := ⟨_, rfl⟩
        have hrec : nR (i + 1) = ⟨2 + (i : Int), 0, 0, 1, 1⟩ := by unfold nR; congr 1; omega
        rw [hS'] at K hst
        rw [her, hrec] at K
        have ci1 := IntWalk.i64_in (2 + (i : Int)) ⟨by omega, by omega⟩
        have HST := Lib.hid hst
        clear hS' her hrec hst s HO
        simp only at K
        go_wp2_with fail
        refine K.mono ?_; rintro e w15 ⟨rfl, v15, s15⟩
        have S15 := Lib.hid s15
        clear K s15
        go_wp2
        go_roundw
        case rel => exact ⟨i + 1, v15, S', by go_num, hi1, HST.out, S15.out⟩
        case measure => simp [intOf]; omega
      · obtain rfl : i = n := by omega
        have hge2 : ¬ (i : Int) < i := by omega
        have K := items_l (g := g) (room := kk) (v := v) (S := S) s (by simp)
        have cw1 := IntWalk.i64_in ((i : Int) + 1) ⟨by omega, by omega⟩
        clear s hlt
        by_cases hik : i < kk
        · have hl : S.length = i + 1 := by rw [HO.out.len]; omega
          have hlast := HO.out.last hik
          rw [hl] at K
          have e1 : (i : Int) < kk := by omega
          have e2 : decide ((i : Int) < kk) = true := decide_eq_true e1
          have e3 : decide (i < kk) = true := decide_eq_true hik
          have e4 : ¬ (kk : Int) ≤ i := by omega
          have e5 : decide ((kk : Int) ≤ i) = false := decide_eq_false e4
          have e6 : decide (kk ≤ i) = false := decide_eq_false (by omega)
          have e7 : min ((i : Int) + 1) (kk : Int) = (i : Int) + 1 := by omega
          have HL := Lib.hid hl
          clear hl
          go_wp2_with fail
          refine K.mono ?_; rintro e w15 ⟨u2, rfl, s15⟩
          obtain ⟨bu, ou, hbo, hbl, hcc⟩ := (s15.rd (T := 61) (u := u2) (L := S) ci_enc (by simp)) (by rw [HL.out]; omega)
          have c0 := hcc i x hlast 0 _ rfl
          rw [HX1.out] at c0
          obtain ⟨ua, un, uc⟩ := u2
          simp only at hbo
          subst hbo
          simp only [Nat.add_zero] at c0
          have HB := Lib.hid s15.below
          clear K s15 hcc hlast
          go_wp2
          go_ret
          exact ⟨rfl, HB.out⟩
        · obtain ⟨j, hj⟩ : ∃ j : Nat, kk = j + 1 := ⟨kk - 1, by omega⟩
          have hl : S.length = kk := by rw [HO.out.len]; omega
          obtain ⟨y, hy⟩ : ∃ y, S[j]? = some y := ⟨_, List.getElem?_eq_getElem (by omega)⟩
          have hy9 := HO.out.nine (by omega) y (List.mem_of_getElem? hy)
          rw [hl] at K
          have e1 : ¬ (i : Int) < kk := by omega
          have e2 : decide ((i : Int) < kk) = false := decide_eq_false e1
          have e3 : decide (i < kk) = false := decide_eq_false hik
          have e4 : (kk : Int) ≤ i := by omega
          have e5 : decide ((kk : Int) ≤ i) = true := decide_eq_true e4
          have e6 : decide (kk ≤ i) = true := decide_eq_true (by omega)
          have e7 : min ((i : Int) + 1) (kk : Int) = (kk : Int) := by omega
          have e8 : (kk : Int) - 1 = (j : Nat) := by omega
          have e9 : (j : Int) < kk := by omega
          have e10 : (0 : Int) ≤ (j : Nat) := by omega
          have cj := IntWalk.i64_in ((j : Nat) : Int) ⟨by omega, by omega⟩
          have HL := Lib.hid hl
          clear hl hj
          go_wp2_with fail
          refine K.mono ?_; rintro e w15 ⟨u2, rfl, s15⟩
          obtain ⟨bu, ou, hbo, hbl, hcc⟩ := (s15.rd (T := 61) (u := u2) (L := S) ci_enc (by simp)) (by rw [HL.out]; omega)
          have c5 := hcc j y hy 5 _ rfl
          rw [hy9] at c5
          obtain ⟨ua, un, uc⟩ := u2
          simp only at hbo
          subst hbo
          have HB := Lib.hid s15.below
          clear K s15 hcc hy hy9
          go_wp2
          go_ret
          exact ⟨rfl, HB.out⟩
theorem over_run (i1 s1 n1 p1 q1 : Int) (o1 : Bool) (i2 s2 n2 p2 q2 : Int) (o2 : Bool) (room more : Int) (w : World) (_ : (Lit.int .i64 i1).wf = true) (_ : (Lit.int .i64 s1).wf = true) (h1 : (Lit.int .u32 n1).wf = true) (g1 : (Lit.int .u32 p1).wf = true) (k1 : (Lit.int .u16 q1).wf = true) (_ : (Lit.int .i64 i2).wf = true) (_ : (Lit.int .i64 s2).wf = true) (h2 : (Lit.int .u32 n2).wf = true) (g2 : (Lit.int .u32 p2).wf = true) (k2 : (Lit.int .u16 q2).wf = true) (hr : (Lit.int .u8 room).wf = true) (hm : (Lit.int .u8 more).wf = true) :
    Calls Try.prog 5 #[.agg #[.int .i64 i1, .int .i64 s1, .int .u32 n1, .int .u32 p1, .int .u16 q1, .bool o1], .agg #[.int .i64 i2, .int .i64 s2, .int .u32 n2, .int .u32 p2, .int .u16 q2, .bool o2], .int .u8 room, .int .u8 more] w fun e w' => e = .returned (.bool true) ∧ Below w.heap.size w w' := by
  obtain ⟨t1, ht1, rfl, rfl, rfl, rfl, rfl⟩ := rec_of (i := i1) (st := s1) h1 g1 k1
  obtain ⟨t2, ht2, rfl, rfl, rfl, rfl, rfl⟩ := rec_of (i := i2) (st := s2) h2 g2 k2
  exact over_walk t1 t2 o1 o2 ht1 ht2 room more w (bounds_u8 hr) (bounds_u8 hm)
theorem queueOver_own : ownKnob Try.prog.godebug = none := by kernel_rfl
theorem queueOver_laid : laidOutB Try.prog = true := by kernel_rfl
set_option maxRecDepth 100000 in
theorem queueOver_lifted (os : Os) (started : os.Started) (H : Type) (enc : TypeId × Value → H) :
    ReturnsInHanded {} Try.checked os 5 .any (Rows.queueOverSpec.pre6 enc Try.prog Try.f5 Rows.queueOverRow.domain false) (Rows.queueOverSpec.post enc Try.prog Try.f5 false true false false) := by
  refine returnsInHanded_of_change (C := Try.checked) queueOver_own started (by kernel_rfl) Try.func5
    (ChangeSpec.witness6 (enc := enc) (C := Try.checked) false ⟨#[], #[.agg #[.int .i64 0, .int .i64 0, .int .u32 0, .int .u32 0, .int .u16 0, .bool false], .agg #[.int .i64 0, .int .i64 0, .int .u32 0, .int .u32 0, .int .u16 0, .bool false], .int .u8 0, .int .u8 0], []⟩ 8 (by kernel_rfl) (by kernel_rfl) (by kernel_rfl) (by kernel_rfl)) ?_
  intro W base args ds gs before hval0 hW hcnd _
  have hval : ∀ (j : Nat) t v, Try.f5.params[j]? = some t → args[j]? = some v → Value.okWide Try.prog W .any base t v := hval0
  have hW' := hW
  obtain ⟨p, q, hA0, hV, rfl, hfz, hnd⟩ := hW
  have hA : DataW.TrodAll enc Try.prog W 0 (fun _ => true) true Try.f5.params.toList args.toList ds p := hA0
  rw [Try.params5] at hA hval
  obtain ⟨v0, vs0, d0, ds0, p0, q0, hargs, rfl, rfl, h0, r0⟩ := trodAll_cons hA
  obtain ⟨v1, vs1, d1, ds1, p1, q1, rfl, rfl, rfl, h1, r1⟩ := trodAll_cons r0
  obtain ⟨v2, vs2, d2, ds2, p2, q2, rfl, rfl, rfl, h2, r2⟩ := trodAll_cons r1
  obtain ⟨v3, vs3, d3, ds3, p3, q3, rfl, rfl, rfl, h3, r3⟩ := trodAll_cons r2
  obtain ⟨rfl, rfl, rfl⟩ := trodAll_nil r3
  obtain rfl : args = #[v0, v1, v2, v3] := by cases args; simp_all
  obtain ⟨rfl, rfl⟩ := trodVars_none hV
  have k0 := h0
  have lt0 : ∀ x ∈ p0, x.block < W.heap.size := by obtain ⟨m, hm⟩ := k0; exact DataW.trod_lt m _ _ _ hm
  obtain ⟨a0_0, a0_1, a0_2, a0_3, a0_4, a0_5, rfl, w0_0, w0_1, w0_2, w0_3, w0_4⟩ := open_thing (hval 0 39 v0 rfl rfl) h0
  have k1 := h1
  have lt1 : ∀ x ∈ p1, x.block < W.heap.size := by obtain ⟨m, hm⟩ := k1; exact DataW.trod_lt m _ _ _ hm
  obtain ⟨a1_0, a1_1, a1_2, a1_3, a1_4, a1_5, rfl, w1_0, w1_1, w1_2, w1_3, w1_4⟩ := open_thing (hval 1 39 v1 rfl rfl) h1
  obtain ⟨a2, rfl, rfl, rfl, w2⟩ := open_int Try.underlying5 (hval 2 5 v2 rfl rfl) h2
  obtain ⟨a3, rfl, rfl, rfl, w3⟩ := open_int Try.underlying5 (hval 3 5 v3 rfl rfl) h3
  clear hA0 hval0
  refine (over_run a0_0 a0_1 a0_2 a0_3 a0_4 a0_5 a1_0 a1_1 a1_2 a1_3 a1_4 a1_5 a2 a3 W w0_0 w0_1 w0_2 w0_3 w0_4 w1_0 w1_1 w1_2 w1_3 w1_4 w2 w3).mono fun e W' ⟨he, bel⟩ => ?_
  subst he
  exact ⟨_, rfl, _, _, _, [], _, [], hW', trodAll_mk1 (shut_bool Try.underlying4 _), (trodAll_cons_mk (Below.trod queueOver_laid (by kernel_rfl) (of_decide_eq_true (by kernel_rfl)) k0 bel lt0) (trodAll_cons_mk (Below.trod queueOver_laid (by kernel_rfl) (of_decide_eq_true (by kernel_rfl)) k1 bel lt1) (trodAll_cons_mk (shut_int Try.underlying5 w2) (trodAll_cons_mk (shut_int Try.underlying5 w3) trodAll_mk0)))), rfl, bel.frame _, fun h => by cases h⟩
theorem queueOver_over : Rows.queueOverRow.holds Try.pinned (OpenSpec.ofChange Rows.queueOverSpec) :=
  OpenClaim.holds_of_wide 5 Try.f5 rfl rfl rfl rfl rfl rfl rfl ⟨rfl, rfl, rfl, rfl, rfl⟩ rfl rfl rfl rfl rfl (by kernel_rfl) Try.func5 (by kernel_rfl)
    (of_decide_eq_true (by kernel_rfl)) (by unfold Func.isWrapper; first | (rw [if_pos (by decide +kernel)]; kernel_rfl) | (rw [if_neg (by decide +kernel)]; exact ⟨rfl, rfl⟩))
    (fun os started H enc _ => queueOver_lifted os started H enc)
theorem queueOver_holds : Rows.QueueOverSaid := queueOver_over
#print axioms queueOver_holds
end Go.Proofs.Ythebcaielbnhjaa
