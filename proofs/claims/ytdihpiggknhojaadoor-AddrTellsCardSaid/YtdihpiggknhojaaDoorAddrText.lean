/- The contract of the program's Text: a strings.Builder, strconv.Itoa. -/
import Derived.Test.YtdihpiggknhojaaDoorAddrRText
import Derived.Test.YtdihpiggknhojaaDoorShelf
import Derived.Lib.Builder
namespace Go.Proofs.YtdihpiggknhojaaDoor
open Go.RowKit
set_option linter.unusedVariables false
set_option linter.unusedSimpArgs false

/-- the library's table of powers of ten is as it was laid -/
def Tab (w : World) : Prop := Lib.TabIs Tryd.prog w "internal/strconv.uint64pow10" .u64 Lib.pow10Tab
theorem gTab : ∃ g, Tryd.prog.globalNamed "internal/strconv.uint64pow10" = some g := ⟨0, by kernel_rfl⟩
theorem Tab.below {w w' : World} (h : Tab w) (hb : Below w.heap.size w w') : Tab w' := by
  obtain ⟨g, hg⟩ := gTab
  unfold Tab Lib.TabIs World.var? at h ⊢
  rw [hg] at h ⊢
  simp only [Option.bind_some] at h ⊢
  have hlt : g < w.heap.size := by
    rcases Nat.lt_or_ge g w.heap.size with h' | h'
    · exact h'
    · rw [Array.getElem?_eq_none h'] at h; cases h
  rw [hb.block g hlt]
  exact h
theorem below_grow (w : World) (k : Nat) (os : Array Obj) : Below w.heap.size w (Go.Sort.grow (w.drewN k) os) := by
  refine ⟨rfl, rfl, rfl, by simp [Go.Sort.grow, World.drewN], fun i hi => ?_⟩
  show (w.heap ++ os)[i]? = _
  rw [Array.getElem?_append_left hi]
theorem itoa_at (a : Int) (n : Nat) (D : ByteArray) (h : a = n) (hn : n < 65536) (hD : ddB n = D) (w : World) (ht : Tab w) :
    Calls Tryd.prog 27 #[.int .i64 a] w fun e w' => e = .returned (.string D) ∧ Below w.heap.size w w' := by
  subst h hD
  refine (Tryd.strconv_Itoa (n : Int) (by omega) (by omega) w ht).mono ?_
  rintro e w' ⟨rfl, k, os, rfl⟩
  refine ⟨?_, below_grow _ _ _⟩
  rw [Lib.itoa_nonneg]
  rfl
def Bld (B : Nat) (l : List UInt8) (w : World) : Prop := Lib.IsBuilder 49 5 B B (Lib.byteCells l) w
theorem Bld.lt {B : Nat} {l : List UInt8} {w : World} (h : Bld B l w) : B < w.heap.size := by
  rcases h with h | h <;> exact h.lt
theorem bldAt_keep {T e : TypeId} {B b : Nat} {p : Value} {bs : List Value} {w w' : World} (h : Lib.BuilderAt T e B b p bs w) (hb : Below w.heap.size w w') : Lib.BuilderAt T e B b p bs w' := by
  have hlt := h.lt
  obtain ⟨hB, v, hc, ho, hne⟩ := h
  refine ⟨hB, v, (hb.block b hlt).trans hc, ?_, hne⟩
  obtain ⟨hl, ho⟩ := ho
  refine ⟨hl, ?_⟩
  rcases ho with ho | ⟨g, cap, cur, h1, h2, h3, h4⟩
  · exact .inl ho
  · refine .inr ⟨g, cap, cur, h1, h2, ?_, h4⟩
    have hg : g < w.heap.size := by
      rcases Nat.lt_or_ge g w.heap.size with h' | h'
      · exact h'
      · rw [Array.getElem?_eq_none h'] at h3; cases h3
    exact (hb.block g hg).trans h3
theorem Bld.keep {B : Nat} {l : List UInt8} {w w' : World} (h : Bld B l w) (hb : Below w.heap.size w w') : Bld B l w' := by
  rcases h with h | h
  · exact .inl (bldAt_keep h hb)
  · exact .inr (bldAt_keep h hb)
theorem Bld.new (w : World) : Bld w.heap.size [] (w.alloc (.cells #[.pointer none, .slice none 0 0] 49)) := Lib.fresh_isBuilder _ _ w
theorem writeS {B : Nat} {l : List UInt8} {s : ByteArray} {w : World} (h : Bld B l w) (hl : l.length ≤ 1000) (hs : s.size ≤ 1000) :
    Calls Tryd.prog 26 #[.pointer (some ⟨B, 0, none⟩), .string s] w fun e w' => e = .returned (.tuple #[.int .i64 s.size, .nilIface]) ∧ Bld B (l ++ s.data.toList) w' ∧ Below B w w' := by
  refine (Tryd.Builder_WriteString B B (Lib.byteCells l) s w h (by rw [Lib.byteCells_length]; omega) (Nat.le_of_lt h.lt)).mono ?_
  rintro e w' ⟨rfl, h1, h2⟩
  refine ⟨rfl, ?_, h2⟩
  unfold Bld
  rw [Lib.byteCells_append]
  exact .inr h1
theorem writeB {B : Nat} {l : List UInt8} {c : UInt8} {n : Int} {w : World} (hc : n = (c.toNat : Int)) (h : Bld B l w) (hl : l.length ≤ 1000) :
    Calls Tryd.prog 28 #[.pointer (some ⟨B, 0, none⟩), .int .u8 n] w fun e w' => e = .returned .nilIface ∧ Bld B (l ++ [c]) w' ∧ Below B w w' := by
  refine (Tryd.Builder_WriteByte B B (Lib.byteCells l) n w h (by rw [Lib.byteCells_length]; omega) (Nat.le_of_lt h.lt)).mono ?_
  rintro e w' ⟨rfl, h1, h2⟩
  refine ⟨rfl, ?_, h2⟩
  unfold Bld
  rw [Lib.byteCells_append]
  subst hc
  exact .inr h1
theorem readB {B : Nat} {l : List UInt8} {w : World} (h : Bld B l w) :
    Calls Tryd.prog 29 #[.pointer (some ⟨B, 0, none⟩)] w fun e w' => e = .returned (.string ⟨l.toArray⟩) ∧ Below B w w' :=
  Tryd.Builder_String_any B B l w h (Nat.le_of_lt h.lt)

/-- what stands in the builder behind k rounds -/
def pre (ip : Nat) : Nat → List UInt8
  | 0 => []
  | 1 => dd (ip / 16777216) ++ [46]
  | 2 => dd (ip / 16777216) ++ [46] ++ dd (ip / 65536 % 256) ++ [46]
  | 3 => dd (ip / 16777216) ++ [46] ++ dd (ip / 65536 % 256) ++ [46] ++ dd (ip / 256 % 256) ++ [46]
  | _ => dd (ip / 16777216) ++ [46] ++ dd (ip / 65536 % 256) ++ [46] ++ dd (ip / 256 % 256) ++ [46] ++ dd (ip % 256) ++ [58]
theorem pre_len (ip k : Nat) (h : ip < 4294967296) : (pre ip k).length ≤ 20 := by
  have a := dd_len3 (ip / 16777216) (by omega)
  have b := dd_len3 (ip / 65536 % 256) (by omega)
  have c := dd_len3 (ip / 256 % 256) (by omega)
  have d := dd_len3 (ip % 256) (by omega)
  match k with
  | 0 => simp [pre]
  | 1 => simp [pre]; omega
  | 2 => simp [pre]; omega
  | 3 => simp [pre]; omega
  | k + 4 => simp [pre]; omega
theorem pre_end (ip port : Nat) : pre ip 4 ++ dd port = txtL ip port := by simp [pre, txtL]
theorem putB_get (ip port : Nat) (h : ip < 4294967296) : (putB ip port).data.toList = UInt8.ofNat (ip / 16777216 % 256) :: UInt8.ofNat (ip / 65536 % 256) :: UInt8.ofNat (ip / 256 % 256) :: UInt8.ofNat (ip % 256) :: dg port 2 := by
  rw [putB, ba_append, numB_data, numB_data]
  simp [dg]

/-- what holds at every round's head -/
structure TxtSt (w : World) (ip port k : Nat) (wr : World) : Prop where
  bld : Bld (w.heap.size + 1) (pre ip k) wr
  c1 : wr.cell? ⟨w.heap.size, 1, none⟩ = some (.int .u16 port)
  below : Below w.heap.size w wr
  size : w.heap.size + 1 < wr.heap.size
def TxtJ (w : World) (ip port : Nat) (i : Value) (wr : World) : Prop := ∃ k : Nat, k ≤ 4 ∧ i = .int .i64 k ∧ TxtSt w ip port k wr
theorem TxtSt.step {w wr w1 w2 w3 : World} {ip port k : Nat} {l2 : List UInt8} (h : TxtSt w ip port k wr) (h1 : Below wr.heap.size wr w1) (h2 : Below (w.heap.size + 1) w1 w2) (h3 : Below (w.heap.size + 1) w2 w3) (hb : Bld (w.heap.size + 1) l2 w3) (hp : l2 = pre ip (k + 1)) :
    TxtSt w ip port (k + 1) w3 := by
  subst hp
  have hz := h.size
  have hs1 := h1.size
  have hs2 := h2.size
  have hs3 := h3.size
  refine ⟨hb, ?_, ((h.below.trans (h1.mono (by omega))).trans (h2.mono (by omega))).trans (h3.mono (by omega)), by omega⟩
  rw [h3.cell (p := ⟨w.heap.size, 1, none⟩) (by show w.heap.size < _; omega), h2.cell (p := ⟨w.heap.size, 1, none⟩) (by show w.heap.size < _; omega), h1.cell (p := ⟨w.heap.size, 1, none⟩) (by show w.heap.size < _; omega)]
  exact h.c1

theorem ba_get (P : ByteArray) (i : Nat) (h : i < P.size) (h2 : i < P.data.toList.length) : P[i]'h = P.data.toList[i]'h2 := by simp; rfl
theorem text_round {w wr : World} {ip port k n : Nat} {mk : UInt8} {D : ByteArray} (hD : ddB n = D) (hn : n < 256) (h1 : ip < 4294967296) (h : TxtSt w ip port k wr) (hp : pre ip k ++ dd n ++ [mk] = pre ip (k + 1)) :
    ∀ w1, Below wr.heap.size wr w1 → Calls Tryd.prog 26 #[.pointer (some ⟨w.heap.size + 1, 0, none⟩), .string D] w1 fun e w2 => e = .returned (.tuple #[.int .i64 D.size, .nilIface]) ∧
      ∀ m : Int, m = (mk.toNat : Int) → Calls Tryd.prog 28 #[.pointer (some ⟨w.heap.size + 1, 0, none⟩), .int .u8 m] w2 fun e w3 => e = .returned .nilIface ∧ TxtSt w ip port (k + 1) w3 := by
  intro w1 hb1
  have hl := pre_len ip k h1
  have hd := dd_len3 n (by omega)
  have hz := ddB_size n (by omega)
  rw [hD] at hz
  refine (writeS (h.bld.keep hb1) (by omega) (by omega)).mono ?_
  rintro e w2 ⟨rfl, hb2, h2⟩
  refine ⟨rfl, fun m hm => ?_⟩
  have e1 : D.data.toList = dd n := by rw [← hD]; rfl
  rw [e1] at hb2
  refine (writeB hm hb2 (by simp; omega)).mono ?_
  rintro e w3 ⟨rfl, hb3, h3⟩
  exact ⟨rfl, h.step hb1 h2 h3 hb3 hp⟩

set_option maxHeartbeats 800000 in
theorem text_any (ip port : Nat) (h1 : ip < 4294967296) (h2 : port < 65536) (w : World) (ht : Tab w) :
    Calls Tryd.prog 11 #[.agg #[.int .u32 ip, .int .u16 port]] w fun e w' => e = .returned (.string (atx ip port)) ∧ Below w.heap.size w w' := by
  have hwp := IntWalk.i64_in (port : Int) ⟨by omega, by omega⟩
  have HT := Lib.hid ht
  clear ht
  obtain ⟨P, hP⟩ : ∃ P, putB ip port = P := ⟨_, rfl⟩
  have hPs := putB_size ip port
  have hPg := putB_get ip port h1
  have put := fun w => put_any ip port h1 h2 w
  rw [hP] at hPs hPg put
  have g0 : (P[0]'(by omega)).toNat = ip / 16777216 % 256 := by rw [ba_get P 0 _ (by rw [ba_len]; omega)]; simp [hPg]
  have g1 : (P[1]'(by omega)).toNat = ip / 65536 % 256 := by rw [ba_get P 1 _ (by rw [ba_len]; omega)]; simp [hPg]
  have g2 : (P[2]'(by omega)).toNat = ip / 256 % 256 := by rw [ba_get P 2 _ (by rw [ba_len]; omega)]; simp [hPg]
  have g3 : (P[3]'(by omega)).toNat = ip % 256 := by rw [ba_get P 3 _ (by rw [ba_len]; omega)]; simp [hPg]
  have PUT := Lib.hid put
  clear hP put hPg
  go_enter Tryd.func11, Tryd.ntmps11
  go_wp2_with fail
  refine (PUT.out _).mono ?_
  rintro e w1 ⟨rfl, b1⟩
  have X := (Two.new w (.int .u32 ip) (.int .u16 port) 25)
  have hst : TxtSt w ip port 0 w1 := by
    have hs := b1.size
    refine ⟨?_, ?_, ?_, by have h := hs; simp at h; omega⟩
    · have := (Bld.new (w.alloc (.cells #[.int .u32 ip, .int .u16 port] 25))).keep b1
      simpa [pre] using this
    · have h3 := ((Two.new w (.int .u32 ip) (.int .u16 port) 25).keep ((Below.refl _ _).alloc (Nat.le_refl _) (.cells #[.pointer none, .slice none 0 0] 49))).keep b1
      exact h3.c1
    · (have zz0 := Below.size b1; (try simp at zz0); repeat (first | exact Below.refl _ _ | refine Below.drew ?_ | refine below_drewN ?_ _ | refine Below.alloc ?_ (by first | omega | (simp; done) | (simp; omega)) _ | refine Below.setCell ?_ (by first | omega | (simp; done) | (simp; omega)) _ | (with_reducible refine Below.trans ?_ (Below.mono b1 (by first | omega | (simp; done) | (simp; omega))))))
  have HS := Lib.hid hst
  clear hst X b1
  go_wp2
  go_loopw [8] (fun i wr => TxtJ w ip port i wr) (fun i _ => 4 - (intOf i).toNat)
  case atStart => exact ⟨0, by omega, rfl, HS.out⟩
  case round =>
    obtain ⟨k, hk, rfl, hst⟩ := hrel
    have hsz := hst.size
    have c1 := hst.c1
    have hTb : Tab wr := HT.out.below hst.below
    have HS := Lib.hid hst
    have HTb := Lib.hid hTb
    clear hst hTb HT PUT
    have hz1 : w.heap.size < wr.heap.size := by omega
    by_cases h4 : k = 4
    · subst h4
      clear g0 g1 g2 g3
      obtain ⟨D, hD⟩ : ∃ D, ddB port = D := ⟨_, rfl⟩
      have hDs := ddB_size port (by omega)
      rw [hD] at hDs
      have HD := Lib.hid hD
      clear hD
      go_wp2_with fail
      refine (itoa_at _ port D rfl h2 HD.out _ HTb.out).mono ?_
      rintro e w2 ⟨rfl, b2⟩
      go_wp2_with fail
      refine (writeS (HS.out.bld.keep b2) (Nat.le_trans (pre_len ip 4 h1) (by omega)) (by omega)).mono ?_
      rintro e w3 ⟨rfl, hb3, b3⟩
      go_wp2_with fail
      refine (readB hb3).mono ?_
      rintro e w4 ⟨rfl, b4⟩
      go_wp2
      go_ret
      refine ⟨?_, ?_⟩
      · rw [← HD.out]
        exact congrArg (fun l => Ending.returned (Value.string ⟨l.toArray⟩)) (pre_end ip port)
      · have hb := HS.out.below
        have e2 := b2.size
        exact ((hb.trans (b2.mono hb.size)).trans (b3.mono (by omega))).trans (b4.mono (by omega))
    · have h4' : k = 0 ∨ k = 1 ∨ k = 2 ∨ k = 3 := by omega
      clear h4 hk
      rcases h4' with rfl | rfl | rfl | rfl
      · obtain ⟨D, hD⟩ : ∃ D, ddB (ip / 16777216) = D := ⟨_, rfl⟩
        have HD := Lib.hid hD
        clear hD
        go_wp2_with fail
        refine (itoa_at _ (ip / 16777216) D (by omega) (by omega) HD.out _ HTb.out).mono ?_
        rintro e w2 ⟨rfl, b2⟩
        go_wp2_with fail
        refine (text_round (mk := 46) HD.out (by omega) h1 HS.out (by simp [pre]) w2 b2).mono ?_
        rintro e w3 ⟨rfl, hB⟩
        go_wp2_with fail
        refine (hB _ rfl).mono ?_
        rintro e w4 ⟨rfl, hs⟩
        have HS2 := Lib.hid hs
        clear hB hs b2
        go_wp2
        go_roundw
        case rel => exact ⟨1, by omega, by go_num, HS2.out⟩
        case measure => simp [intOf]
      · obtain ⟨D, hD⟩ : ∃ D, ddB (ip / 65536 % 256) = D := ⟨_, rfl⟩
        have HD := Lib.hid hD
        clear hD
        go_wp2_with fail
        refine (itoa_at _ (ip / 65536 % 256) D (by omega) (by omega) HD.out _ HTb.out).mono ?_
        rintro e w2 ⟨rfl, b2⟩
        go_wp2_with fail
        refine (text_round (mk := 46) HD.out (by omega) h1 HS.out (by simp [pre]) w2 b2).mono ?_
        rintro e w3 ⟨rfl, hB⟩
        go_wp2_with fail
        refine (hB _ rfl).mono ?_
        rintro e w4 ⟨rfl, hs⟩
        have HS2 := Lib.hid hs
        clear hB hs b2
        go_wp2
        go_roundw
        case rel => exact ⟨2, by omega, by go_num, HS2.out⟩
        case measure => simp [intOf]
      · obtain ⟨D, hD⟩ : ∃ D, ddB (ip / 256 % 256) = D := ⟨_, rfl⟩
        have HD := Lib.hid hD
        clear hD
        go_wp2_with fail
        refine (itoa_at _ (ip / 256 % 256) D (by omega) (by omega) HD.out _ HTb.out).mono ?_
        rintro e w2 ⟨rfl, b2⟩
        go_wp2_with fail
        refine (text_round (mk := 46) HD.out (by omega) h1 HS.out (by simp [pre]) w2 b2).mono ?_
        rintro e w3 ⟨rfl, hB⟩
        go_wp2_with fail
        refine (hB _ rfl).mono ?_
        rintro e w4 ⟨rfl, hs⟩
        have HS2 := Lib.hid hs
        clear hB hs b2
        go_wp2
        go_roundw
        case rel => exact ⟨3, by omega, by go_num, HS2.out⟩
        case measure => simp [intOf]
      · obtain ⟨D, hD⟩ : ∃ D, ddB (ip % 256) = D := ⟨_, rfl⟩
        have HD := Lib.hid hD
        clear hD
        go_wp2_with fail
        refine (itoa_at _ (ip % 256) D (by omega) (by omega) HD.out _ HTb.out).mono ?_
        rintro e w2 ⟨rfl, b2⟩
        go_wp2_with fail
        refine (text_round (mk := 58) HD.out (by omega) h1 HS.out (by simp [pre]) w2 b2).mono ?_
        rintro e w3 ⟨rfl, hB⟩
        go_wp2_with fail
        refine (hB _ rfl).mono ?_
        rintro e w4 ⟨rfl, hs⟩
        have HS2 := Lib.hid hs
        clear hB hs b2
        go_wp2
        go_roundw
        case rel => exact ⟨4, by omega, by go_num, HS2.out⟩
        case measure => simp [intOf]
end Go.Proofs.YtdihpiggknhojaaDoor
