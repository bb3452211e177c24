/- The contract of the program's Read. -/
import Derived.Test.YtdihpiggknhojaaDoorAddrDig
import Derived.BigQuiet
import Derived.Deep.QuietTactic
namespace Go.Proofs.YtdihpiggknhojaaDoor
open Go.RowKit
set_option linter.unusedVariables false
set_option linter.unusedSimpArgs false

theorem dig_no {s : ByteArray} {most : Nat} (h : Hid (dgs most s.data.toList = none)) (hm : most ≤ 65535) (hs : s.size ≤ 9223372036854775807) (w : World) :
    Calls Tryd.prog 34 #[.string s, .int .u32 most] w fun e w' => e = .returned (.tuple #[.int .u32 0, .string ⟨#[]⟩, .bool false]) ∧ Below w.heap.size w w' := by
  refine (dig_any s most hm hs w).mono ?_
  rintro e w' ⟨rfl, hb⟩
  rw [h.out]
  exact ⟨rfl, hb⟩
theorem dig_yes {s t : ByteArray} {most n p : Nat} (h : Hid (dgs most s.data.toList = some (n, p))) (ht : Hid (s.extract p s.size = t)) (hm : most ≤ 65535) (hs : s.size ≤ 9223372036854775807) (w : World) :
    Calls Tryd.prog 34 #[.string s, .int .u32 most] w fun e w' => e = .returned (.tuple #[.int .u32 n, .string t, .bool true]) ∧ Below w.heap.size w w' := by
  refine (dig_any s most hm hs w).mono ?_
  rintro e w' ⟨rfl, hb⟩
  rw [h.out, ← ht.out]
  exact ⟨rfl, hb⟩
theorem cut_list (s : ByteArray) (p : Nat) : (s.extract p s.size).data.toList = s.data.toList.drop p := by
  rw [Lib.extract_data, List.take_of_length_le]
  rw [List.length_drop, ba_len]; exact Nat.le_refl _
theorem or_step32 (n c : Int) (h0 : 0 ≤ n) (h1 : n < 16777216) (c0 : 0 ≤ c) (c1 : c < 256) : bits .or .u32 (n * 256) c = n * 256 + c := by
  obtain ⟨N, rfl⟩ := Int.eq_ofNat_of_zero_le h0
  obtain ⟨C, rfl⟩ := Int.eq_ofNat_of_zero_le c0
  have h := u32_or_nat (N * 256) C (by omega) (by omega)
  have e : N * 256 ||| C = N * 256 + C := by
    have := Nat.two_pow_add_eq_or_of_lt (show C < 2 ^ 8 by omega) N
    rw [Nat.mul_comm] at this
    exact this.symm
  rw [e] at h
  simpa using h
def markOf (k : Nat) : UInt8 := if k = 0 then 58 else 46
theorem rd_none {l : List UInt8} {k a : Nat} {R : Option (Nat × Nat)} (h : rdF (k + 1) a l = R) (hg : dgs 255 l = none) : R = none := by
  rw [rdF, step1, hg] at h; exact h.symm
theorem rd_mism {l : List UInt8} {k a n p : Nat} {R : Option (Nat × Nat)} (h : rdF (k + 1) a l = R) (hg : dgs 255 l = some (n, p)) (hm : (l.drop p).head? ≠ some (markOf k)) : R = none := by
  rw [rdF, step1, hg] at h
  have e : ¬ (l.drop p).head? = some (if k = 0 then (58 : UInt8) else 46) := hm
  simp only [if_neg e] at h
  exact h.symm
theorem rd_match {l : List UInt8} {k a n p : Nat} {R : Option (Nat × Nat)} (h : rdF (k + 1) a l = R) (hg : dgs 255 l = some (n, p)) (hm : (l.drop p).head? = some (markOf k)) : rdF k (a * 256 + n) (l.drop (p + 1)) = R := by
  rw [rdF, step1, hg] at h
  have e : (l.drop p).head? = some (if k = 0 then (58 : UInt8) else 46) := hm
  simp only [if_pos e] at h
  exact h
theorem rd0_none {l : List UInt8} {a : Nat} {R : Option (Nat × Nat)} (h : rdF 0 a l = R) (hg : dgs 65535 l = none) : R = none := by
  rw [rdF, hg] at h; exact h.symm
theorem rd0_more {l : List UInt8} {a n p : Nat} {R : Option (Nat × Nat)} (h : rdF 0 a l = R) (hg : dgs 65535 l = some (n, p)) (hm : l.drop p ≠ []) : R = none := by
  rw [rdF, hg] at h
  simp only [if_neg hm] at h
  exact h.symm
theorem rd0_yes {l : List UInt8} {a n p : Nat} {R : Option (Nat × Nat)} (h : rdF 0 a l = R) (hg : dgs 65535 l = some (n, p)) (hm : l.drop p = []) : R = some (a, n) := by
  rw [rdF, hg] at h
  simp only [if_pos hm] at h
  exact h.symm

/-- what Read answers -/
def rdV : Option (Nat × Nat) → Value
  | none => .tuple #[.agg #[.int .u32 0, .int .u16 0], .bool false]
  | some (ip, port) => .tuple #[.agg #[.int .u32 ip, .int .u16 port], .bool true]
structure RdSt (w : World) (s : ByteArray) (R : Option (Nat × Nat)) (k a : Nat) (r : ByteArray) (wr : World) : Prop where
  todo : rdF (4 - k) a r.data.toList = R
  lt : a < 256 ^ k
  size : r.size ≤ s.size
  two : Two w.heap.size (.int .u32 0) (.int .u16 0) wr
  below : Below w.heap.size w wr
def RdJ (w : World) (s : ByteArray) (R : Option (Nat × Nat)) (vs va vi : Value) (wr : World) : Prop :=
  ∃ (k a : Nat) (r : ByteArray), k ≤ 4 ∧ vi = .int .i64 k ∧ va = .int .u32 a ∧ vs = .string r ∧ RdSt w s R k a r wr

set_option maxRecDepth 100000 in
set_option maxHeartbeats 4000000 in
theorem read_any' (s : ByteArray) (hs : s.size ≤ 9223372036854775807) (w : World) :
    Calls Tryd.prog 22 #[.string s] w fun e w' => e = .returned (rdV (rdL s.data.toList)) ∧ Below w.heap.size w w' := by
  obtain ⟨R, hR⟩ : ∃ R, rdL s.data.toList = R := ⟨_, rfl⟩
  rw [hR]
  have HR : Hid (rdF (4 - 0) 0 s.data.toList = R) := hR
  clear hR
  go_enter Tryd.func22, Tryd.ntmps22
  go_wp2
  go_loopw [0, 4, 12] (fun vs va vi wr => RdJ w s R vs va vi wr) (fun _ _ i _ => 4 - (intOf i).toNat)
  case atStart => exact ⟨0, 0, s, by omega, rfl, rfl, rfl, HR.out, by omega, Nat.le_refl _, Two.new _ _ _ _, (Below.refl _ _).alloc (Nat.le_refl _) _⟩
  case round =>
    clear HR
    obtain ⟨k, a, r, hk, rfl, rfl, rfl, hst⟩ := hrel
    obtain ⟨c0, c1, f0, f1⟩ := hst.two
    have hz := hst.two.lt
    have hrs := hst.size
    have hlt := hst.lt
    have HS := Lib.hid hst
    clear hst
    by_cases h4 : k = 4
    · subst h4
      clear hlt
      have hlt : a < 4294967296 := HS.out.lt
      have hT := HS.out.todo
      cases hg : dgs 65535 r.data.toList with
      | none =>
        have HE := Lib.hid (rd0_none hT hg)
        have HG := Lib.hid hg
        clear hT hg
        go_wp2_with fail
        refine (dig_no HG (by omega) (by omega) _).mono ?_; rintro e w2 ⟨rfl, d2⟩; obtain ⟨hc2, hf2, hz2⟩ := bcell d2; (try simp at hz2); have kc2_0 := fun o => hc2 (w.heap.size) o (by first | omega | (simp; done) | (simp; omega)); have kf2_0 := fun o => hf2 (w.heap.size) o (by first | omega | (simp; done) | (simp; omega)); have kl2_0 : w.heap.size < w2.heap.size := (by omega); clear hc2 hf2
        go_wp2
        refine bodyPost_ret (v := .tuple #[.agg #[.int .u32 0, .int .u16 0], .bool false]) (by simp [results, Tryd.results22, go_sem, *]) rfl ⟨?_, ?_⟩
        · rw [HE.out]; rfl
        · have hb := HS.out.below
          (have zz0 := Below.size d2; (try simp at zz0); have zz1 := Below.size hb; (try simp at zz1); repeat (first | exact Below.refl _ _ | refine Below.drew ?_ | refine below_drewN ?_ _ | refine Below.alloc ?_ (by first | omega | (simp; done) | (simp; omega)) _ | refine Below.setCell ?_ (by first | omega | (simp; done) | (simp; omega)) _ | (with_reducible refine Below.trans ?_ (Below.mono d2 (by first | omega | (simp; done) | (simp; omega)))) | (with_reducible refine Below.trans ?_ (Below.mono hb (by first | omega | (simp; done) | (simp; omega))))))
      | some x =>
        obtain ⟨n, p⟩ := x
        have hnp := dgs_some hg
        have hn := hnp.2.2.1
        obtain ⟨t, ht⟩ : ∃ t, r.extract p r.size = t := ⟨_, rfl⟩
        have hl := cut_list r p
        rw [ht] at hl
        have HT := Lib.hid ht
        have HG := Lib.hid hg
        by_cases he : t.data.toList = []
        · have HE := Lib.hid (rd0_yes hT hg (by rw [← hl]; exact he))
          have he2 : t.toList.isEmpty = true := by rw [ByteArray.toList_eq, he]; rfl
          have w1' := IntWalk.u16_in (n : Int) ⟨by omega, by omega⟩
          clear hT hg hl he ht hnp
          go_wp2_with fail
          refine (dig_yes HG HT (by omega) (by omega) _).mono ?_; rintro e w2 ⟨rfl, d2⟩; obtain ⟨hc2, hf2, hz2⟩ := bcell d2; (try simp at hz2); have kc2_0 := fun o => hc2 (w.heap.size) o (by first | omega | (simp; done) | (simp; omega)); have kf2_0 := fun o => hf2 (w.heap.size) o (by first | omega | (simp; done) | (simp; omega)); have kl2_0 : w.heap.size < w2.heap.size := (by omega); clear hc2 hf2
          go_wp2
          refine bodyPost_ret (v := .tuple #[.agg #[.int .u32 a, .int .u16 n], .bool true]) (by simp [results, Tryd.results22, go_sem, *]) rfl ⟨?_, ?_⟩
          · rw [HE.out]; rfl
          · have hb := HS.out.below
            (have zz0 := Below.size d2; (try simp at zz0); have zz1 := Below.size hb; (try simp at zz1); repeat (first | exact Below.refl _ _ | refine Below.drew ?_ | refine below_drewN ?_ _ | refine Below.alloc ?_ (by first | omega | (simp; done) | (simp; omega)) _ | refine Below.setCell ?_ (by first | omega | (simp; done) | (simp; omega)) _ | (with_reducible refine Below.trans ?_ (Below.mono d2 (by first | omega | (simp; done) | (simp; omega)))) | (with_reducible refine Below.trans ?_ (Below.mono hb (by first | omega | (simp; done) | (simp; omega))))))
        · have HE := Lib.hid (rd0_more hT hg (by rw [← hl]; exact he))
          have he2 : t.toList.isEmpty = false := by rw [ByteArray.toList_eq]; simpa using he
          clear hT hg hl he ht hnp
          go_wp2_with fail
          refine (dig_yes HG HT (by omega) (by omega) _).mono ?_; rintro e w2 ⟨rfl, d2⟩; obtain ⟨hc2, hf2, hz2⟩ := bcell d2; (try simp at hz2); have kc2_0 := fun o => hc2 (w.heap.size) o (by first | omega | (simp; done) | (simp; omega)); have kf2_0 := fun o => hf2 (w.heap.size) o (by first | omega | (simp; done) | (simp; omega)); have kl2_0 : w.heap.size < w2.heap.size := (by omega); clear hc2 hf2
          go_wp2
          refine bodyPost_ret (v := .tuple #[.agg #[.int .u32 0, .int .u16 0], .bool false]) (by simp [results, Tryd.results22, go_sem, *]) rfl ⟨?_, ?_⟩
          · rw [HE.out]; rfl
          · have hb := HS.out.below
            (have zz0 := Below.size d2; (try simp at zz0); have zz1 := Below.size hb; (try simp at zz1); repeat (first | exact Below.refl _ _ | refine Below.drew ?_ | refine below_drewN ?_ _ | refine Below.alloc ?_ (by first | omega | (simp; done) | (simp; omega)) _ | refine Below.setCell ?_ (by first | omega | (simp; done) | (simp; omega)) _ | (with_reducible refine Below.trans ?_ (Below.mono d2 (by first | omega | (simp; done) | (simp; omega)))) | (with_reducible refine Below.trans ?_ (Below.mono hb (by first | omega | (simp; done) | (simp; omega))))))
    · have h4' : k = 0 ∨ k = 1 ∨ k = 2 ∨ k = 3 := by omega
      clear h4 hk hlt
      rcases h4' with rfl | rfl | rfl | rfl
      · have hlt : a < 1 := HS.out.lt
        have hT : rdF (3 + 1) a r.data.toList = R := HS.out.todo
        cases hg : dgs 255 r.data.toList with
        | none =>
          have HE := Lib.hid (rd_none hT hg)
          have HG := Lib.hid hg
          clear hT hg
          go_wp2_with fail
          refine (dig_no HG (by omega) (by omega) _).mono ?_; rintro e w2 ⟨rfl, d2⟩; obtain ⟨hc2, hf2, hz2⟩ := bcell d2; (try simp at hz2); have kc2_0 := fun o => hc2 (w.heap.size) o (by first | omega | (simp; done) | (simp; omega)); have kf2_0 := fun o => hf2 (w.heap.size) o (by first | omega | (simp; done) | (simp; omega)); have kl2_0 : w.heap.size < w2.heap.size := (by omega); clear hc2 hf2
          go_wp2
          go_quiet (fail)
          go_wp2
          refine bodyPost_ret (v := .tuple #[.agg #[.int .u32 0, .int .u16 0], .bool false]) (by simp [results, Tryd.results22, go_sem, *]) rfl ⟨?_, ?_⟩
          · rw [HE.out]; rfl
          · have hb := HS.out.below
            (have zz0 := Below.size d2; (try simp at zz0); have zz1 := Below.size hb; (try simp at zz1); repeat (first | exact Below.refl _ _ | refine Below.drew ?_ | refine below_drewN ?_ _ | refine Below.alloc ?_ (by first | omega | (simp; done) | (simp; omega)) _ | refine Below.setCell ?_ (by first | omega | (simp; done) | (simp; omega)) _ | (with_reducible refine Below.trans ?_ (Below.mono d2 (by first | omega | (simp; done) | (simp; omega)))) | (with_reducible refine Below.trans ?_ (Below.mono hb (by first | omega | (simp; done) | (simp; omega))))))
        | some x =>
          obtain ⟨n, p⟩ := x
          have hn := (dgs_some hg).2.2.1
          obtain ⟨t, ht⟩ : ∃ t, r.extract p r.size = t := ⟨_, rfl⟩
          have hl := cut_list r p
          have hts : t.size ≤ r.size := by rw [← ht]; exact extract_le _ _ _ (Nat.le_refl _)
          rw [ht] at hl
          have HT := Lib.hid ht
          have HG := Lib.hid hg
          clear ht
          by_cases he : t.size = 0
          · have he3 : t.data.toList = [] := List.length_eq_zero_iff.1 (by rw [ba_len]; exact he)
            have HE := Lib.hid (rd_mism hT hg (by rw [← hl, he3]; simp))
            have he2 : t.toList.isEmpty = true := by rw [ByteArray.toList_eq, he3]; rfl
            clear hT hg hl he he3
            go_wp2_with fail
            refine (dig_yes HG HT (by omega) (by omega) _).mono ?_; rintro e w2 ⟨rfl, d2⟩; obtain ⟨hc2, hf2, hz2⟩ := bcell d2; (try simp at hz2); have kc2_0 := fun o => hc2 (w.heap.size) o (by first | omega | (simp; done) | (simp; omega)); have kf2_0 := fun o => hf2 (w.heap.size) o (by first | omega | (simp; done) | (simp; omega)); have kl2_0 : w.heap.size < w2.heap.size := (by omega); clear hc2 hf2
            go_wp2
            go_quiet (fail)
            go_wp2
            refine bodyPost_ret (v := .tuple #[.agg #[.int .u32 0, .int .u16 0], .bool false]) (by simp [results, Tryd.results22, go_sem, *]) rfl ⟨?_, ?_⟩
            · rw [HE.out]; rfl
            · have hb := HS.out.below
              (have zz0 := Below.size d2; (try simp at zz0); have zz1 := Below.size hb; (try simp at zz1); repeat (first | exact Below.refl _ _ | refine Below.drew ?_ | refine below_drewN ?_ _ | refine Below.alloc ?_ (by first | omega | (simp; done) | (simp; omega)) _ | refine Below.setCell ?_ (by first | omega | (simp; done) | (simp; omega)) _ | (with_reducible refine Below.trans ?_ (Below.mono d2 (by first | omega | (simp; done) | (simp; omega)))) | (with_reducible refine Below.trans ?_ (Below.mono hb (by first | omega | (simp; done) | (simp; omega))))))
          · have hpos : 0 < t.size := by omega
            have hpi : (0 : Int) < t.size := by omega
            have hpj : (1 : Int) ≤ t.size := by omega
            have hd := drop_get t 0 hpos
            rw [List.drop_zero] at hd
            have he2 : t.toList.isEmpty = false := by rw [ByteArray.toList_eq, hd]; rfl
            have hc : t[0].toNat < 256 := t[0].toNat_lt
            have hh : (r.data.toList.drop p).head? = some t[0] := by rw [← hl, hd]; rfl
            have hmk : (({ data := #[46, 46, 46, 58] } : ByteArray)[0]'(by decide)).toNat = 46 := rfl
            by_cases hm : t[0].toNat = 46
            · have hm2 : (r.data.toList.drop p).head? = some (markOf 3) := by rw [hh]; exact congrArg some (UInt8.toNat_inj.1 hm)
              have HE := Lib.hid (rd_match hT hg hm2)
              have HL : Hid ((t.extract 1 t.size).data.toList = r.data.toList.drop (p + 1)) := by show _ = _; rw [cut_list, hl, List.drop_drop]
              have HZ : Hid ((t.extract 1 t.size).size ≤ s.size) := by
                have := extract_le t 1 t.size (Nat.le_refl _)
                show _ ≤ _
                omega
              have ho := or_step32 (a : Int) (n : Int) (by omega) (by omega) (by omega) (by omega)
              clear hT hg hl he hd hh hm2
              go_wp2_with fail
              refine (dig_yes HG HT (by omega) (by omega) _).mono ?_; rintro e w2 ⟨rfl, d2⟩; obtain ⟨hc2, hf2, hz2⟩ := bcell d2; (try simp at hz2); have kc2_0 := fun o => hc2 (w.heap.size) o (by first | omega | (simp; done) | (simp; omega)); have kf2_0 := fun o => hf2 (w.heap.size) o (by first | omega | (simp; done) | (simp; omega)); have kl2_0 : w.heap.size < w2.heap.size := (by omega); clear hc2 hf2
              go_wp2
              go_quiet (fail)
              go_wp2
              go_quiet (fail)
              go_wp2
              go_roundw
              case rel => exact ⟨1, a * 256 + n, _, by omega, rfl, by simp, rfl, ⟨by rw [HL.out]; exact HE.out, by omega, HZ.out, HS.out.two.keep (below_drewN d2 _), HS.out.below.trans ((below_drewN d2 _).mono HS.out.below.size)⟩⟩
              case measure => simp [intOf]
            · have HE := Lib.hid (rd_mism (k := 3) hT hg (by rw [hh]; intro e; injection e with e; exact hm (congrArg UInt8.toNat e)))
              have hmi : ((t[0].toNat : Int) == 46) = false := by rw [beq_eq_false_iff_ne]; omega
              have hmn : ((t[0].toNat : Int) != 46) = true := by simp [bne, hmi]
              clear hT hg hl he hd hh
              go_wp2_with fail
              refine (dig_yes HG HT (by omega) (by omega) _).mono ?_; rintro e w2 ⟨rfl, d2⟩; obtain ⟨hc2, hf2, hz2⟩ := bcell d2; (try simp at hz2); have kc2_0 := fun o => hc2 (w.heap.size) o (by first | omega | (simp; done) | (simp; omega)); have kf2_0 := fun o => hf2 (w.heap.size) o (by first | omega | (simp; done) | (simp; omega)); have kl2_0 : w.heap.size < w2.heap.size := (by omega); clear hc2 hf2
              go_wp2
              go_quiet (fail)
              go_wp2
              refine bodyPost_ret (v := .tuple #[.agg #[.int .u32 0, .int .u16 0], .bool false]) (by simp [results, Tryd.results22, go_sem, *]) rfl ⟨?_, ?_⟩
              · rw [HE.out]; rfl
              · have hb := HS.out.below
                (have zz0 := Below.size d2; (try simp at zz0); have zz1 := Below.size hb; (try simp at zz1); repeat (first | exact Below.refl _ _ | refine Below.drew ?_ | refine below_drewN ?_ _ | refine Below.alloc ?_ (by first | omega | (simp; done) | (simp; omega)) _ | refine Below.setCell ?_ (by first | omega | (simp; done) | (simp; omega)) _ | (with_reducible refine Below.trans ?_ (Below.mono d2 (by first | omega | (simp; done) | (simp; omega)))) | (with_reducible refine Below.trans ?_ (Below.mono hb (by first | omega | (simp; done) | (simp; omega))))))
      · have hlt : a < 256 := HS.out.lt
        have hT : rdF (2 + 1) a r.data.toList = R := HS.out.todo
        cases hg : dgs 255 r.data.toList with
        | none =>
          have HE := Lib.hid (rd_none hT hg)
          have HG := Lib.hid hg
          clear hT hg
          go_wp2_with fail
          refine (dig_no HG (by omega) (by omega) _).mono ?_; rintro e w2 ⟨rfl, d2⟩; obtain ⟨hc2, hf2, hz2⟩ := bcell d2; (try simp at hz2); have kc2_0 := fun o => hc2 (w.heap.size) o (by first | omega | (simp; done) | (simp; omega)); have kf2_0 := fun o => hf2 (w.heap.size) o (by first | omega | (simp; done) | (simp; omega)); have kl2_0 : w.heap.size < w2.heap.size := (by omega); clear hc2 hf2
          go_wp2
          go_quiet (fail)
          go_wp2
          refine bodyPost_ret (v := .tuple #[.agg #[.int .u32 0, .int .u16 0], .bool false]) (by simp [results, Tryd.results22, go_sem, *]) rfl ⟨?_, ?_⟩
          · rw [HE.out]; rfl
          · have hb := HS.out.below
            (have zz0 := Below.size d2; (try simp at zz0); have zz1 := Below.size hb; (try simp at zz1); repeat (first | exact Below.refl _ _ | refine Below.drew ?_ | refine below_drewN ?_ _ | refine Below.alloc ?_ (by first | omega | (simp; done) | (simp; omega)) _ | refine Below.setCell ?_ (by first | omega | (simp; done) | (simp; omega)) _ | (with_reducible refine Below.trans ?_ (Below.mono d2 (by first | omega | (simp; done) | (simp; omega)))) | (with_reducible refine Below.trans ?_ (Below.mono hb (by first | omega | (simp; done) | (simp; omega))))))
        | some x =>
          obtain ⟨n, p⟩ := x
          have hn := (dgs_some hg).2.2.1
          obtain ⟨t, ht⟩ : ∃ t, r.extract p r.size = t := ⟨_, rfl⟩
          have hl := cut_list r p
          have hts : t.size ≤ r.size := by rw [← ht]; exact extract_le _ _ _ (Nat.le_refl _)
          rw [ht] at hl
          have HT := Lib.hid ht
          have HG := Lib.hid hg
          clear ht
          by_cases he : t.size = 0
          · have he3 : t.data.toList = [] := List.length_eq_zero_iff.1 (by rw [ba_len]; exact he)
            have HE := Lib.hid (rd_mism hT hg (by rw [← hl, he3]; simp))
            have he2 : t.toList.isEmpty = true := by rw [ByteArray.toList_eq, he3]; rfl
            clear hT hg hl he he3
            go_wp2_with fail
            refine (dig_yes HG HT (by omega) (by omega) _).mono ?_; rintro e w2 ⟨rfl, d2⟩; obtain ⟨hc2, hf2, hz2⟩ := bcell d2; (try simp at hz2); have kc2_0 := fun o => hc2 (w.heap.size) o (by first | omega | (simp; done) | (simp; omega)); have kf2_0 := fun o => hf2 (w.heap.size) o (by first | omega | (simp; done) | (simp; omega)); have kl2_0 : w.heap.size < w2.heap.size := (by omega); clear hc2 hf2
            go_wp2
            go_quiet (fail)
            go_wp2
            refine bodyPost_ret (v := .tuple #[.agg #[.int .u32 0, .int .u16 0], .bool false]) (by simp [results, Tryd.results22, go_sem, *]) rfl ⟨?_, ?_⟩
            · rw [HE.out]; rfl
            · have hb := HS.out.below
              (have zz0 := Below.size d2; (try simp at zz0); have zz1 := Below.size hb; (try simp at zz1); repeat (first | exact Below.refl _ _ | refine Below.drew ?_ | refine below_drewN ?_ _ | refine Below.alloc ?_ (by first | omega | (simp; done) | (simp; omega)) _ | refine Below.setCell ?_ (by first | omega | (simp; done) | (simp; omega)) _ | (with_reducible refine Below.trans ?_ (Below.mono d2 (by first | omega | (simp; done) | (simp; omega)))) | (with_reducible refine Below.trans ?_ (Below.mono hb (by first | omega | (simp; done) | (simp; omega))))))
          · have hpos : 0 < t.size := by omega
            have hpi : (0 : Int) < t.size := by omega
            have hpj : (1 : Int) ≤ t.size := by omega
            have hd := drop_get t 0 hpos
            rw [List.drop_zero] at hd
            have he2 : t.toList.isEmpty = false := by rw [ByteArray.toList_eq, hd]; rfl
            have hc : t[0].toNat < 256 := t[0].toNat_lt
            have hh : (r.data.toList.drop p).head? = some t[0] := by rw [← hl, hd]; rfl
            have hmk : (({ data := #[46, 46, 46, 58] } : ByteArray)[1]'(by decide)).toNat = 46 := rfl
            by_cases hm : t[0].toNat = 46
            · have hm2 : (r.data.toList.drop p).head? = some (markOf 2) := by rw [hh]; exact congrArg some (UInt8.toNat_inj.1 hm)
              have HE := Lib.hid (rd_match hT hg hm2)
              have HL : Hid ((t.extract 1 t.size).data.toList = r.data.toList.drop (p + 1)) := by show _ = _; rw [cut_list, hl, List.drop_drop]
              have HZ : Hid ((t.extract 1 t.size).size ≤ s.size) := by
                have := extract_le t 1 t.size (Nat.le_refl _)
                show _ ≤ _
                omega
              have ho := or_step32 (a : Int) (n : Int) (by omega) (by omega) (by omega) (by omega)
              clear hT hg hl he hd hh hm2
              go_wp2_with fail
              refine (dig_yes HG HT (by omega) (by omega) _).mono ?_; rintro e w2 ⟨rfl, d2⟩; obtain ⟨hc2, hf2, hz2⟩ := bcell d2; (try simp at hz2); have kc2_0 := fun o => hc2 (w.heap.size) o (by first | omega | (simp; done) | (simp; omega)); have kf2_0 := fun o => hf2 (w.heap.size) o (by first | omega | (simp; done) | (simp; omega)); have kl2_0 : w.heap.size < w2.heap.size := (by omega); clear hc2 hf2
              go_wp2
              go_quiet (fail)
              go_wp2
              go_quiet (fail)
              go_wp2
              go_roundw
              case rel => exact ⟨2, a * 256 + n, _, by omega, rfl, by simp, rfl, ⟨by rw [HL.out]; exact HE.out, by omega, HZ.out, HS.out.two.keep (below_drewN d2 _), HS.out.below.trans ((below_drewN d2 _).mono HS.out.below.size)⟩⟩
              case measure => simp [intOf]
            · have HE := Lib.hid (rd_mism (k := 2) hT hg (by rw [hh]; intro e; injection e with e; exact hm (congrArg UInt8.toNat e)))
              have hmi : ((t[0].toNat : Int) == 46) = false := by rw [beq_eq_false_iff_ne]; omega
              have hmn : ((t[0].toNat : Int) != 46) = true := by simp [bne, hmi]
              clear hT hg hl he hd hh
              go_wp2_with fail
              refine (dig_yes HG HT (by omega) (by omega) _).mono ?_; rintro e w2 ⟨rfl, d2⟩; obtain ⟨hc2, hf2, hz2⟩ := bcell d2; (try simp at hz2); have kc2_0 := fun o => hc2 (w.heap.size) o (by first | omega | (simp; done) | (simp; omega)); have kf2_0 := fun o => hf2 (w.heap.size) o (by first | omega | (simp; done) | (simp; omega)); have kl2_0 : w.heap.size < w2.heap.size := (by omega); clear hc2 hf2
              go_wp2
              go_quiet (fail)
              go_wp2
              refine bodyPost_ret (v := .tuple #[.agg #[.int .u32 0, .int .u16 0], .bool false]) (by simp [results, Tryd.results22, go_sem, *]) rfl ⟨?_, ?_⟩
              · rw [HE.out]; rfl
              · have hb := HS.out.below
                (have zz0 := Below.size d2; (try simp at zz0); have zz1 := Below.size hb; (try simp at zz1); repeat (first | exact Below.refl _ _ | refine Below.drew ?_ | refine below_drewN ?_ _ | refine Below.alloc ?_ (by first | omega | (simp; done) | (simp; omega)) _ | refine Below.setCell ?_ (by first | omega | (simp; done) | (simp; omega)) _ | (with_reducible refine Below.trans ?_ (Below.mono d2 (by first | omega | (simp; done) | (simp; omega)))) | (with_reducible refine Below.trans ?_ (Below.mono hb (by first | omega | (simp; done) | (simp; omega))))))
      · have hlt : a < 65536 := HS.out.lt
        have hT : rdF (1 + 1) a r.data.toList = R := HS.out.todo
        cases hg : dgs 255 r.data.toList with
        | none =>
          have HE := Lib.hid (rd_none hT hg)
          have HG := Lib.hid hg
          clear hT hg
          go_wp2_with fail
          refine (dig_no HG (by omega) (by omega) _).mono ?_; rintro e w2 ⟨rfl, d2⟩; obtain ⟨hc2, hf2, hz2⟩ := bcell d2; (try simp at hz2); have kc2_0 := fun o => hc2 (w.heap.size) o (by first | omega | (simp; done) | (simp; omega)); have kf2_0 := fun o => hf2 (w.heap.size) o (by first | omega | (simp; done) | (simp; omega)); have kl2_0 : w.heap.size < w2.heap.size := (by omega); clear hc2 hf2
          go_wp2
          go_quiet (fail)
          go_wp2
          refine bodyPost_ret (v := .tuple #[.agg #[.int .u32 0, .int .u16 0], .bool false]) (by simp [results, Tryd.results22, go_sem, *]) rfl ⟨?_, ?_⟩
          · rw [HE.out]; rfl
          · have hb := HS.out.below
            (have zz0 := Below.size d2; (try simp at zz0); have zz1 := Below.size hb; (try simp at zz1); repeat (first | exact Below.refl _ _ | refine Below.drew ?_ | refine below_drewN ?_ _ | refine Below.alloc ?_ (by first | omega | (simp; done) | (simp; omega)) _ | refine Below.setCell ?_ (by first | omega | (simp; done) | (simp; omega)) _ | (with_reducible refine Below.trans ?_ (Below.mono d2 (by first | omega | (simp; done) | (simp; omega)))) | (with_reducible refine Below.trans ?_ (Below.mono hb (by first | omega | (simp; done) | (simp; omega))))))
        | some x =>
          obtain ⟨n, p⟩ := x
          have hn := (dgs_some hg).2.2.1
          obtain ⟨t, ht⟩ : ∃ t, r.extract p r.size = t := ⟨_, rfl⟩
          have hl := cut_list r p
          have hts : t.size ≤ r.size := by rw [← ht]; exact extract_le _ _ _ (Nat.le_refl _)
          rw [ht] at hl
          have HT := Lib.hid ht
          have HG := Lib.hid hg
          clear ht
          by_cases he : t.size = 0
          · have he3 : t.data.toList = [] := List.length_eq_zero_iff.1 (by rw [ba_len]; exact he)
            have HE := Lib.hid (rd_mism hT hg (by rw [← hl, he3]; simp))
            have he2 : t.toList.isEmpty = true := by rw [ByteArray.toList_eq, he3]; rfl
            clear hT hg hl he he3
            go_wp2_with fail
            refine (dig_yes HG HT (by omega) (by omega) _).mono ?_; rintro e w2 ⟨rfl, d2⟩; obtain ⟨hc2, hf2, hz2⟩ := bcell d2; (try simp at hz2); have kc2_0 := fun o => hc2 (w.heap.size) o (by first | omega | (simp; done) | (simp; omega)); have kf2_0 := fun o => hf2 (w.heap.size) o (by first | omega | (simp; done) | (simp; omega)); have kl2_0 : w.heap.size < w2.heap.size := (by omega); clear hc2 hf2
            go_wp2
            go_quiet (fail)
            go_wp2
            refine bodyPost_ret (v := .tuple #[.agg #[.int .u32 0, .int .u16 0], .bool false]) (by simp [results, Tryd.results22, go_sem, *]) rfl ⟨?_, ?_⟩
            · rw [HE.out]; rfl
            · have hb := HS.out.below
              (have zz0 := Below.size d2; (try simp at zz0); have zz1 := Below.size hb; (try simp at zz1); repeat (first | exact Below.refl _ _ | refine Below.drew ?_ | refine below_drewN ?_ _ | refine Below.alloc ?_ (by first | omega | (simp; done) | (simp; omega)) _ | refine Below.setCell ?_ (by first | omega | (simp; done) | (simp; omega)) _ | (with_reducible refine Below.trans ?_ (Below.mono d2 (by first | omega | (simp; done) | (simp; omega)))) | (with_reducible refine Below.trans ?_ (Below.mono hb (by first | omega | (simp; done) | (simp; omega))))))
          · have hpos : 0 < t.size := by omega
            have hpi : (0 : Int) < t.size := by omega
            have hpj : (1 : Int) ≤ t.size := by omega
            have hd := drop_get t 0 hpos
            rw [List.drop_zero] at hd
            have he2 : t.toList.isEmpty = false := by rw [ByteArray.toList_eq, hd]; rfl
            have hc : t[0].toNat < 256 := t[0].toNat_lt
            have hh : (r.data.toList.drop p).head? = some t[0] := by rw [← hl, hd]; rfl
            have hmk : (({ data := #[46, 46, 46, 58] } : ByteArray)[2]'(by decide)).toNat = 46 := rfl
            by_cases hm : t[0].toNat = 46
            · have hm2 : (r.data.toList.drop p).head? = some (markOf 1) := by rw [hh]; exact congrArg some (UInt8.toNat_inj.1 hm)
              have HE := Lib.hid (rd_match hT hg hm2)
              have HL : Hid ((t.extract 1 t.size).data.toList = r.data.toList.drop (p + 1)) := by show _ = _; rw [cut_list, hl, List.drop_drop]
              have HZ : Hid ((t.extract 1 t.size).size ≤ s.size) := by
                have := extract_le t 1 t.size (Nat.le_refl _)
                show _ ≤ _
                omega
              have ho := or_step32 (a : Int) (n : Int) (by omega) (by omega) (by omega) (by omega)
              clear hT hg hl he hd hh hm2
              go_wp2_with fail
              refine (dig_yes HG HT (by omega) (by omega) _).mono ?_; rintro e w2 ⟨rfl, d2⟩; obtain ⟨hc2, hf2, hz2⟩ := bcell d2; (try simp at hz2); have kc2_0 := fun o => hc2 (w.heap.size) o (by first | omega | (simp; done) | (simp; omega)); have kf2_0 := fun o => hf2 (w.heap.size) o (by first | omega | (simp; done) | (simp; omega)); have kl2_0 : w.heap.size < w2.heap.size := (by omega); clear hc2 hf2
              go_wp2
              go_quiet (fail)
              go_wp2
              go_quiet (fail)
              go_wp2
              go_roundw
              case rel => exact ⟨3, a * 256 + n, _, by omega, rfl, by simp, rfl, ⟨by rw [HL.out]; exact HE.out, by omega, HZ.out, HS.out.two.keep (below_drewN d2 _), HS.out.below.trans ((below_drewN d2 _).mono HS.out.below.size)⟩⟩
              case measure => simp [intOf]
            · have HE := Lib.hid (rd_mism (k := 1) hT hg (by rw [hh]; intro e; injection e with e; exact hm (congrArg UInt8.toNat e)))
              have hmi : ((t[0].toNat : Int) == 46) = false := by rw [beq_eq_false_iff_ne]; omega
              have hmn : ((t[0].toNat : Int) != 46) = true := by simp [bne, hmi]
              clear hT hg hl he hd hh
              go_wp2_with fail
              refine (dig_yes HG HT (by omega) (by omega) _).mono ?_; rintro e w2 ⟨rfl, d2⟩; obtain ⟨hc2, hf2, hz2⟩ := bcell d2; (try simp at hz2); have kc2_0 := fun o => hc2 (w.heap.size) o (by first | omega | (simp; done) | (simp; omega)); have kf2_0 := fun o => hf2 (w.heap.size) o (by first | omega | (simp; done) | (simp; omega)); have kl2_0 : w.heap.size < w2.heap.size := (by omega); clear hc2 hf2
              go_wp2
              go_quiet (fail)
              go_wp2
              refine bodyPost_ret (v := .tuple #[.agg #[.int .u32 0, .int .u16 0], .bool false]) (by simp [results, Tryd.results22, go_sem, *]) rfl ⟨?_, ?_⟩
              · rw [HE.out]; rfl
              · have hb := HS.out.below
                (have zz0 := Below.size d2; (try simp at zz0); have zz1 := Below.size hb; (try simp at zz1); repeat (first | exact Below.refl _ _ | refine Below.drew ?_ | refine below_drewN ?_ _ | refine Below.alloc ?_ (by first | omega | (simp; done) | (simp; omega)) _ | refine Below.setCell ?_ (by first | omega | (simp; done) | (simp; omega)) _ | (with_reducible refine Below.trans ?_ (Below.mono d2 (by first | omega | (simp; done) | (simp; omega)))) | (with_reducible refine Below.trans ?_ (Below.mono hb (by first | omega | (simp; done) | (simp; omega))))))
      · have hlt : a < 16777216 := HS.out.lt
        have hT : rdF (0 + 1) a r.data.toList = R := HS.out.todo
        cases hg : dgs 255 r.data.toList with
        | none =>
          have HE := Lib.hid (rd_none hT hg)
          have HG := Lib.hid hg
          clear hT hg
          go_wp2_with fail
          refine (dig_no HG (by omega) (by omega) _).mono ?_; rintro e w2 ⟨rfl, d2⟩; obtain ⟨hc2, hf2, hz2⟩ := bcell d2; (try simp at hz2); have kc2_0 := fun o => hc2 (w.heap.size) o (by first | omega | (simp; done) | (simp; omega)); have kf2_0 := fun o => hf2 (w.heap.size) o (by first | omega | (simp; done) | (simp; omega)); have kl2_0 : w.heap.size < w2.heap.size := (by omega); clear hc2 hf2
          go_wp2
          go_quiet (fail)
          go_wp2
          refine bodyPost_ret (v := .tuple #[.agg #[.int .u32 0, .int .u16 0], .bool false]) (by simp [results, Tryd.results22, go_sem, *]) rfl ⟨?_, ?_⟩
          · rw [HE.out]; rfl
          · have hb := HS.out.below
            (have zz0 := Below.size d2; (try simp at zz0); have zz1 := Below.size hb; (try simp at zz1); repeat (first | exact Below.refl _ _ | refine Below.drew ?_ | refine below_drewN ?_ _ | refine Below.alloc ?_ (by first | omega | (simp; done) | (simp; omega)) _ | refine Below.setCell ?_ (by first | omega | (simp; done) | (simp; omega)) _ | (with_reducible refine Below.trans ?_ (Below.mono d2 (by first | omega | (simp; done) | (simp; omega)))) | (with_reducible refine Below.trans ?_ (Below.mono hb (by first | omega | (simp; done) | (simp; omega))))))
        | some x =>
          obtain ⟨n, p⟩ := x
          have hn := (dgs_some hg).2.2.1
          obtain ⟨t, ht⟩ : ∃ t, r.extract p r.size = t := ⟨_, rfl⟩
          have hl := cut_list r p
          have hts : t.size ≤ r.size := by rw [← ht]; exact extract_le _ _ _ (Nat.le_refl _)
          rw [ht] at hl
          have HT := Lib.hid ht
          have HG := Lib.hid hg
          clear ht
          by_cases he : t.size = 0
          · have he3 : t.data.toList = [] := List.length_eq_zero_iff.1 (by rw [ba_len]; exact he)
            have HE := Lib.hid (rd_mism hT hg (by rw [← hl, he3]; simp))
            have he2 : t.toList.isEmpty = true := by rw [ByteArray.toList_eq, he3]; rfl
            clear hT hg hl he he3
            go_wp2_with fail
            refine (dig_yes HG HT (by omega) (by omega) _).mono ?_; rintro e w2 ⟨rfl, d2⟩; obtain ⟨hc2, hf2, hz2⟩ := bcell d2; (try simp at hz2); have kc2_0 := fun o => hc2 (w.heap.size) o (by first | omega | (simp; done) | (simp; omega)); have kf2_0 := fun o => hf2 (w.heap.size) o (by first | omega | (simp; done) | (simp; omega)); have kl2_0 : w.heap.size < w2.heap.size := (by omega); clear hc2 hf2
            go_wp2
            go_quiet (fail)
            go_wp2
            refine bodyPost_ret (v := .tuple #[.agg #[.int .u32 0, .int .u16 0], .bool false]) (by simp [results, Tryd.results22, go_sem, *]) rfl ⟨?_, ?_⟩
            · rw [HE.out]; rfl
            · have hb := HS.out.below
              (have zz0 := Below.size d2; (try simp at zz0); have zz1 := Below.size hb; (try simp at zz1); repeat (first | exact Below.refl _ _ | refine Below.drew ?_ | refine below_drewN ?_ _ | refine Below.alloc ?_ (by first | omega | (simp; done) | (simp; omega)) _ | refine Below.setCell ?_ (by first | omega | (simp; done) | (simp; omega)) _ | (with_reducible refine Below.trans ?_ (Below.mono d2 (by first | omega | (simp; done) | (simp; omega)))) | (with_reducible refine Below.trans ?_ (Below.mono hb (by first | omega | (simp; done) | (simp; omega))))))
          · have hpos : 0 < t.size := by omega
            have hpi : (0 : Int) < t.size := by omega
            have hpj : (1 : Int) ≤ t.size := by omega
            have hd := drop_get t 0 hpos
            rw [List.drop_zero] at hd
            have he2 : t.toList.isEmpty = false := by rw [ByteArray.toList_eq, hd]; rfl
            have hc : t[0].toNat < 256 := t[0].toNat_lt
            have hh : (r.data.toList.drop p).head? = some t[0] := by rw [← hl, hd]; rfl
            have hmk : (({ data := #[46, 46, 46, 58] } : ByteArray)[3]'(by decide)).toNat = 58 := rfl
            by_cases hm : t[0].toNat = 58
            · have hm2 : (r.data.toList.drop p).head? = some (markOf 0) := by rw [hh]; exact congrArg some (UInt8.toNat_inj.1 hm)
              have HE := Lib.hid (rd_match hT hg hm2)
              have HL : Hid ((t.extract 1 t.size).data.toList = r.data.toList.drop (p + 1)) := by show _ = _; rw [cut_list, hl, List.drop_drop]
              have HZ : Hid ((t.extract 1 t.size).size ≤ s.size) := by
                have := extract_le t 1 t.size (Nat.le_refl _)
                show _ ≤ _
                omega
              have ho := or_step32 (a : Int) (n : Int) (by omega) (by omega) (by omega) (by omega)
              clear hT hg hl he hd hh hm2
              go_wp2_with fail
              refine (dig_yes HG HT (by omega) (by omega) _).mono ?_; rintro e w2 ⟨rfl, d2⟩; obtain ⟨hc2, hf2, hz2⟩ := bcell d2; (try simp at hz2); have kc2_0 := fun o => hc2 (w.heap.size) o (by first | omega | (simp; done) | (simp; omega)); have kf2_0 := fun o => hf2 (w.heap.size) o (by first | omega | (simp; done) | (simp; omega)); have kl2_0 : w.heap.size < w2.heap.size := (by omega); clear hc2 hf2
              go_wp2
              go_quiet (fail)
              go_wp2
              go_quiet (fail)
              go_wp2
              go_roundw
              case rel => exact ⟨4, a * 256 + n, _, by omega, rfl, by simp, rfl, ⟨by rw [HL.out]; exact HE.out, by omega, HZ.out, HS.out.two.keep (below_drewN d2 _), HS.out.below.trans ((below_drewN d2 _).mono HS.out.below.size)⟩⟩
              case measure => simp [intOf]
            · have HE := Lib.hid (rd_mism (k := 0) hT hg (by rw [hh]; intro e; injection e with e; exact hm (congrArg UInt8.toNat e)))
              have hmi : ((t[0].toNat : Int) == 58) = false := by rw [beq_eq_false_iff_ne]; omega
              have hmn : ((t[0].toNat : Int) != 58) = true := by simp [bne, hmi]
              clear hT hg hl he hd hh
              go_wp2_with fail
              refine (dig_yes HG HT (by omega) (by omega) _).mono ?_; rintro e w2 ⟨rfl, d2⟩; obtain ⟨hc2, hf2, hz2⟩ := bcell d2; (try simp at hz2); have kc2_0 := fun o => hc2 (w.heap.size) o (by first | omega | (simp; done) | (simp; omega)); have kf2_0 := fun o => hf2 (w.heap.size) o (by first | omega | (simp; done) | (simp; omega)); have kl2_0 : w.heap.size < w2.heap.size := (by omega); clear hc2 hf2
              go_wp2
              go_quiet (fail)
              go_wp2
              refine bodyPost_ret (v := .tuple #[.agg #[.int .u32 0, .int .u16 0], .bool false]) (by simp [results, Tryd.results22, go_sem, *]) rfl ⟨?_, ?_⟩
              · rw [HE.out]; rfl
              · have hb := HS.out.below
                (have zz0 := Below.size d2; (try simp at zz0); have zz1 := Below.size hb; (try simp at zz1); repeat (first | exact Below.refl _ _ | refine Below.drew ?_ | refine below_drewN ?_ _ | refine Below.alloc ?_ (by first | omega | (simp; done) | (simp; omega)) _ | refine Below.setCell ?_ (by first | omega | (simp; done) | (simp; omega)) _ | (with_reducible refine Below.trans ?_ (Below.mono d2 (by first | omega | (simp; done) | (simp; omega)))) | (with_reducible refine Below.trans ?_ (Below.mono hb (by first | omega | (simp; done) | (simp; omega))))))
end Go.Proofs.YtdihpiggknhojaaDoor
