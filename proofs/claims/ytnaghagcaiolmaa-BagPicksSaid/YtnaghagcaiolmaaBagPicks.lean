/- The statement BagPicks: for any times, any now and any pick: each of those that are ready may be picked, in their order; a pick below 0 is none. No conditions. -/
import Derived.Test.YtnaghagcaiolmaaBagLawT
namespace Go.Proofs.Ytnaghagcaiolmaa
open Go.Sort Go.RowKit Go.BigFrame Go.ChangeShapes Go.WideShapes Go.ChangeAt
open Go.ChangeMaps (open_string shut_string)
set_option linter.unusedVariables false
set_option linter.unusedSimpArgs false

/-- the places of those that are ready, of the first i -/
def rdN (T : List Int) (t : Int) (i : Nat) : List Nat := (List.range i).filter fun j => isR t (pkX j (T.getD j 0))
def rdL (T : List Int) (t : Int) (i : Nat) : List Int := (rdN T t i).map fun (j : Nat) => (j : Int)
theorem rdL_yes {T : List Int} {t : Int} {i : Nat} (h : T.getD i 0 ≤ t) : rdL T t (i + 1) = rdL T t i ++ [(i : Int)] := by
  have e : isR t (pkX i (T.getD i 0)) = true := decide_eq_true h
  unfold rdL rdN
  have e2 : [i].filter (fun j => isR t (pkX j (T.getD j 0))) = [i] := by rw [List.filter_cons, e]; rfl
  rw [List.range_succ, List.filter_append, List.map_append, e2]; rfl
theorem rdL_no {T : List Int} {t : Int} {i : Nat} (h : ¬ T.getD i 0 ≤ t) : rdL T t (i + 1) = rdL T t i := by
  have e : isR t (pkX i (T.getD i 0)) = false := decide_eq_false h
  unfold rdL rdN
  have e2 : [i].filter (fun j => isR t (pkX j (T.getD j 0))) = [] := by rw [List.filter_cons, e]; rfl
  rw [List.range_succ, List.filter_append, List.map_append, e2]; exact List.append_nil _
theorem rdL_len (T : List Int) (t : Int) (i : Nat) : (rdL T t i).length ≤ i := by
  unfold rdL rdN
  rw [List.length_map]
  exact Nat.le_trans (List.length_filter_le _ _) (by rw [List.length_range]; exact Nat.le_refl _)
theorem rdL_ready (T : List Int) (t : Int) (i : Nat) : (rdL T t i).length = readyP t (pkI T (List.range i)) := by
  unfold rdL rdN readyP pkI
  rw [List.length_map, List.filter_map, List.length_map]; rfl
theorem nth_filter {t : Int} (f : Nat → Pi) : ∀ (I : List Nat) (m : Nat), m < readyP t (I.map f) → (I.filter fun i => isR t (f i))[m]? = I[nthR t (I.map f) m]?
  | [], m, h => by simp [readyP] at h
  | i :: I, m, h => by
    unfold readyP at h
    rw [List.map_cons] at h ⊢
    rw [List.filter_cons] at h ⊢
    rw [nthR_cons]
    cases e : isR t (f i) with
    | true =>
      rw [e] at h
      simp only [if_true, List.length_cons] at h ⊢
      by_cases hm : m = 0
      · subst hm; rfl
      · rw [if_neg hm, List.getElem?_cons_succ]
        obtain ⟨k, rfl⟩ : ∃ k, m = k + 1 := ⟨m - 1, by omega⟩
        rw [List.getElem?_cons_succ]
        exact nth_filter f I k (by unfold readyP; omega)
    | false =>
      rw [e] at h
      simp only [Bool.false_eq_true, if_false] at h ⊢
      rw [List.getElem?_cons_succ]
      exact nth_filter f I m h
theorem rdL_at {T : List Int} {t : Int} {n m : Nat} (h : m < readyP t (pkI T (List.range n))) : (rdL T t n)[m]? = some ((nthR t (pkI T (List.range n)) m : Nat) : Int) := by
  have h1 := nth_filter (t := t) (fun i => pkX i (T.getD i 0)) (List.range n) m h
  have h2 : nthR t (pkI T (List.range n)) m < n := by
    have := nth_lt _ _ h
    simpa [pkI] using this
  unfold rdL rdN
  rw [List.getElem?_map, h1]
  have h3 : (List.range n)[nthR t (pkI T (List.range n)) m]? = some (nthR t (pkI T (List.range n)) m) := List.getElem?_range h2
  show Option.map _ ((List.range n)[nthR t (pkI T (List.range n)) m]?) = _
  rw [h3]; rfl
theorem ready_erase {t : Int} {L : List Pi} {j : Nat} {x : Pi} (h : L[j]? = some x) (hx : x.t ≤ t) : readyP t (L.eraseIdx j) + 1 = readyP t L := by
  obtain ⟨hj, rfl⟩ := List.getElem?_eq_some_iff.1 h
  have e : isR t L[j] = true := decide_eq_true hx
  have hL : L = L.take j ++ L[j] :: L.drop (j + 1) := by rw [← List.drop_eq_getElem_cons hj, List.take_append_drop]
  unfold readyP
  rw [List.eraseIdx_eq_take_drop_succ]
  conv => rhs; rw [hL]
  rw [List.filter_append, List.filter_append, List.filter_cons, e]
  simp only [if_true, List.length_append, List.length_cons]
  omega
def PkJ (B g n : Nat) (T : List Int) (t : Int) (w : World) (rv iv : Value) (wr : World) : Prop := ∃ i : Nat, i ≤ n ∧ iv = .int .i64 (i : Nat) ∧ L1R B rv (rdL T t i) g 12 (pkI T (List.range i)) w wr
theorem info_int : (Try.prog.info? 3).map (fun i => (i.zero, i.size, i.bytes)) = some (some (.int .i64 0), 1, 8) := by kernel_rfl
/-- behind w only new memory was made -/
def Bel (w w' : World) : Prop := Below w.heap.size w w'
theorem Bel.refl (w : World) : Bel w w := Below.refl _ _
theorem Bel.size {w w' : World} (h : Bel w w') : w.heap.size ≤ w'.heap.size := Below.size h
theorem Bel.drew {w w' : World} (h : Bel w w') : Bel w w'.drew := Below.drew h
theorem Bel.alloc {w w' : World} (h : Bel w w') (o : Obj) : Bel w (w'.alloc o) := Below.alloc h h.size o
theorem Bel.call {w w' w'' : World} (h : Bel w w') (d : Below w'.heap.size w' w'') : Bel w w'' := Below.trans h (d.mono h.size)
theorem conv_one (W : World) (g j : Nat) (hj : j < 256) (h : W.cell? ⟨g, 0, none⟩ = some (.int .u8 (j : Nat))) : (convert 65 9 (.slice (some ⟨g, 0, none⟩) 1 1)).run Try.prog W = .ok (.string (bI j)) W := by
  have h2 := run_convert_bytes_back (P := Try.prog) W 65 9 5 ⟨g, 0, none⟩ 1 [UInt8.ofNat j] Try.underlying65 Try.underlying5 Try.underlying9 (fun k hk => by
    obtain rfl : k = 0 := by simpa using hk
    rw [add_at]
    have e : ((UInt8.ofNat j).toNat : Int) = (j : Int) := by simp [UInt8.toNat_ofNat']; omega
    simp only [List.getElem_cons_zero, Nat.zero_add]
    rw [h, e])
  exact h2
set_option maxHeartbeats 32000000 in
set_option maxRecDepth 100000 in
theorem bagPicks_walk (a : Option Addr) (len cap : Nat) (zs : List Int) (c p t : Int) (hct : c.tmod 5 = t) (ht0 : 0 ≤ t) (ht1 : t < 5) (hp0 : -9223372036854775808 ≤ p) (hp1 : p ≤ 9223372036854775807) (n : Nat) (hn : min len 12 = n) (w : World) (hr : Rd .u8 w w.heap.size a zs) (hzl : zs.length = len) (hl63 : len ≤ 9223372036854775807) (hzb : ∀ z ∈ zs, 0 ≤ z ∧ z ≤ 255) :
    Calls Try.prog 7 #[.slice a len cap, .int .u8 c, .int .i64 p] w fun e w' => e = .returned (.bool true) ∧ Below w.heap.size w w' := by
  have HZ := Lib.hid hr
  have hn20 : n ≤ 12 := by omega
  have hnl : n ≤ zs.length := by omega
  have wt := IntWalk.u64_in t ⟨by omega, by omega⟩
  obtain ⟨T, hT⟩ : ∃ T : List Int, zs.map (fun z => z % 4) = T := ⟨_, rfl⟩
  have HT : Hid (∀ i, i < n → ∃ z, zs.getD i 0 = z ∧ 0 ≤ z ∧ z ≤ 255 ∧ z.tmod 4 = T.getD i 0 ∧ 0 ≤ T.getD i 0 ∧ T.getD i 0 < 4) := fun i hi => by
    have hi2 : i < zs.length := by omega
    have hz := hzb _ (List.getElem_mem hi2)
    have e1 : zs.getD i 0 = zs[i] := by simp [List.getD_eq_getElem?_getD, hi2]
    have e2 : T.getD i 0 = zs[i] % 4 := by rw [← hT]; simp [List.getD_eq_getElem?_getD, hi2]
    rw [e1, e2]
    exact ⟨_, rfl, hz.1, hz.2, tmod_pos _ _ hz.1, by omega, by omega⟩
  obtain ⟨i1, hi1, hy0, hy1, hy2⟩ := info_parts info_int
  clear hT hr hzb
  go_enter Try.func7, Try.ntmps7
  go_wp2_with fail
  refine (examples_yes _).mono ?_; rintro e w1 ⟨rfl, b1⟩
  have hB := Lib.hid b1
  have C := newL (B := w.heap.size) (l := []) (room := 12) (w := w1) b1.size (Cl.nil w1) (by omega) (by omega)
  clear b1
  go_wp2_with fail
  refine C.mono ?_; rintro e w2 ⟨g, rfl, h2, b2⟩
  have H2 := Lib.hid (L1R.start h2 (hB.out.trans (b2.mono hB.out.size)))
  clear b2 h2 C hB
  go_wp2_with fail
  go_loopw [10, 12] (fun rv iv wr => PkJ w.heap.size g n T t w rv iv wr) (fun _ i _ => n - (intOf i).toNat)
  case atStart => exact ⟨0, Nat.zero_le _, rfl, H2.out⟩
  case round =>
    obtain ⟨i, hi, rfl, hL⟩ := hrel
    clear H2
    have hi0 : (0 : Int) ≤ i := by omega
    have hrl := rdL_len T t i
    by_cases hlt : i < n
    · have hi6 : (i : Int) ≤ 12 := by omega
      have hd1 : decide ((i : Int) < (len : Int)) = true := decide_eq_true (by omega)
      have hd2 : decide ((i : Int) < 12) = true := decide_eq_true (by omega)
      have hd3 : decide (i < len) = true := decide_eq_true (by omega)
      have HI1 : Hid (i + 1 ≤ n) := hlt
      obtain ⟨z, hz, z0, z1, hzt, t0, t1⟩ := HT.out i hlt
      obtain ⟨e1, e2⟩ := pk_put (T := T) (room := 12) (i := i) (by omega)
      obtain ⟨bz, off, rfl, hbz, hcz⟩ := (HZ.out.below hL.bel) (by omega)
      have cz := hcz i (by omega)
      rw [hz] at cz
      have HZ9 := Lib.hid hz
      have hzw : bz < wr.heap.size := Nat.lt_of_lt_of_le hbz hL.bel.size
      have hlen1 : (i : Int) < len := by omega
      have w8 : IntKind.u8.wrap (i : Int) = i := IntWalk.u8_in _ ⟨by omega, by omega⟩
      have KY := fun h => rdL_yes (T := T) (t := t) (i := i) h
      have KN := fun h => rdL_no (T := T) (t := t) (i := i) h
      generalize T.getD i 0 = tt at *
      have w64 : IntKind.u64.wrap tt = tt := IntWalk.u64_in _ ⟨by omega, by omega⟩
      have cv := conv_byte wr i (by omega)
      have HR := Lib.hid (fun o => hL.keep (((Below.refl wr.heap.size wr).alloc (Nat.le_refl _) o).drew))
      have PT := Lib.hid (fun o => (HR.out o).l1.putT 1 1 2 2 (bI i) tt t0 (by omega) (by show (1 : Nat) ≤ _; omega) e1 e2)
      clear hL e1 e2 hcz hz
      go_upto_region 12 with fail
      go_cut [] (fun wx => L1R w.heap.size u10 (rdL T t i) g 12 (pkI T (List.range (i + 1))) w wx)
      case first =>
        go_region_law (go_simp; go_at_call 21; refine (PT.out _).mono ?_; rintro e wx hA; obtain ⟨rfl, hS⟩ := (HR.out _).after hA; have FIN := Lib.hid hS; clear hA hS)
        all_goals go_wp2
        all_goals go_meet
        all_goals exact FIN.out
      case rest =>
        have HL2 := Lib.hid hcut
        obtain ⟨bz2, off2, e9, hbz2, hcz2⟩ := (HZ.out.below hcut.bel) (by omega)
        simp only [Option.some.injEq, Addr.mk.injEq, and_true] at e9
        obtain ⟨rfl, rfl⟩ := e9
        have cz2 := hcz2 i (by omega)
        rw [HZ9.out] at cz2
        have hzw2 : bz < wc.heap.size := Nat.lt_of_lt_of_le hbz2 hcut.bel.size
        clear PT HR cv hcz2 hbz2 cz hzw hcut hbz
        generalize wc = w4 at *
        by_cases hk : tt ≤ t
        · have hkd : decide (tt ≤ t) = true := decide_eq_true hk
          have EQ := Lib.hid (KY hk)
          have hlo := Lib.hid HL2.out.l1.lo
          clear KY KN hk
          go_wp2_with (at_builtin; refine wpList_append_lies _ rfl (.tmp 65) (.tmp 67) 70 rfl w.heap.size 3 i1 (.int .i64 0) 1 8 Try.underlying70 hi1 hy0 hy1 hy2 rfl (by omega) u10 (rdL T t i).length ((rdL T t i).map (Value.int .i64)) rfl (HL2.out.keep ((Below.refl _ w4).alloc (Nat.le_refl _) _)).row ⟨_, 0, none⟩ 1 1 [.int .i64 (i : Nat)] rfl rfl (World.news_of_block (cs := #[.int .i64 (i : Nat)]) (t := 3) (fr := (0, 0)) (heap_alloc_new _ _)) (by simp [Value.oneCell']) (by omega) (by unfold maxLen; omega) (by omega) (by have := hlo.out; simp; omega) _ rfl ?_)
          intro g1 cap1 w9 hown hgrow hat hlt9
          have FIN := Lib.hid ((HL2.out.keep ((Below.refl _ w4).alloc (Nat.le_refl _) (.cells #[.int .i64 (i : Nat)] 3))).push hown hgrow (fun k hk => by
            have e : g1 = k := Option.some.inj hk
            subst e
            rcases hat with h | h
            · exact .inl h
            · exact .inr (by first | omega | (simp; omega) | (simp at h ⊢; omega))))
          clear hown hgrow hat
          go_wp2_with fail
          go_roundw
          case rel => exact ⟨i + 1, HI1.out, by go_num, by rw [EQ.out]; exact FIN.out⟩
          case measure => simp [intOf]; omega
        · have hkd : decide (tt ≤ t) = false := decide_eq_false hk
          have EQ := Lib.hid (KN hk)
          clear KY KN hk
          go_wp2_with fail
          go_roundw
          case rel => exact ⟨i + 1, HI1.out, by go_num, by rw [EQ.out]; exact HL2.out⟩
          case measure => simp [intOf]; omega
    · obtain rfl : i = n := by omega
      have hi6 : (i : Int) ≤ 12 := by omega
      generalize u10 = rv at *
      obtain ⟨ra, rcap, hrv⟩ : ∃ ra rcap, rv = .slice ra (rdL T t i).length rcap := by
        rcases hL.row.2 with ⟨rfl, h0⟩ | ⟨gq, cq, cur, rfl, _⟩
        · exact ⟨none, 0, by rw [h0]⟩
        · exact ⟨_, cq, rfl⟩
      subst hrv
      have hrdy := rdL_ready T t i
      obtain ⟨m, hm⟩ : ∃ m : Nat, (rdL T t i).length = m := ⟨_, rfl⟩
      rw [hm] at hrdy
      have hm12 : (m : Int) ≤ 12 := by omega
      have HRD := Lib.hid hrdy
      have T1 := hL.l1.ready t (n := m) (by rw [← hrdy])
      have HL := Lib.hid hL
      have HM := Lib.hid hm
      rw [hm]
      clear hL hrdy
      go_upto_region 10 with fail
      go_cut [39] (fun cv wx => cv = .bool false ∧ wx = wr)
      case first =>
        by_cases hil : i < len
        · have h1 : decide ((i : Int) < (len : Int)) = true := decide_eq_true (by omega)
          have h2 : decide ((i : Int) < 12) = false := decide_eq_false (by omega)
          have h3 : decide (i < len) = true := decide_eq_true hil
          go_wp2_with fail
          go_meet
          exact ⟨rfl, rfl⟩
        · have h1 : decide ((i : Int) < (len : Int)) = false := decide_eq_false (by omega)
          have h3 : decide (i < len) = false := decide_eq_false hil
          go_wp2_with fail
          go_meet
          exact ⟨rfl, rfl⟩
      case rest =>
        obtain ⟨rfl, rfl⟩ := hcut
        go_wp2_with fail
        (with_reducible refine T1.mono ?_); rintro e w5 ⟨rfl, b5⟩
        have HL5 := Lib.hid (HL.out.keep b5)
        clear T1 b5 HL
        by_cases hp : p < 0
        · have hpd : decide (p < 0) = true := decide_eq_true hp
          have hpe : pickE t p (pkI T (List.range i)) = (0, 1) := if_pos hp
          obtain ⟨q1, q2⟩ := take_bad hpe (by omega)
          have T1 := HL5.out.l1.takeT t p hp1 q1 (by rw [hpe]) q2
          clear hpe q1 q2 hp
          go_wp2_with fail
          (with_reducible refine T1.mono ?_); rintro e w6 hA
          obtain ⟨rfl, h6⟩ := HL5.out.after hA
          have h7 := h6.keep ((Below.refl w6.heap.size w6).alloc (Nat.le_refl _) (.cells #[.int .u32 0, .int .u16 0, .int .u32 0, .int .u16 0, .string ⟨#[]⟩, .int .u64 0] 37))
          have T2 := h7.l1.ready t (n := m) (by rw [← HRD.out])
          have HB := Lib.hid h7.bel
          clear hA h6 h7 T1 HL5
          go_wp2_with fail
          (with_reducible refine T2.mono ?_); rintro e w8 ⟨rfl, b8⟩
          have HB8 := Lib.hid (HB.out.trans (b8.mono HB.out.size))
          clear T2 b8
          go_wp2_with fail
          go_ret
          exact ⟨rfl, HB8.out⟩
        · have hpd : decide (p < 0) = false := decide_eq_false hp
          by_cases hm0 : m = 0
          · have hpe : pickE t p (pkI T (List.range i)) = (0, 5) := by unfold pickE; rw [if_neg hp, if_pos (by rw [← HRD.out]; exact hm0)]
            obtain ⟨q1, q2⟩ := take_bad hpe (by omega)
            have T1 := HL5.out.l1.takeT t p hp1 q1 (by rw [hpe]) q2
            have hmd : ((m : Int) == 0) = true := by rw [beq_iff_eq]; omega
            have hmd2 : (m == 0) = true := by rw [beq_iff_eq]; exact hm0
            clear hpe q1 q2 hm0 hp
            go_wp2_with fail
            (with_reducible refine T1.mono ?_); rintro e w6 hA
            obtain ⟨rfl, h6⟩ := HL5.out.after hA
            have HB := Lib.hid (h6.keep ((Below.refl w6.heap.size w6).alloc (Nat.le_refl _) (.cells #[.int .u32 0, .int .u16 0, .int .u32 0, .int .u16 0, .string ⟨#[]⟩, .int .u64 0] 37))).bel
            clear hA h6 T1 HL5
            go_wp2_with fail
            go_ret
            exact ⟨rfl, HB.out⟩
          · have hmp : 0 < readyP t (pkI T (List.range i)) := by have := HRD.out; omega
            obtain ⟨q, hq⟩ : ∃ q : Nat, p % (m : Int) = (q : Int) := ⟨(p % (m : Int)).toNat, by have := Int.emod_nonneg p (show (m : Int) ≠ 0 by omega); omega⟩
            have hqt : p.tmod (m : Int) = (q : Int) := by rw [tmod_pos _ _ (by omega)]; exact hq
            have hqm : q < m := by have := Int.emod_lt_of_pos p (show (0 : Int) < (m : Int) by omega); omega
            obtain ⟨j, hj⟩ : ∃ j : Nat, nthR t (pkI T (List.range i)) q = j := ⟨_, rfl⟩
            have hpe : pickE t p (pkI T (List.range i)) = (j, 0) := by
              unfold pickE
              rw [if_neg hp, if_neg (by omega), ← hj]
              congr 2
              have h1 : ((p.toNat % readyP t (pkI T (List.range i)) : Nat) : Int) = q := by rw [Int.natCast_emod, Int.toNat_of_nonneg (by omega), ← HRD.out, hq]
              omega
            have hat := rdL_at (T := T) (t := t) (n := i) (m := q) (by rw [← HRD.out]; exact hqm)
            rw [hj] at hat
            have hjl := pick_lt hpe
            have hji : j < i := by simpa [pkI] using hjl
            have hx : (pkI T (List.range i))[j]? = some (pkX j (T.getD j 0)) := by
              unfold pkI
              rw [List.getElem?_map, List.getElem?_range hji]; rfl
            have hxt : T.getD j 0 ≤ t := by
              obtain ⟨y, hy1, hy2⟩ := nth_ready (now := t) (pkI T (List.range i)) q (by rw [← HRD.out]; exact hqm)
              rw [hj, hx] at hy1
              obtain rfl := (Option.some.inj hy1)
              exact hy2
            have hre := ready_erase hx hxt
            have hLX : takeX t p (pkI T (List.range i)) = ⟨1, 1, 2, 2, bI j, T.getD j 0⟩ := by unfold takeX; rw [hpe]; simp [hx, pkX]
            have hLL : takeL t p (pkI T (List.range i)) = (pkI T (List.range i)).eraseIdx j := by unfold takeL; rw [hpe]; rfl
            have T1 := HL5.out.l1.takeT t p hp1 hLX (by rw [hpe]) hLL
            have HRE : Hid (((readyP t ((pkI T (List.range i)).eraseIdx j) : Nat) : Int) = (m : Int) - 1) := by
              have := HRD.out
              show ((readyP t ((pkI T (List.range i)).eraseIdx j) : Nat) : Int) = (m : Int) - 1
              omega
            have hmd : ((m : Int) == 0) = false := by rw [beq_eq_false_iff_ne]; omega
            have hmd2 : (m == 0) = false := by rw [beq_eq_false_iff_ne]; exact hm0
            obtain ⟨gr, capr, hvr, _, hgr⟩ := World.ownsRow.form HL5.out.row (by rw [HM.out]; omega)
            simp only [Value.slice.injEq, true_and] at hvr
            obtain ⟨rfl, rfl⟩ := hvr
            generalize T.getD j 0 = tj at *
            have cvj := fun W g h => conv_one W g j (by omega) h
            have w8 : IntKind.u8.wrap (j : Int) = j := IntWalk.u8_in _ ⟨by omega, by omega⟩
            have hq0 : (0 : Int) ≤ q := by omega
            have hqm' : (q : Int) < m := by omega
            have HAT := Lib.hid hat
            generalize hs : bI j = s at *
            clear hs hpe hat hjl hx hre hLX hLL hj hmp hq
            go_wp2_with fail
            (with_reducible refine T1.mono ?_); rintro e w6 hA
            obtain ⟨rfl, h6⟩ := HL5.out.after hA
            have h7 := h6.keep ((Below.refl w6.heap.size w6).alloc (Nat.le_refl _) (.cells #[.int .u32 1, .int .u16 1, .int .u32 2, .int .u16 2, .string s, .int .u64 tj] 37))
            have X7 := Cs.new w6 [.int .u32 1, .int .u16 1, .int .u32 2, .int .u16 2, .string s, .int .u64 tj] 37
            clear hA h6 T1 HL5
            go_upto_region 21 with fail
            generalize (w6.alloc (.cells #[.int .u32 1, .int .u16 1, .int .u32 2, .int .u16 2, .string s, .int .u64 tj] 37)) = w7 at *
            generalize w6.heap.size = xb at *
            have x4 := X7.cell 4 _ rfl
            have xl := X7.lt
            have rc : w7.cell? ⟨gr, q, none⟩ = some (.int .i64 (j : Nat)) := by
              rw [World.ownsRow.cellAt h7.row q (by rw [HM.out]; omega), List.getElem?_map, HAT.out]; rfl
            have rl := (World.ownsRow.lt h7.row gr rfl).2
            have QB : Bel w7 w7 := Bel.refl _
            have wm : IntKind.i64.wrap ((m : Int) - 1) = (m : Int) - 1 := IntWalk.i64_in _ ⟨by omega, by omega⟩
            have mkS : Hid (∀ w', Bel w7 w' → w'.cell? ⟨xb, 4, none⟩ = some (.string s) ∧ w'.cell? ⟨gr, q, none⟩ = some (.int .i64 (j : Nat)) ∧ Bel w7 w') := fun w' h => ⟨(Below.cell (p := ⟨xb, 4, none⟩) h xl).trans x4, (Below.cell (p := ⟨gr, q, none⟩) h rl).trans rc, h⟩
            have RD : Hid (∀ w', Bel w7 w' → Calls Try.prog 25 #[.pointer (some ⟨g, 0, none⟩), .int .u64 t] w' fun e w'' => e = .returned (.int .i64 ((m : Int) - 1)) ∧ Below w'.heap.size w' w'') := fun w' h => (h7.keep h).l1.ready t HRE.out
            have FB := Lib.hid (fun w' (h : Bel w7 w') => (h7.keep h).bel)
            clear h7 X7
            go_region_held (fun w' => w'.cell? ⟨xb, 4, none⟩ = some (.string s) ∧ w'.cell? ⟨gr, q, none⟩ = some (.int .i64 (j : Nat)) ∧ Bel w7 w') (first | exact mkS.out _ QB | exact mkS.out _ QB.drew | exact mkS.out _ (QB.alloc _) | exact mkS.out _ (QB.drew.alloc _) | exact mkS.out _ ((QB.alloc _).drew)) (first | (go_at_call 25; refine (RD.out _ (by first | exact QB | exact QB.drew | exact (QB.alloc _) | exact (QB.drew.alloc _) | exact ((QB.alloc _).drew))).mono ?_; rintro e wx ⟨rfl, hb⟩; have QB := Bel.call (by first | exact QB | exact QB.drew | exact (QB.alloc _) | exact (QB.drew.alloc _) | exact ((QB.alloc _).drew)) hb; have qz := QB.size) | fail)
            all_goals go_wp2
            all_goals go_ret
            all_goals exact ⟨rfl, FB.out _ QB⟩
theorem bagPicks_run (a : Option Addr) (len cap : Nat) (zs : List Int) (c p : Int) (w : World) (wz : ArgRow .u8 w a len cap zs) (wc : (Lit.int .u8 c).wf = true) (wp : (Lit.int .i64 p).wf = true) :
    Calls Try.prog 7 #[.slice a len cap, .int .u8 c, .int .i64 p] w fun e w' => e = .returned (.bool true) ∧ Below w.heap.size w w' := by
  obtain ⟨h1, h2, h3, h4⟩ := wz.rd
  obtain ⟨hc0, hc1⟩ := bounds_u8 wc
  obtain ⟨hp0, hp1⟩ := bounds_i64 wp
  have e1 : c.tmod 5 = c % 5 := tmod_pos _ _ hc0
  exact bagPicks_walk a len cap (zs.take len) c p _ e1 (by omega) (by omega) hp0 hp1 _ rfl w h1 h2 h3 (fun z hz => bounds_u8 (h4 z hz))
theorem bagPicks_own : ownKnob Try.prog.godebug = none := by kernel_rfl
theorem bagPicks_laid : laidOutB Try.prog = true := by kernel_rfl
set_option maxRecDepth 100000 in
theorem bagPicks_lifted (os : Os) (started : os.Started) (H : Type) (enc : TypeId × Value → H) :
    ReturnsInHanded {} Try.checked os 7 .any (Rows.bagPicksSpec.pre6 enc Try.prog Try.f7 Rows.bagPicksRow.domain false) (Rows.bagPicksSpec.post enc Try.prog Try.f7 false true false false) := by
  refine returnsInHanded_of_change (C := Try.checked) bagPicks_own started (by kernel_rfl) Try.func7
    (ChangeSpec.witness6 (enc := enc) (C := Try.checked) false ⟨#[], #[.slice none 0 0, .int .u8 0, .int .i64 0], []⟩ 8 (by kernel_rfl) (by kernel_rfl) (by kernel_rfl) (by kernel_rfl)) ?_
  intro W base args ds gs before hval0 hW hcnd _
  have hval : ∀ (j : Nat) t v, Try.f7.params[j]? = some t → args[j]? = some v → Value.okWide Try.prog W .any base t v := hval0
  have hW' := hW
  obtain ⟨p, q, hA0, hV, rfl, hfz, hnd⟩ := hW
  have hA : DataW.TrodAll enc Try.prog W 0 (fun _ => true) true Try.f7.params.toList args.toList ds p := hA0
  rw [Try.params7] at hA hval
  obtain ⟨v0, vs0, d0, ds0, p0, q0, hargs, rfl, rfl, h0, r0⟩ := trodAll_cons hA
  obtain ⟨v1, vs1, d1, ds1, p1, q1, rfl, rfl, rfl, h1, r1⟩ := trodAll_cons r0
  obtain ⟨v2, vs2, d2, ds2, p2, q2, rfl, rfl, rfl, h2, r2⟩ := trodAll_cons r1
  obtain ⟨rfl, rfl, rfl⟩ := trodAll_nil r2
  obtain rfl : args = #[v0, v1, v2] := by cases args; simp_all
  obtain ⟨rfl, rfl⟩ := trodVars_none hV
  obtain ⟨a0, len0, cap0, rfl⟩ := okWide_slice Try.underlying65 (hval 0 65 v0 rfl rfl)
  have k0 := h0
  have lt0 : ∀ x ∈ p0, x.block < W.heap.size := by obtain ⟨m, hm⟩ := k0; exact DataW.trod_lt m _ _ _ hm
  obtain ⟨z0, w0⟩ : ∃ zs, ArgRow .u8 W a0 len0 cap0 zs := by
    obtain ⟨fuel, hf⟩ := h0
    rcases open_ints Try.underlying65 Try.underlying5 (by kernel_rfl) hf with ⟨hcs, _⟩ | ⟨x, l, c, zs, hcs, _, hl, hm, hz, _, hcell, hwz⟩
    · simp [Value.cells] at hcs
      obtain ⟨rfl, rfl, rfl⟩ := hcs
      exact ⟨[], .inl ⟨rfl, rfl, rfl, rfl⟩⟩
    · simp [Value.cells] at hcs
      obtain ⟨rfl, rfl, rfl⟩ := hcs
      exact ⟨zs, .inr ⟨_, rfl, hl, hm, by simpa using hz, hcell, hwz⟩⟩
  obtain ⟨a1, rfl, rfl, rfl, w1⟩ := open_int Try.underlying5 (hval 1 5 v1 rfl rfl) h1
  obtain ⟨a2, rfl, rfl, rfl, w2⟩ := open_int Try.underlying3 (hval 2 3 v2 rfl rfl) h2
  clear hA0 hval0
  refine (bagPicks_run a0 len0 cap0 z0 a1 a2 W w0 w1 w2).mono fun e W' ⟨he, bel⟩ => ?_
  subst he
  exact ⟨_, rfl, _, _, _, [], _, [], hW', trodAll_mk1 (shut_bool Try.underlying4 _), (trodAll_cons_mk (Below.trod bagPicks_laid (by kernel_rfl) (of_decide_eq_true (by kernel_rfl)) k0 bel lt0) (trodAll_cons_mk (shut_int Try.underlying5 w1) (trodAll_cons_mk (shut_int Try.underlying3 w2) trodAll_mk0))), rfl, bel.frame _, fun h => by cases h⟩
theorem bagPicks_over : Rows.bagPicksRow.holds Try.pinned (OpenSpec.ofChange Rows.bagPicksSpec) :=
  OpenClaim.holds_of_wide 7 Try.f7 rfl rfl rfl rfl rfl rfl rfl ⟨rfl, rfl, rfl, rfl, rfl⟩ rfl rfl rfl rfl rfl (by kernel_rfl) Try.func7 (by kernel_rfl)
    (of_decide_eq_true (by kernel_rfl)) (by unfold Func.isWrapper; first | (rw [if_pos (by decide +kernel)]; kernel_rfl) | (rw [if_neg (by decide +kernel)]; exact ⟨rfl, rfl⟩))
    (fun os started H enc _ => bagPicks_lifted os started H enc)
theorem bagPicks_holds : Rows.BagPicksSaid := bagPicks_over
#print axioms bagPicks_holds
end Go.Proofs.Ytnaghagcaiolmaa
