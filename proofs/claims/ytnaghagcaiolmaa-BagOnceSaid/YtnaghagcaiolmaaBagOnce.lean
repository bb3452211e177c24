/- The statement BagOnce: for any times and any picks: each that was put is taken once, and none ahead of its time. No conditions. -/
import Derived.Test.YtnaghagcaiolmaaBagPuts
namespace Go.Proofs.Ytnaghagcaiolmaa
open Go.Sort Go.RowKit Go.BigFrame Go.ChangeShapes Go.WideShapes Go.ChangeAt
open Go.ChangeMaps (open_string shut_string)
set_option linter.unusedVariables false
set_option linter.unusedSimpArgs false

def OnceJ (B g n : Nat) (T : List Int) (w : World) (iv : Value) (wr : World) : Prop := ∃ i : Nat, i ≤ n ∧ iv = .int .i64 (i : Nat) ∧ L1 B [] g 20 (pkI T (List.range i)) wr ∧ Below B w wr
def OutJ9 (B tb g n : Nat) (T : List Int) (w : World) (mv nv : Value) (wr : World) : Prop := ∃ (now : Nat) (I : List Nat) (bs : List Bool), now ≤ 16 ∧ nv = .int .u64 (now : Nat) ∧ mv = .int .i64 ((n - I.length : Nat) : Nat) ∧ OnS B tb g n T now I bs w wr
def InJ9 (B tb g n : Nat) (T : List Int) (now : Nat) (w : World) (mv kv : Value) (wr : World) : Prop := ∃ (k : Nat) (I : List Nat) (bs : List Bool), k ≤ n - I.length ∧ kv = .int .i64 (k : Nat) ∧ mv = .int .i64 ((n - I.length : Nat) : Nat) ∧ OnS B tb g n T now I bs w wr
theorem pkI_erase (T : List Int) (I : List Nat) (j : Nat) : (pkI T I).eraseIdx j = pkI T (I.eraseIdx j) := by
  unfold pkI
  rw [List.eraseIdx_eq_take_drop_succ, List.eraseIdx_eq_take_drop_succ, List.map_append, List.map_take, List.map_drop]
set_option maxHeartbeats 32000000 in
set_option maxRecDepth 100000 in
theorem bagOnce_walk (a : Option Addr) (len cap : Nat) (zs : List Int) (a' : Option Addr) (len' cap' : Nat) (zs' : List Int) (n : Nat) (hn : min len 20 = n) (w : World) (hr : Rd .u8 w w.heap.size a zs) (hzl : zs.length = len) (hl63 : len ≤ 9223372036854775807) (hzb : ∀ z ∈ zs, 0 ≤ z ∧ z ≤ 255)
    (hr' : Rd .u8 w w.heap.size a' zs') (hzl' : zs'.length = len') (hl63' : len' ≤ 9223372036854775807) (hzb' : ∀ z ∈ zs', 0 ≤ z ∧ z ≤ 255) :
    Calls Try.prog 4 #[.slice a len cap, .slice a' len' cap'] w fun e w' => e = .returned (.bool true) ∧ Below w.heap.size w w' := by
  have HZ := Lib.hid hr
  have HZ' := Lib.hid hr'
  have HZB := Lib.hid hzb
  have HZB' := Lib.hid hzb'
  have hmin : min (len : Int) 20 = (n : Int) := by omega
  have hn20 : n ≤ 20 := by omega
  have hnl : n ≤ zs.length := by omega
  obtain ⟨T, hT⟩ : ∃ T : List Int, zs.map (fun z => z % 16) = T := ⟨_, rfl⟩
  have HT : Hid (∀ i, i < n → ∃ z, zs.getD i 0 = z ∧ 0 ≤ z ∧ z ≤ 255 ∧ z.tmod 16 = T.getD i 0 ∧ 0 ≤ T.getD i 0 ∧ T.getD i 0 < 16) := fun i hi => by
    have hi2 : i < zs.length := by omega
    have hz := hzb _ (List.getElem_mem hi2)
    have e1 : zs.getD i 0 = zs[i] := by simp [List.getD_eq_getElem?_getD, hi2]
    have e2 : T.getD i 0 = zs[i] % 16 := by rw [← hT]; simp [List.getD_eq_getElem?_getD, hi2]
    rw [e1, e2]
    exact ⟨_, rfl, hz.1, hz.2, tmod_pos _ _ hz.1, by omega, by omega⟩
  clear hT hr hr' hzb hzb'
  go_enter Try.func4, Try.ntmps4
  go_wp2_with fail
  refine (examples_yes _).mono ?_; rintro e w1 ⟨rfl, b1⟩
  have hB := Lib.hid b1
  have C := newL (B := w.heap.size) (l := []) (room := 20) (w := w1) b1.size (Cl.nil w1) (by omega) (by omega)
  clear b1
  go_wp2_with fail
  refine C.mono ?_; rintro e w2 ⟨g, rfl, h2, b2⟩
  replace hB := Lib.hid (hB.out.trans (b2.mono hB.out.size))
  have H2 := Lib.hid h2
  clear b2 h2 C
  go_wp2_with fail
  go_loopw [9] (fun iv wr => OnceJ w.heap.size g n T w iv wr) (fun i _ => n - (intOf i).toNat)
  case atStart => exact ⟨0, Nat.zero_le _, rfl, H2.out, hB.out⟩
  case round =>
    obtain ⟨i, hi, rfl, hL, hb⟩ := hrel
    clear H2 hB
    have hi0 : (0 : Int) ≤ i := by omega
    by_cases hlt : i < n
    · have hlt' : (i : Int) < n := by omega
      have hi6 : (i : Int) ≤ 20 := by omega
      have HI1 : Hid (i + 1 ≤ n) := hlt
      obtain ⟨z, hz, z0, z1, hzt, t0, t1⟩ := HT.out i hlt
      obtain ⟨e1, e2⟩ := pk_put (T := T) (room := 20) (i := i) (by omega)
      obtain ⟨bz, off, rfl, hbz, hcz⟩ := (HZ.out.below hb) (by omega)
      have cz := hcz i (by omega)
      rw [hz] at cz
      have hzw : bz < wr.heap.size := Nat.lt_of_lt_of_le hbz hb.size
      have hlen1 : (i : Int) < len := by omega
      have w8 : IntKind.u8.wrap (i : Int) = i := IntWalk.u8_in _ ⟨by omega, by omega⟩
      generalize T.getD i 0 = t at *
      have w64 : IntKind.u64.wrap t = t := IntWalk.u64_in _ ⟨by omega, by omega⟩
      have cv := conv_byte wr i (by omega)
      have PT := Lib.hid (fun o => (hL.keep (((Below.refl wr.heap.size wr).alloc (Nat.le_refl _) o).drew)).put 1 1 2 2 (bI i) t t0 (by omega) (by show (1 : Nat) ≤ _; omega) e1 e2)
      have HB := Lib.hid (fun o => hb.trans ((((Below.refl wr.heap.size wr).alloc (Nat.le_refl _) o).drew).mono hb.size))
      clear hL hb e1 e2 hcz hz
      go_upto_region 11 with fail
      go_cut [10] (fun e wx => e = .int .i64 0 ∧ L1 w.heap.size [] g 20 (pkI T (List.range (i + 1))) wx ∧ Below w.heap.size w wx)
      case first =>
        go_region_law (go_simp; go_at_call 21; refine (PT.out _).mono ?_; rintro e wx ⟨rfl, hx, bx⟩; have FIN := Lib.hid (And.intro hx ((HB.out _).trans bx)); clear hx bx)
        all_goals go_wp2
        all_goals go_meet
        all_goals exact ⟨rfl, FIN.out⟩
      case rest =>
        obtain ⟨rfl, hL2, hb2⟩ := hcut
        have HL2 := Lib.hid hL2
        have HB2 := Lib.hid hb2
        clear PT HB cv hL2 hb2 cz
        generalize wc = w4 at *
        go_wp2_with fail
        go_roundw
        case rel => exact ⟨i + 1, HI1.out, by go_num, HL2.out, HB2.out⟩
        case measure => simp [intOf]; omega
    · obtain rfl : i = n := by omega
      have mkb := run_make_row' (P := Try.prog) 66 4 (.bool false) 1 Try.underlying66 info_bool rfl .i64 .i64 i (by omega) (by omega)
      have hil : (i : Int) ≤ 20 := by omega
      have HB := Lib.hid (hb.alloc hb.size (.cells (madeCells #[.bool false] i) 4))
      have HL := Lib.hid (hL.add ((Below.refl wr.heap.size wr).alloc (Nat.le_refl _) (.cells (madeCells #[.bool false] i) 4)) (Nat.le_refl _) (cs_made wr (.bool false) i 4))
      have hlo := Lib.hid hb.size
      clear hL hb
      go_wp2_with fail
      generalize (wr.alloc (.cells (madeCells #[.bool false] i) 4)) = w3 at *
      generalize wr.heap.size = tb at *
      have S0 : Hid (OnS w.heap.size tb g i T ((0 : Nat) : Int) (List.range i) (List.replicate i false) w w3) :=
        ⟨by rw [List.map_replicate]; exact HL.out, hlo.out, HB.out, List.length_replicate, List.nodup_range, fun k hk => ⟨List.mem_range.1 hk, by rw [List.getElem?_replicate, if_pos (List.mem_range.1 hk)]⟩, fun k hk => by
          obtain ⟨z, _, _, _, _, t0, _⟩ := HT.out k (List.mem_range.1 hk)
          exact t0, by rw [List.length_range]; exact Nat.le_refl _⟩
      clear HL HB hlo mkb
      go_loopw [12, 13] (fun mv nv wr => OutJ9 w.heap.size tb g i T w mv nv wr) (fun _ nv _ => 16 - (intOf nv).toNat)
      case atStart => exact ⟨0, List.range i, List.replicate i false, by omega, rfl, by rw [List.length_range, Nat.sub_self]; rfl, S0.out⟩
      case round =>
        obtain ⟨now, I, bs, hnow, rfl, rfl, hS⟩ := hrel
        clear S0
        have HS := Lib.hid hS
        clear hS
        have hnow0 : (0 : Int) ≤ now := by omega
        by_cases hnlt : now < 16
        · have hnd : decide ((now : Int) < 16) = true := decide_eq_true (by omega)
          have HN := Lib.hid hnlt
          have HN1 : (now : Int) ≤ 15 := by omega
          go_wp2_with fail
          go_loopw [12, 14] (fun mv kv wx => InJ9 w.heap.size tb g i T now w mv kv wx) (fun mv _ _ => i - (intOf mv).toNat)
          case atStart => exact ⟨0, I, bs, Nat.zero_le _, rfl, rfl, HS.out⟩
          case round =>
            obtain ⟨k, I2, bs2, hk, rfl, rfl, hS⟩ := hrel
            clear HS
            obtain ⟨r, hr⟩ : ∃ r : Nat, readyP now (pkI T I2) = r := ⟨_, rfl⟩
            have hil2 := hS.il
            have RD := hS.l1.ready now (n := r) (by rw [hr])
            have HS := Lib.hid hS
            clear hS
            by_cases hr0 : r = 0
            · have hrd : decide (0 < (r : Int)) = false := decide_eq_false (by omega)
              have hrd2 : decide (0 < r) = false := decide_eq_false (by omega)
              have hrd3 : ¬ 0 < r := by omega
              have HR := Lib.hid hr
              have HR0 := Lib.hid hr0
              clear hr hr0
              go_wp2_with fail
              (with_reducible refine RD.mono ?_); rintro e w5 ⟨rfl, b5⟩
              have HS5 := Lib.hid (HS.out.keep b5)
              clear RD b5
              go_wp2_with fail
              go_roundw
              case rel => exact ⟨now + 1, I2, bs2, HN.out, by go_num, rfl, by have := HS5.out.next (by rw [HR.out]; exact HR0.out); exact this⟩
              case measure => simp [intOf]; have := HN.out; omega
            · have hrd : decide (0 < (r : Int)) = true := decide_eq_true (by omega)
              have hrd2 : decide (0 < r) = true := decide_eq_true (by omega)
              have hrd3 : 0 < r := by omega
              have HR0 : Hid (0 < readyP now (pkI T I2)) := by show 0 < _; omega
              clear hr hr0
              go_wp2_with fail
              (with_reducible refine RD.mono ?_); rintro e w5 ⟨rfl, b5⟩
              have HS5 := Lib.hid (HS.out.keep b5)
              clear RD b5 HS
              go_upto_if 70 with fail
              go_cut [15] (fun pv wx => ∃ p : Int, pv = .int .i64 p ∧ 0 ≤ p ∧ p ≤ 255 ∧ wx = w5)
              case first =>
                by_cases hl0 : len' = 0
                · have hld : decide (0 < (len' : Int)) = false := decide_eq_false (by omega)
                  have hld2 : decide (0 < len') = false := decide_eq_false (by omega)
                  have hld3 : ¬ 0 < len' := by omega
                  clear hl0
                  go_wp2_with fail
                  go_meet
                  exact ⟨0, rfl, by omega, by omega, rfl⟩
                · have hld : decide (0 < (len' : Int)) = true := decide_eq_true (by omega)
                  have hld2 : decide (0 < len') = true := decide_eq_true (by omega)
                  have hld3 : 0 < len' := by omega
                  have hlz : ((len' : Int) == 0) = false := by rw [beq_eq_false_iff_ne]; omega
                  have hlz2 : (len' == 0) = false := by rw [beq_eq_false_iff_ne]; exact hl0
                  obtain ⟨m, hm⟩ : ∃ m : Nat, ((k : Int) + ((i - I2.length : Nat) : Int)) % (len' : Int) = (m : Int) := ⟨(((k : Int) + ((i - I2.length : Nat) : Int)) % (len' : Int)).toNat, by have := Int.emod_nonneg ((k : Int) + ((i - I2.length : Nat) : Int)) (show (len' : Int) ≠ 0 by omega); omega⟩
                  have hmt : ((k : Int) + ((i - I2.length : Nat) : Int)).tmod (len' : Int) = (m : Int) := by rw [tmod_pos _ _ (by omega)]; exact hm
                  have hml : (m : Int) < len' := by rw [← hm]; exact Int.emod_lt_of_pos _ (by omega)
                  have hml2 : m < zs'.length := by omega
                  obtain ⟨bp, off, rfl, hbp, hcp⟩ := (HZ'.out.below HS5.out.bel) (by omega)
                  have cp := hcp m hml2
                  obtain ⟨p, hp⟩ : ∃ p, zs'.getD m 0 = p := ⟨_, rfl⟩
                  have hpb : 0 ≤ p ∧ p ≤ 255 := by
                    rw [← hp]
                    have e1 : zs'.getD m 0 = zs'[m] := by simp [List.getD_eq_getElem?_getD, hml2]
                    rw [e1]; exact HZB'.out _ (List.getElem_mem hml2)
                  rw [hp] at cp
                  have hbp2 : bp < w5.heap.size := Nat.lt_of_lt_of_le hbp HS5.out.bel.size
                  have hm0 : (0 : Int) ≤ m := by omega
                  obtain ⟨hp0, hp1⟩ := hpb
                  have wp := IntWalk.i64_in p ⟨by omega, by omega⟩
                  clear hcp hm hp
                  go_wp2_with fail
                  go_meet
                  exact ⟨p, rfl, hp0, hp1, rfl⟩
              case rest =>
                obtain ⟨p, rfl, hp0, hp1, rfl⟩ := hcut
                obtain ⟨j, hpj, x, hx, hxt⟩ := pick_some (now := now) hp0 HR0.out
                have hjI : j < I2.length := by have := (List.getElem?_eq_some_iff.1 hx).1; simpa [pkI] using this
                obtain ⟨q, hq⟩ : ∃ q, I2[j]? = some q := ⟨_, List.getElem?_eq_getElem hjI⟩
                have hxq : x = pkX q (T.getD q 0) := by
                  unfold pkI at hx
                  rw [List.getElem?_map, hq] at hx
                  exact (Option.some.inj hx).symm
                subst hxq
                obtain ⟨hqi, hqb⟩ := HS5.out.mem q (List.mem_of_getElem? hq)
                have hLX : takeX now p (pkI T I2) = ⟨1, 1, 2, 2, bI q, T.getD q 0⟩ := by unfold takeX; rw [hpj]; simp [hx, pkX]
                have hLL : takeL now p (pkI T I2) = pkI T (I2.eraseIdx j) := by unfold takeL; rw [hpj, ← pkI_erase]; rfl
                have T1 := HS5.out.l1.take now p (by omega) hLX (by rw [hpj]) hLL
                have HQ := Lib.hid hq
                have hil3 : (I2.eraseIdx j).length = I2.length - 1 := by rw [List.length_eraseIdx, if_pos hjI]
                have HIL := Lib.hid hil3
                have HJI := Lib.hid hjI
                have hxt2 : T.getD q 0 ≤ now := hxt
                have hbd : decide ((now : Int) < T.getD q 0) = false := decide_eq_false (by omega)
                generalize T.getD q 0 = t at *
                obtain ⟨s, hs⟩ : ∃ s : UInt8, UInt8.ofNat q = s := ⟨_, rfl⟩
                have hsq : s.toNat = q := by rw [← hs]; simp [UInt8.toNat_ofNat']; omega
                have hbI : bI q = ⟨#[s]⟩ := by unfold bI; rw [hs]
                rw [hbI] at T1
                have hqd : decide ((i : Int) ≤ (q : Int)) = false := decide_eq_false (by omega)
                have hq0 : (0 : Int) ≤ q := by omega
                have hqi' : (q : Int) < i := by omega
                have wq := IntWalk.i64_in (q : Int) ⟨by omega, by omega⟩
                clear hpj hx hxt hLX hLL hq hs hjI hil3
                go_wp2_with fail
                (with_reducible refine T1.mono ?_); rintro e w7 ⟨rfl, h7, b7⟩
                have b75 := HS5.out.bel.trans b7
                have FIN := Lib.hid ((HS5.out.took HQ.out h7 b75).keep ((Below.refl _ _).alloc (Nat.le_refl _) (.cells #[.int .u32 1, .int .u16 1, .int .u32 2, .int .u16 2, .string ⟨#[s]⟩, .int .u64 t] 37)))
                have tc := h7.hd.cell q (.bool false) (by rw [List.getElem?_map, hqb]; rfl)
                have tf := h7.hd.free q (.bool false) (by rw [List.getElem?_map, hqb]; rfl)
                have tl := h7.hd.lt
                have IX := index_byte s q hsq
                clear T1 h7 b7 b75 hqb hsq
                go_wp2_with fail
                go_roundw
                case rel => exact ⟨k + 1, I2.eraseIdx j, bs2.set q true, by have h1 := HIL.out; have h2 := HJI.out; omega, by go_num, by have h1 := HIL.out; have h2 := HJI.out; rw [h1]; go_num, FIN.out⟩
                case measure => have h2 := HJI.out; simp [intOf]; omega
        · obtain rfl : now = 16 := by omega
          have hI : I = [] := by
            cases I with
            | nil => rfl
            | cons q r =>
              have h1 := HS.out.late q (by simp)
              have h2 := HS.out.mem q (by simp)
              obtain ⟨z, _, _, _, _, _, t1⟩ := HT.out q h2.1
              omega
          subst hI
          have T1 := HS.out.l1.lenx (n := 0) rfl
          have HB := Lib.hid HS.out.bel
          clear HS
          go_wp2_with fail
          (with_reducible refine T1.mono ?_); rintro e w5 ⟨rfl, rfl⟩
          go_wp2_with fail
          go_ret
          exact ⟨rfl, HB.out⟩
theorem bagOnce_run (a : Option Addr) (len cap : Nat) (zs : List Int) (a' : Option Addr) (len' cap' : Nat) (zs' : List Int) (w : World) (wz : ArgRow .u8 w a len cap zs) (wz' : ArgRow .u8 w a' len' cap' zs') :
    Calls Try.prog 4 #[.slice a len cap, .slice a' len' cap'] w fun e w' => e = .returned (.bool true) ∧ Below w.heap.size w w' := by
  obtain ⟨h1, h2, h3, h4⟩ := wz.rd
  obtain ⟨k1, k2, k3, k4⟩ := wz'.rd
  exact bagOnce_walk a len cap (zs.take len) a' len' cap' (zs'.take len') _ rfl w h1 h2 h3 (fun z hz => bounds_u8 (h4 z hz)) k1 k2 k3 (fun z hz => bounds_u8 (k4 z hz))
theorem bagOnce_own : ownKnob Try.prog.godebug = none := by kernel_rfl
theorem bagOnce_laid : laidOutB Try.prog = true := by kernel_rfl
set_option maxRecDepth 100000 in
theorem bagOnce_lifted (os : Os) (started : os.Started) (H : Type) (enc : TypeId × Value → H) :
    ReturnsInHanded {} Try.checked os 4 .any (Rows.bagOnceSpec.pre6 enc Try.prog Try.f4 Rows.bagOnceRow.domain false) (Rows.bagOnceSpec.post enc Try.prog Try.f4 false true false false) := by
  refine returnsInHanded_of_change (C := Try.checked) bagOnce_own started (by kernel_rfl) Try.func4
    (ChangeSpec.witness6 (enc := enc) (C := Try.checked) false ⟨#[], #[.slice none 0 0, .slice none 0 0], []⟩ 8 (by kernel_rfl) (by kernel_rfl) (by kernel_rfl) (by kernel_rfl)) ?_
  intro W base args ds gs before hval0 hW hcnd _
  have hval : ∀ (j : Nat) t v, Try.f4.params[j]? = some t → args[j]? = some v → Value.okWide Try.prog W .any base t v := hval0
  have hW' := hW
  obtain ⟨p, q, hA0, hV, rfl, hfz, hnd⟩ := hW
  have hA : DataW.TrodAll enc Try.prog W 0 (fun _ => true) true Try.f4.params.toList args.toList ds p := hA0
  rw [Try.params4] at hA hval
  obtain ⟨v0, vs0, d0, ds0, p0, q0, hargs, rfl, rfl, h0, r0⟩ := trodAll_cons hA
  obtain ⟨v1, vs1, d1, ds1, p1, q1, rfl, rfl, rfl, h1, r1⟩ := trodAll_cons r0
  obtain ⟨rfl, rfl, rfl⟩ := trodAll_nil r1
  obtain rfl : args = #[v0, v1] := by cases args; simp_all
  obtain ⟨rfl, rfl⟩ := trodVars_none hV
  obtain ⟨a0, len0, cap0, rfl⟩ := okWide_slice Try.underlying65 (hval 0 65 v0 rfl rfl)
  have k0 := h0
  have lt0 : ∀ x ∈ p0, x.block < W.heap.size := by obtain ⟨m, hm⟩ := k0; exact DataW.trod_lt m _ _ _ hm
  obtain ⟨z0, w0⟩ : ∃ zs, ArgRow .u8 W a0 len0 cap0 zs := by
    obtain ⟨fuel, hf⟩ := h0
    rcases open_ints Try.underlying65 Try.underlying5 (by kernel_rfl) hf with ⟨hcs, _⟩ | ⟨x, l, c, zs, hcs, _, hl, hm, hz, _, hcell, hwz⟩
    · simp [Value.cells] at hcs
      obtain ⟨rfl, rfl, rfl⟩ := hcs
      exact ⟨[], .inl ⟨rfl, rfl, rfl, rfl⟩⟩
    · simp [Value.cells] at hcs
      obtain ⟨rfl, rfl, rfl⟩ := hcs
      exact ⟨zs, .inr ⟨_, rfl, hl, hm, by simpa using hz, hcell, hwz⟩⟩
  obtain ⟨a1, len1, cap1, rfl⟩ := okWide_slice Try.underlying65 (hval 1 65 v1 rfl rfl)
  have k1 := h1
  have lt1 : ∀ x ∈ p1, x.block < W.heap.size := by obtain ⟨m, hm⟩ := k1; exact DataW.trod_lt m _ _ _ hm
  obtain ⟨z1, w1⟩ : ∃ zs, ArgRow .u8 W a1 len1 cap1 zs := by
    obtain ⟨fuel, hf⟩ := h1
    rcases open_ints Try.underlying65 Try.underlying5 (by kernel_rfl) hf with ⟨hcs, _⟩ | ⟨x, l, c, zs, hcs, _, hl, hm, hz, _, hcell, hwz⟩
    · simp [Value.cells] at hcs
      obtain ⟨rfl, rfl, rfl⟩ := hcs
      exact ⟨[], .inl ⟨rfl, rfl, rfl, rfl⟩⟩
    · simp [Value.cells] at hcs
      obtain ⟨rfl, rfl, rfl⟩ := hcs
      exact ⟨zs, .inr ⟨_, rfl, hl, hm, by simpa using hz, hcell, hwz⟩⟩
  clear hA0 hval0
  refine (bagOnce_run a0 len0 cap0 z0 a1 len1 cap1 z1 W w0 w1).mono fun e W' ⟨he, bel⟩ => ?_
  subst he
  exact ⟨_, rfl, _, _, _, [], _, [], hW', trodAll_mk1 (shut_bool Try.underlying4 _), (trodAll_cons_mk (Below.trod bagOnce_laid (by kernel_rfl) (of_decide_eq_true (by kernel_rfl)) k0 bel lt0) (trodAll_cons_mk (Below.trod bagOnce_laid (by kernel_rfl) (of_decide_eq_true (by kernel_rfl)) k1 bel lt1) trodAll_mk0)), rfl, bel.frame _, fun h => by cases h⟩
theorem bagOnce_over : Rows.bagOnceRow.holds Try.pinned (OpenSpec.ofChange Rows.bagOnceSpec) :=
  OpenClaim.holds_of_wide 4 Try.f4 rfl rfl rfl rfl rfl rfl rfl ⟨rfl, rfl, rfl, rfl, rfl⟩ rfl rfl rfl rfl rfl (by kernel_rfl) Try.func4 (by kernel_rfl)
    (of_decide_eq_true (by kernel_rfl)) (by unfold Func.isWrapper; first | (rw [if_pos (by decide +kernel)]; kernel_rfl) | (rw [if_neg (by decide +kernel)]; exact ⟨rfl, rfl⟩))
    (fun os started H enc _ => bagOnce_lifted os started H enc)
theorem bagOnce_holds : Rows.BagOnceSaid := bagOnce_over
#print axioms bagOnce_holds
end Go.Proofs.Ytnaghagcaiolmaa
