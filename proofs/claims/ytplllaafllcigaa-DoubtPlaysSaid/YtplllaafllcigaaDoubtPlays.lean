/- DoubtPlays: who is suspected is told, deed by deed, as the chapter says: for every list of deeds. -/
import Derived.Test.YtplllaafllcigaaDbDeeds
import Derived.Test.YtplllaafllcigaaDbOne
import Derived.Deep.DeepCutAuto
import Derived.Deep.CutBlock
namespace Go.Proofs.Ytplllaafllcigaa
open Go.Sort Go.RowKit Go.BigFrame Go.ChangeShapes Go.WideShapes Go.Deep
set_option linter.unusedVariables false
set_option linter.unusedSimpArgs false

theorem St.setcD {w0 w : World} {b : Nat} {vs : List Value} (H1 H2 : List Hl) (s : St w0 (H1 ++ hC b vs :: H2) w) (i : Nat) (v : Value) (hi : i < vs.length) : St w0 (H1 ++ hC b (vs.set i v) :: H2) (w.setCell ⟨b, i, none⟩ v) :=
  s.aft (h' := hC b (vs.set i v)) (Touch.set (F := fun k => k = b) (Touch.refl _ _) (fun _ => rfl) _) ((s.cs (by simp)).set i v hi) (fun k hk => .inl hk)
theorem wrap_loD (n : Int) : 0 ≤ IntKind.u64.wrap n := by
  simp [IntKind.wrap, IntKind.signed]
  exact Int.emod_nonneg _ (by decide)
def PyJ (n : Nat) (w : World) (g gx : Nat) (iv : Value) (wr : World) : Prop := ∃ (i : Nat) (V : Nat → Sl) (u : Sl) (P : List (It × Sl)) (k : Nat → It), iv = .int .i64 (i : Nat) ∧ i ≤ n ∧ i ≤ 80 ∧ St w [hD g V k, hR gx u P k] wr
set_option maxHeartbeats 12800000 in
set_option maxRecDepth 100000 in
theorem plays_walk (a : Option Addr) (n cap : Nat) (w : World) (hdr : Hid (DeedRow w a n cap)) :
    Calls Try.prog 3 #[.slice a n cap] w fun e w' => e = .returned (.bool true) ∧ Below w.heap.size w w' := by
  have E := ex_any w
  go_enter Try.func3, Try.ntmps3
  go_wp2_with fail
  refine E.mono ?_; rintro e w1 ⟨rfl, b1⟩
  have K := new_l (St.start w w1 b1)
  clear E b1
  go_wp2_with fail
  refine K.mono ?_; rintro e w2 ⟨g, rfl, s2⟩
  have s3 := rnew_box s2
  have S0 : Hid (St w [hD g (fun _ => nilS) newD, hR w2.heap.size nilS [] newD] (w2.alloc (.cells #[.slice none 0 0] 29))) := by
    have h2 := s3.apart
    rw [List.pairwise_cons] at h2
    refine ⟨fun h hh => s3.all h (by simp only [List.mem_cons, List.not_mem_nil, or_false] at hh ⊢; exact hh.symm), ?_, s3.below⟩
    refine List.pairwise_cons.2 ⟨fun k hk b h3 h4 => ?_, List.pairwise_singleton _ _⟩
    have hk2 : k = hR w2.heap.size nilS [] newD := by simpa using hk
    subst hk2
    exact h2.1 _ (by simp) b h4 h3
  clear K s2 s3
  go_upto_region 6 with fail
  generalize w2.heap.size = gx at *
  generalize (w2.alloc (.cells #[.slice none 0 0] 29)) = w3 at *
  replace S0 : Hid (PyJ n w g gx (.int .i64 0) w3) := ⟨0, _, _, _, _, rfl, Nat.zero_le _, by omega, S0.out⟩
  go_wp2_with fail
  go_loopw [6] (fun iv wr => PyJ n w g gx iv wr) (fun iv _ => 81 - (intOf iv).toNat)
  case atStart => exact S0.out
  case round =>
    obtain ⟨i, V, u, P, k, rfl, hi, hi80, hs⟩ := hrel
    clear S0
    have HS := Lib.hid hs
    have hI0 : (0 : Int) ≤ i := by omega
    clear hs
    by_cases h1 : i < n
    · have h1' : (i : Int) < n := by omega
      have h1d : decide ((i : Int) < n) = true := decide_eq_true h1'
      by_cases h2 : i < 80
      · have h2' : (i : Int) < 80 := by omega
        have h2d : decide ((i : Int) < 80) = true := decide_eq_true h2'
        have hi1 : Hid (i + 1 ≤ n) := h1
        have hi2 : Hid (i + 1 ≤ 80) := h2
        obtain ⟨ba, oa, rfl, hbl, hcc⟩ := hdr.out.at_ (by omega)
        obtain ⟨d, hfit, hc⟩ := hcc i h1
        have hbw := HS.out.below
        have q0 := bounds_u8 hfit.k
        have q2 := bounds_u32 hfit.inc
        have q4 := bounds_u64 hfit.now
        have q5 := bounds_u64 hfit.hold
        have c0 := (hbw.cell (p := ⟨ba, oa + i * 7 + 0, none⟩) hbl).trans (hc 0 _ rfl)
        have c1 := (hbw.cell (p := ⟨ba, oa + i * 7 + 1, none⟩) hbl).trans (hc 1 _ rfl)
        have c2 := (hbw.cell (p := ⟨ba, oa + i * 7 + 2, none⟩) hbl).trans (hc 2 _ rfl)
        have c3 := (hbw.cell (p := ⟨ba, oa + i * 7 + 3, none⟩) hbl).trans (hc 3 _ rfl)
        have c4 := (hbw.cell (p := ⟨ba, oa + i * 7 + 4, none⟩) hbl).trans (hc 4 _ rfl)
        have c5 := (hbw.cell (p := ⟨ba, oa + i * 7 + 5, none⟩) hbl).trans (hc 5 _ rfl)
        have c6 := (hbw.cell (p := ⟨ba, oa + i * 7 + 6, none⟩) hbl).trans (hc 6 _ rfl)
        simp only [Nat.add_zero] at c0
        clear hcc hc hfit hbw h1 h2 hbl
        have SD : Hid (St w [hC wr.heap.size (cd d), hD g V k, hR gx u P k] (wr.alloc (.cells #[.int .u8 d.k, .int .i64 d.id, .int .u32 d.inc, .int .i64 d.who, .int .u64 d.now, .int .u64 d.hold, .bool d.near] 33))) := HS.out.box (cd d) 33
        go_upto_region 12 with fail
        generalize (wr.alloc (.cells #[.int .u8 d.k, .int .i64 d.id, .int .u32 d.inc, .int .i64 d.who, .int .u64 d.now, .int .u64 d.hold, .bool d.near] 33)) = w4 at *
        generalize wr.heap.size = db at *
        clear c0 c1 c2 c3 c4 c5 c6 HS
        have x0 := (SD.out.cs (b := db) (vs := cd d) (by simp)).cell 0 _ rfl
        have x1 := (SD.out.cs (b := db) (vs := cd d) (by simp)).cell 1 _ rfl
        have x2 := (SD.out.cs (b := db) (vs := cd d) (by simp)).cell 2 _ rfl
        have x3 := (SD.out.cs (b := db) (vs := cd d) (by simp)).cell 3 _ rfl
        have x4 := (SD.out.cs (b := db) (vs := cd d) (by simp)).cell 4 _ rfl
        have x5 := (SD.out.cs (b := db) (vs := cd d) (by simp)).cell 5 _ rfl
        have x6 := (SD.out.cs (b := db) (vs := cd d) (by simp)).cell 6 _ rfl
        go_upto_if 37 with fail
        go_cut [] (fun wx => ∃ d' : Deed, (0 ≤ d'.k ∧ d'.k < 256) ∧ 0 ≤ d'.now ∧ 0 ≤ d'.hold ∧ St w [hC db (cd d'), hD g V k, hR gx u P k] wx)
        case first =>
          obtain ⟨dk, did, dinc, dwho, dnow, dhold, dnear⟩ := d
          simp only at *
          cases dnear
          · clear x0 x1 x2 x3 x4 x5 x6
            go_wp2_with fail
            go_meet
            exact ⟨⟨dk, did, dinc, dwho, dnow, dhold, false⟩, by show 0 ≤ dk ∧ dk < 256; omega, by show 0 ≤ dnow; omega, by show 0 ≤ dhold; omega, SD.out⟩
          · have hu1 := wrap_loD did
            have hu3 := wrap_loD dwho
            obtain ⟨m1, hm1⟩ : ∃ m, IntKind.u64.wrap did % 5 = m := ⟨_, rfl⟩
            obtain ⟨m2, hm2⟩ : ∃ m, dinc % 4 = m := ⟨_, rfl⟩
            obtain ⟨m3, hm3⟩ : ∃ m, IntKind.u64.wrap dwho % 6 = m := ⟨_, rfl⟩
            obtain ⟨m4, hm4⟩ : ∃ m, dnow % 60 = m := ⟨_, rfl⟩
            obtain ⟨m5, hm5⟩ : ∃ m, dhold % 30 = m := ⟨_, rfl⟩
            have n1 : (IntKind.u64.wrap did).tmod 5 = m1 := by rw [tmod_pos _ _ hu1]; exact hm1
            have n2 : dinc.tmod 4 = m2 := by rw [tmod_pos _ _ q2.1]; exact hm2
            have n3 : (IntKind.u64.wrap dwho).tmod 6 = m3 := by rw [tmod_pos _ _ hu3]; exact hm3
            have n4 : dnow.tmod 60 = m4 := by rw [tmod_pos _ _ q4.1]; exact hm4
            have n5 : dhold.tmod 30 = m5 := by rw [tmod_pos _ _ q5.1]; exact hm5
            have r1 : 0 ≤ m1 ∧ m1 < 5 := by omega
            have r2 : 0 ≤ m2 ∧ m2 < 4 := by omega
            have r3 : 0 ≤ m3 ∧ m3 < 6 := by omega
            have r4 : 0 ≤ m4 ∧ m4 < 60 := by omega
            have r5 : 0 ≤ m5 ∧ m5 < 30 := by omega
            have t1 := IntWalk.i64_in m1 ⟨by omega, by omega⟩
            have t1' := IntWalk.u64_in m1 ⟨by omega, by omega⟩
            have t2 := IntWalk.u32_in m2 ⟨by omega, by omega⟩
            have t3 := IntWalk.i64_in m3 ⟨by omega, by omega⟩
            have t3' := IntWalk.u64_in m3 ⟨by omega, by omega⟩
            have t4 := IntWalk.u64_in m4 ⟨by omega, by omega⟩
            have t5 := IntWalk.u64_in m5 ⟨by omega, by omega⟩
            have SF : Hid (St w [hC db (cd ⟨dk, m1, m2, m3, m4, m5, true⟩), hD g V k, hR gx u P k] (((((w4.setCell ⟨db, 1, none⟩ (.int .i64 m1)).setCell ⟨db, 2, none⟩ (.int .u32 m2)).setCell ⟨db, 3, none⟩ (.int .i64 m3)).setCell ⟨db, 4, none⟩ (.int .u64 m4)).setCell ⟨db, 5, none⟩ (.int .u64 m5))) :=
              St.setcD [] _ (St.setcD [] _ (St.setcD [] _ (St.setcD [] _ (St.setcD [] _ SD.out 1 (.int .i64 m1) (by simp [cd])) 2 (.int .u32 m2) (by simp [cd])) 3 (.int .i64 m3) (by simp [cd])) 4 (.int .u64 m4) (by simp [cd])) 5 (.int .u64 m5) (by simp [cd])
            clear hm1 hm2 hm3 hm4 hm5
            have f1 := (SD.out.cs (b := db) (vs := cd ⟨dk, did, dinc, dwho, dnow, dhold, true⟩) (by simp)).free 1 _ rfl
            have f2 := (SD.out.cs (b := db) (vs := cd ⟨dk, did, dinc, dwho, dnow, dhold, true⟩) (by simp)).free 2 _ rfl
            have f3 := (SD.out.cs (b := db) (vs := cd ⟨dk, did, dinc, dwho, dnow, dhold, true⟩) (by simp)).free 3 _ rfl
            have f4 := (SD.out.cs (b := db) (vs := cd ⟨dk, did, dinc, dwho, dnow, dhold, true⟩) (by simp)).free 4 _ rfl
            have f5 := (SD.out.cs (b := db) (vs := cd ⟨dk, did, dinc, dwho, dnow, dhold, true⟩) (by simp)).free 5 _ rfl
            have hdl := (SD.out.cs (b := db) (vs := cd ⟨dk, did, dinc, dwho, dnow, dhold, true⟩) (by simp)).lt
            go_wp2_with fail
            go_meet
            exact ⟨⟨dk, m1, m2, m3, m4, m5, true⟩, by show 0 ≤ dk ∧ dk < 256; omega, by show 0 ≤ m4; omega, by show 0 ≤ m5; omega, SF.out⟩
        case rest =>
          obtain ⟨d2, hk8, hn0, hh0, hs⟩ := hcut
          generalize wc = w5 at *
          clear SD x0 x1 x2 x3 x4 x5 x6 q0 q2 q4 q5
          clear d
          have SD := Lib.hid hs
          clear hs
          obtain ⟨dk, did, dinc, dwho, dnow, dhold, dnear⟩ := d2
          simp only at hk8 hn0 hh0
          have x0 := (SD.out.cs (b := db) (vs := cd ⟨dk, did, dinc, dwho, dnow, dhold, dnear⟩) (by simp)).cell 0 _ rfl
          have x1 := (SD.out.cs (b := db) (vs := cd ⟨dk, did, dinc, dwho, dnow, dhold, dnear⟩) (by simp)).cell 1 _ rfl
          have x2 := (SD.out.cs (b := db) (vs := cd ⟨dk, did, dinc, dwho, dnow, dhold, dnear⟩) (by simp)).cell 2 _ rfl
          have x3 := (SD.out.cs (b := db) (vs := cd ⟨dk, did, dinc, dwho, dnow, dhold, dnear⟩) (by simp)).cell 3 _ rfl
          have x4 := (SD.out.cs (b := db) (vs := cd ⟨dk, did, dinc, dwho, dnow, dhold, dnear⟩) (by simp)).cell 4 _ rfl
          have x5 := (SD.out.cs (b := db) (vs := cd ⟨dk, did, dinc, dwho, dnow, dhold, dnear⟩) (by simp)).cell 5 _ rfl
          have x6 := (SD.out.cs (b := db) (vs := cd ⟨dk, did, dinc, dwho, dnow, dhold, dnear⟩) (by simp)).cell 6 _ rfl
          obtain ⟨q, hq⟩ : ∃ q, dk % 8 = q := ⟨_, rfl⟩
          have hq2 : dk.tmod 8 = q := by rw [tmod_pos _ _ hk8.1]; exact hq
          have hq0 : 0 ≤ q ∧ q < 8 := by omega
          have hqw := IntWalk.u8_in q ⟨by omega, by omega⟩
          have mkS : Hid (∀ H w', hC db (cd ⟨dk, did, dinc, dwho, dnow, dhold, dnear⟩) ∈ H → St w H w' → w'.cell? ⟨db, 1, none⟩ = some (.int .i64 did) ∧ w'.cell? ⟨db, 2, none⟩ = some (.int .u32 dinc) ∧ w'.cell? ⟨db, 3, none⟩ = some (.int .i64 dwho) ∧ w'.cell? ⟨db, 4, none⟩ = some (.int .u64 dnow) ∧ w'.cell? ⟨db, 5, none⟩ = some (.int .u64 dhold)) := fun H w' hm st =>
            ⟨(st.cs hm).cell 1 _ rfl, (st.cs hm).cell 2 _ rfl, (st.cs hm).cell 3 _ rfl, (st.cs hm).cell 4 _ rfl, (st.cs hm).cell 5 _ rfl⟩
          clear hq hk8
          go_upto_region 19 with fail
          go_step
          go_upto_block 2 with fail
          go_cut [8] (fun c wx => c = .bool true ∧ ∃ V' u' P' k', St w [hC db (cd ⟨dk, did, dinc, dwho, dnow, dhold, dnear⟩), hD g V' k', hR gx u' P' k'] wx)
          case first => 
            have hcase : (q = 3 ∨ q = 4 ∨ q = 5) ∨ q = 6 ∨ q = 7 ∨ (q = 0 ∨ q = 1 ∨ q = 2) := by omega
            clear hq0 hqw hq2
            rcases hcase with hc | rfl | rfl | hc
            · obtain ⟨e, he⟩ : ∃ e, confE k did dinc dwho = e := ⟨_, rfl⟩
              obtain ⟨k', hk'⟩ : ∃ k', confD k did dinc dwho = k' := ⟨_, rfl⟩
              have KD : Hid (∀ (H1 H2 : List Hl) wz, St w (H1 ++ hD g V k :: H2) wz → Calls Try.prog 11 #[.pointer (some ⟨g, 0, none⟩), .int .i64 did, .int .u32 dinc, .int .i64 dwho] wz fun x w' => x = .returned (.int .i64 e) ∧ ∃ V', St w (H1 ++ hD g V' k' :: H2) w') := fun H1 H2 wz s => conf_l did dinc dwho he hk' H1 H2 s
              have KR : Hid (∀ (H1 H2 : List Hl) wz, St w (H1 ++ hR gx u P k :: H2) wz → Calls Try.prog 12 #[.pointer (some ⟨gx, 0, none⟩), .int .i64 did, .int .u32 dinc, .int .i64 dwho] wz fun x w' => x = .returned (.int .i64 e) ∧ ∃ u' P', St w (H1 ++ hR gx u' P' k' :: H2) w') := fun H1 H2 wz s => rconf_l did dinc dwho he hk' H1 H2 s
              clear he hk'
              have SA := Lib.hid SD.out.drew
              clear SD x0 x1 x2 x3 x4 x5 x6 hn0 hh0
              rcases hc with rfl | rfl | rfl
              all_goals go_upto_region 24 with fail
              all_goals go_region_held (fun w' => w'.cell? ⟨db, 1, none⟩ = some (.int .i64 did) ∧ w'.cell? ⟨db, 2, none⟩ = some (.int .u32 dinc) ∧ w'.cell? ⟨db, 3, none⟩ = some (.int .i64 dwho) ∧ w'.cell? ⟨db, 4, none⟩ = some (.int .u64 dnow) ∧ w'.cell? ⟨db, 5, none⟩ = some (.int .u64 dhold)) (exact mkS.out _ _ (by simp) SA.out) (first | (go_at_call 11; refine (KD.out [_] _ _ SA.out).mono ?_; rintro e wA ⟨rfl, V', sA⟩; have SA := Lib.hid sA; clear sA) | (go_at_call 12; refine (KR.out [_, _] _ _ SA.out).mono ?_; rintro e wA ⟨rfl, u', P', sA⟩; have SA := Lib.hid sA; clear sA) | fail)
              all_goals go_wp2_with fail
              all_goals go_meet
              all_goals exact ⟨by simp, _, _, _, _, SA.out⟩
            · obtain ⟨e, he⟩ : ∃ e, clearB k did dinc = e := ⟨_, rfl⟩
              obtain ⟨k', hk'⟩ : ∃ k', clearD k did dinc = k' := ⟨_, rfl⟩
              have KD : Hid (∀ (H1 H2 : List Hl) wz, St w (H1 ++ hD g V k :: H2) wz → Calls Try.prog 13 #[.pointer (some ⟨g, 0, none⟩), .int .i64 did, .int .u32 dinc] wz fun x w' => x = .returned (.bool e) ∧ ∃ V', St w (H1 ++ hD g V' k' :: H2) w') := fun H1 H2 wz s => clear_l did dinc he hk' H1 H2 s
              have KR : Hid (∀ (H1 H2 : List Hl) wz, St w (H1 ++ hR gx u P k :: H2) wz → Calls Try.prog 14 #[.pointer (some ⟨gx, 0, none⟩), .int .i64 did, .int .u32 dinc] wz fun x w' => x = .returned (.bool e) ∧ ∃ u' P', St w (H1 ++ hR gx u' P' k' :: H2) w') := fun H1 H2 wz s => rclear_l did dinc he hk' H1 H2 s
              clear he hk'
              have SA := Lib.hid SD.out.drew
              clear SD x0 x1 x2 x3 x4 x5 x6 hn0 hh0
              go_upto_region 26 with fail
              go_region_held (fun w' => w'.cell? ⟨db, 1, none⟩ = some (.int .i64 did) ∧ w'.cell? ⟨db, 2, none⟩ = some (.int .u32 dinc) ∧ w'.cell? ⟨db, 3, none⟩ = some (.int .i64 dwho) ∧ w'.cell? ⟨db, 4, none⟩ = some (.int .u64 dnow) ∧ w'.cell? ⟨db, 5, none⟩ = some (.int .u64 dhold)) (exact mkS.out _ _ (by simp) SA.out) (first | (go_at_call 13; refine (KD.out [_] _ _ SA.out).mono ?_; rintro e wA ⟨rfl, V', sA⟩; have SA := Lib.hid sA; clear sA) | (go_at_call 14; refine (KR.out [_, _] _ _ SA.out).mono ?_; rintro e wA ⟨rfl, u', P', sA⟩; have SA := Lib.hid sA; clear sA) | fail)
              all_goals go_wp2_with fail
              all_goals go_meet
              all_goals exact ⟨by simp, _, _, _, _, SA.out⟩
            · obtain ⟨L, hL⟩ : ∃ L, dueL k dnow = L := ⟨_, rfl⟩
              obtain ⟨k', hk'⟩ : ∃ k', restD k dnow = k' := ⟨_, rfl⟩
              have hLs : Hid (L.length ≤ 33 ∧ ∀ x ∈ L, x.who.length ≤ 32) := by
                have h8 : Ds g V k w5 := SD.out.get (h := hD g V k) (by simp)
                have h9 := due_ok h8.ok dnow
                rw [hL] at h9
                exact h9
              have KD : Hid (∀ (H1 H2 : List Hl) wz, St w (H1 ++ hD g V k :: H2) wz → Calls Try.prog 16 #[.pointer (some ⟨g, 0, none⟩), .int .u64 dnow] wz fun x w' => ∃ (u : Sl) (P : List (It × Sl)) (V' : Nat → Sl), x = .returned (.slice u.a L.length u.c) ∧ P.map Prod.fst = L ∧ St w (hI 53 u P :: (H1 ++ hD g V' k' :: H2)) w') := fun H1 H2 wz s => due_l dnow hL hk' H1 H2 s
              have KR : Hid (∀ (H1 H2 : List Hl) wz, St w (H1 ++ hR gx u P k :: H2) wz → Calls Try.prog 17 #[.pointer (some ⟨gx, 0, none⟩), .int .u64 dnow] wz fun x w' => ∃ (uo ur : Sl) (Po Pr : List (It × Sl)), x = .returned (.slice uo.a L.length uo.c) ∧ Po.map Prod.fst = L ∧ St w (hI 68 uo Po :: (H1 ++ hR gx ur Pr k' :: H2)) w') := fun H1 H2 wz s => rdue_l dnow hL hk' H1 H2 s
              clear hL hk'
              have SA := Lib.hid SD.out.drew
              clear SD x0 x1 x2 x3 x4 x5 x6 hn0 hh0
              go_upto_region 28 with fail
              go_region_held (fun w' => w'.cell? ⟨db, 1, none⟩ = some (.int .i64 did) ∧ w'.cell? ⟨db, 2, none⟩ = some (.int .u32 dinc) ∧ w'.cell? ⟨db, 3, none⟩ = some (.int .i64 dwho) ∧ w'.cell? ⟨db, 4, none⟩ = some (.int .u64 dnow) ∧ w'.cell? ⟨db, 5, none⟩ = some (.int .u64 dhold)) (exact mkS.out _ _ (by simp) SA.out) (first | (go_at_call 16; (first | (refine (KD.out [_] _ _ SA.out).mono ?_) | (refine (KD.out [_, _] _ _ SA.out).mono ?_)); rintro e wA ⟨uA, PA, V', rfl, hPA, sA⟩; have SA := Lib.hid sA; clear sA) | (go_at_call 17; (first | (refine (KR.out [_, _, _] _ _ SA.out).mono ?_) | (refine (KR.out [_, _] _ _ SA.out).mono ?_)); rintro e wA ⟨uB, uR, PB, PR, rfl, hPB, sA⟩; have SA := Lib.hid sA; clear sA) | (go_at_call 15; refine (same_l hLs.out hPA hPB SA.out (by simp) (by simp)).mono ?_; rintro e wA ⟨rfl, bA⟩; have SA := Lib.hid (SA.out.keep bA); clear bA) | fail)
              all_goals go_wp2_with fail
              all_goals go_meet
              all_goals exact ⟨by simp, _, _, _, _, SA.out.sub (by simp only [List.cons_append, List.nil_append]; repeat (first | exact List.Sublist.refl _ | apply List.Sublist.cons))⟩
            · obtain ⟨e, he⟩ : ∃ e, beginE k did dinc dnow dhold = e := ⟨_, rfl⟩
              obtain ⟨k', hk'⟩ : ∃ k', beginD k did dinc dnow dhold = k' := ⟨_, rfl⟩
              have KD : Hid (∀ (H1 H2 : List Hl) wz, St w (H1 ++ hD g V k :: H2) wz → Calls Try.prog 18 #[.pointer (some ⟨g, 0, none⟩), .int .i64 did, .int .u32 dinc, .int .u64 dnow, .int .u64 dhold] wz fun x w' => x = .returned (.int .i64 e) ∧ ∃ V', St w (H1 ++ hD g V' k' :: H2) w') := fun H1 H2 wz s => begin_l did dinc dnow dhold hn0 hh0 he hk' H1 H2 s
              have KR : Hid (∀ (H1 H2 : List Hl) wz, St w (H1 ++ hR gx u P k :: H2) wz → Calls Try.prog 19 #[.pointer (some ⟨gx, 0, none⟩), .int .i64 did, .int .u32 dinc, .int .u64 dnow, .int .u64 dhold] wz fun x w' => x = .returned (.int .i64 e) ∧ ∃ u' P', St w (H1 ++ hR gx u' P' k' :: H2) w') := fun H1 H2 wz s => rbegin_l did dinc dnow dhold hn0 hh0 he hk' H1 H2 s
              clear he hk'
              have SA := Lib.hid SD.out.drew
              clear SD x0 x1 x2 x3 x4 x5 x6 hn0 hh0
              rcases hc with rfl | rfl | rfl
              all_goals go_upto_region 20 with fail
              all_goals go_region_held (fun w' => w'.cell? ⟨db, 1, none⟩ = some (.int .i64 did) ∧ w'.cell? ⟨db, 2, none⟩ = some (.int .u32 dinc) ∧ w'.cell? ⟨db, 3, none⟩ = some (.int .i64 dwho) ∧ w'.cell? ⟨db, 4, none⟩ = some (.int .u64 dnow) ∧ w'.cell? ⟨db, 5, none⟩ = some (.int .u64 dhold)) (exact mkS.out _ _ (by simp) SA.out) (first | (go_at_call 18; refine (KD.out [_] _ _ SA.out).mono ?_; rintro e wA ⟨rfl, V', sA⟩; have SA := Lib.hid sA; clear sA) | (go_at_call 19; refine (KR.out [_, _] _ _ SA.out).mono ?_; rintro e wA ⟨rfl, u', P', sA⟩; have SA := Lib.hid sA; clear sA) | fail)
              all_goals go_wp2_with fail
              all_goals go_meet
              all_goals exact ⟨by simp, _, _, _, _, SA.out⟩
          case rest => 
            obtain ⟨rfl, V1, u1, P1, k1, hs⟩ := hcut
            clear SD x0 x1 x2 x3 x4 x5 x6 hq0 hqw hq2 hn0 hh0
            generalize wc = w6 at *
            clear mkS
            obtain ⟨U, hU⟩ : ∃ U, untilV k1 did = U := ⟨_, rfl⟩
            obtain ⟨ub, hub⟩ : ∃ b, suspI k1 did = b := ⟨_, rfl⟩
            have x1 := (hs.cs (b := db) (vs := cd ⟨dk, did, dinc, dwho, dnow, dhold, dnear⟩) (by simp)).cell 1 _ rfl
            have K := until_l (g := g) (V := V1) did hU hub hs (by simp)
            clear hs
            go_wp2_with fail
            refine K.mono ?_; rintro e w7 ⟨rfl, s7⟩
            clear K x1
            have x1 := (s7.cs (b := db) (vs := cd ⟨dk, did, dinc, dwho, dnow, dhold, dnear⟩) (by simp)).cell 1 _ rfl
            have K := runtil_l (g := gx) (u := u1) (P := P1) did hU hub s7 (by simp)
            clear s7 hU hub
            go_wp2_with fail
            refine K.mono ?_; rintro e w8 ⟨rfl, s8⟩
            clear K x1
            have S8 : Hid (St w [hD g V1 k1, hR gx u1 P1 k1] w8) := s8.drop
            clear s8
            go_upto_region 31 with fail
            go_cut [13] (fun c wx => c = .bool true ∧ St w [hD g V1 k1, hR gx u1 P1 k1] wx)
            case first =>
              have hLs : Hid ((allL k1).length ≤ 33 ∧ ∀ x ∈ allL k1, x.who.length ≤ 32) := by
                have h8 : Ds g V1 k1 w8 := S8.out.get (h := hD g V1 k1) (by simp)
                exact ok_len h8.ok
              have mkS : Hid (∀ H w', hR gx u1 P1 k1 ∈ H → St w H w' → w'.cell? ⟨gx, 0, none⟩ = some (.slice u1.a u1.n u1.c) ∧ True) := fun H w' hm st => ⟨by
                have h8 : Rs gx u1 P1 k1 w' := st.get hm
                exact h8.box.cell 0 _ rfl, trivial⟩
              have KI : Hid (∀ wz, St w [hD g V1 k1, hR gx u1 P1 k1] wz → Calls Try.prog 22 #[.pointer (some ⟨g, 0, none⟩)] wz fun x w' => ∃ (u : Sl) (P : List (It × Sl)), x = .returned (.slice u.a (allL k1).length u.c) ∧ P.map Prod.fst = allL k1 ∧ St w [hI 53 u P, hD g V1 k1, hR gx u1 P1 k1] w') := fun wz s => items_l (g := g) (V := V1) rfl s (by simp)
              have SA := Lib.hid S8.out.drew
              clear S8
              go_region_held (fun w' => w'.cell? ⟨gx, 0, none⟩ = some (.slice u1.a u1.n u1.c) ∧ True) (exact mkS.out _ _ (by simp) SA.out) (first
                | (go_at_call 22; refine (KI.out _ SA.out).mono ?_; rintro e wA ⟨uA, PA, rfl, hPA, sA⟩; have SA := Lib.hid sA; clear sA)
                | (go_at_call 15; refine (same_r (g := gx) (u := u1) (P := P1) hLs.out hPA SA.out (by simp) (by simp)).mono ?_; rintro e wA ⟨rfl, bA⟩; have SA := Lib.hid (SA.out.keep bA); clear bA)
                | fail)
              all_goals go_wp2_with fail
              all_goals go_meet
              all_goals exact ⟨rfl, SA.out.sub (by simp)⟩
            case rest =>
              obtain ⟨rfl, hs⟩ := hcut
              clear S8
              generalize wc = w9 at *
              have HS2 := Lib.hid hs
              clear hs
              go_wp2_with fail
              go_roundw
              case rel => exact ⟨i + 1, V1, u1, P1, k1, by go_num, hi1.out, hi2.out, HS2.out⟩
              case measure => simp [intOf]; omega
      · obtain rfl : i = 80 := by omega
        have h2d : decide (((80 : Nat) : Int) < 80) = false := rfl
        have HB := Lib.hid HS.out.below
        clear HS
        go_wp2
        go_ret
        exact ⟨rfl, HB.out⟩
    · obtain rfl : i = n := by omega
      have h1d : decide ((i : Int) < i) = false := decide_eq_false (by omega)
      have HB := Lib.hid HS.out.below
      clear HS
      go_wp2
      go_ret
      exact ⟨rfl, HB.out⟩
theorem plays_run (a : Option Addr) (len cap : Nat) (w : World) (wz : DeedRow w a len cap) :
    Calls Try.prog 3 #[.slice a len cap] w fun e w' => e = .returned (.bool true) ∧ Below w.heap.size w w' :=
  plays_walk a len cap w wz
theorem doubtPlays_own : ownKnob Try.prog.godebug = none := by kernel_rfl
theorem doubtPlays_laid : laidOutB Try.prog = true := by kernel_rfl
set_option maxRecDepth 100000 in
theorem doubtPlays_lifted (os : Os) (started : os.Started) (H : Type) (enc : TypeId × Value → H) :
    ReturnsInHanded {} Try.checked os 3 .any (Rows.doubtPlaysSpec.pre6 enc Try.prog Try.f3 Rows.doubtPlaysRow.domain false) (Rows.doubtPlaysSpec.post enc Try.prog Try.f3 false true false false) := by
  refine returnsInHanded_of_change (C := Try.checked) doubtPlays_own started (by kernel_rfl) Try.func3
    (ChangeSpec.witness6 (enc := enc) (C := Try.checked) false ⟨#[], #[.slice none 0 0], []⟩ 8 (by kernel_rfl) (by kernel_rfl) (by kernel_rfl) (by kernel_rfl)) ?_
  intro W base args ds gs before hval0 hW hcnd _
  have hval : ∀ (j : Nat) t v, Try.f3.params[j]? = some t → args[j]? = some v → Value.okWide Try.prog W .any base t v := hval0
  have hW' := hW
  obtain ⟨p, q, hA0, hV, rfl, hfz, hnd⟩ := hW
  have hA : DataW.TrodAll enc Try.prog W 0 (fun _ => true) true Try.f3.params.toList args.toList ds p := hA0
  rw [Try.params3] at hA hval
  obtain ⟨v0, vs0, d0, ds0, p0, q0, hargs, rfl, rfl, h0, r0⟩ := trodAll_cons hA
  obtain ⟨rfl, rfl, rfl⟩ := trodAll_nil r0
  obtain rfl : args = #[v0] := by cases args; simp_all
  obtain ⟨rfl, rfl⟩ := trodVars_none hV
  obtain ⟨a0, len0, cap0, rfl⟩ := okWide_slice Try.underlying22 (hval 0 22 v0 rfl rfl)
  have k0 := h0
  have lt0 : ∀ x ∈ p0, x.block < W.heap.size := by obtain ⟨m, hm⟩ := k0; exact DataW.trod_lt m _ _ _ hm
  have w0 : DeedRow W a0 len0 cap0 := by
    obtain ⟨fuel, hf⟩ := h0
    exact deeds_open hf
  clear hA0 hval0
  refine (plays_run a0 len0 cap0 W w0).mono fun e W' ⟨he, bel⟩ => ?_
  subst he
  exact ⟨_, rfl, _, _, _, [], _, [], hW', trodAll_mk1 (shut_bool Try.underlying4 _), (trodAll_cons_mk (Below.trod doubtPlays_laid (by kernel_rfl) (of_decide_eq_true (by kernel_rfl)) k0 bel lt0) trodAll_mk0), rfl, bel.frame _, fun h => by cases h⟩
theorem doubtPlays_over : Rows.doubtPlaysRow.holds Try.pinned (OpenSpec.ofChange Rows.doubtPlaysSpec) :=
  OpenClaim.holds_of_wide 3 Try.f3 rfl rfl rfl rfl rfl rfl rfl ⟨rfl, rfl, rfl, rfl, rfl⟩ rfl rfl rfl rfl rfl (by kernel_rfl) Try.func3 (by kernel_rfl)
    (of_decide_eq_true (by kernel_rfl)) (by unfold Func.isWrapper; first | (rw [if_pos (by decide +kernel)]; kernel_rfl) | (rw [if_neg (by decide +kernel)]; exact ⟨rfl, rfl⟩))
    (fun os started H enc _ => doubtPlays_lifted os started H enc)
theorem doubtPlays_holds : Rows.DoubtPlaysSaid := doubtPlays_over
#print axioms doubtPlays_holds
end Go.Proofs.Ytplllaafllcigaa
