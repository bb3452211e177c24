/- What a plan comes to: its hosts, its boxes. -/
import Derived.Test.YtdpgmdkclaahdaaNePlanM
import Derived.Deep.DeepCutAuto
namespace Go.Proofs.Ytdpgmdkclaahdaa.Ne
open Go.Sort Go.RowKit Go.BigFrame
set_option linter.unusedVariables false
set_option linter.unusedSimpArgs false

theorem info_spec : (Try.prog.info? 38).map (fun i => (i.zero, i.size, i.bytes)) = some (some (.agg #[.int .i64 0, .int .i64 0, .int .u32 0, .int .u64 0, .int .i64 0]), 5, 40) := by kernel_rfl
theorem _root_.Go.Proofs.Ytdpgmdkclaahdaa.St.pushW {α : Type} {c : α → List Value} {z : Nat} {T : TypeId} {w0 w w' : World} {u : Sl} {L : List α} {x : α} {g n cap : Nat} (H1 H2 : List Hl) (s : St w0 (H1 ++ hW c z T u L :: H2) w) (hn : n = L.length) (hown : w'.ownsRow 0 T z (.slice (some ⟨g, 0, none⟩) (n + 1) cap) (n + 1) ((L.map c).flatten ++ c x)) (hg : w.grownBy w' u.v.ownBlock) (hat : u.v.ownBlock = some g ∨ w.heap.size ≤ g) :
    St w0 (H1 ++ hW c z T ⟨some ⟨g, 0, none⟩, n + 1, cap⟩ (L ++ [x]) :: H2) w' :=
  s.aft (h := hW c z T u L) (h' := hW c z T ⟨some ⟨g, 0, none⟩, n + 1, cap⟩ (L ++ [x])) (Touch.of_grown hg (fun _ h => h)) (erow_snoc hn hown) (fun b hb => by
    obtain rfl : g = b := by injection hb
    rcases hat with h | h
    · exact .inl h
    · exact .inr (by omega))
theorem _root_.Go.Proofs.Ytdpgmdkclaahdaa.St.rowW {α : Type} {c : α → List Value} {z : Nat} {T : TypeId} {w0 w : World} {H : List Hl} {u : Sl} {L : List α} {n : Nat} (s : St w0 H w) (hm : hW c z T u L ∈ H) (hn : u.n = n) (hl : L.length = n) : w.ownsRow 0 T z (.slice u.a n u.c) n (L.map c).flatten := by
  have h : ERow c z T w u.v L := s.get hm
  unfold ERow Sl.v at h
  rw [hl, hn] at h; exact h
theorem rw_new {z : Nat} {C : List (List Value)} {t : TypeId} {w : World} (h : ∀ c ∈ C, c.length = z) : Rw z w.heap.size t C (w.alloc (.cells C.flatten.toArray t)) := ⟨h, by unfold World.alloc; exact Array.getElem?_push_size⟩
def PlJ (w : World) (g : Nat) (P : List Value) (zs : List Int) (k : Nat) (hv bv iv : Value) (wr : World) : Prop :=
  ∃ (i : Nat) (u v : Sl), i ≤ k ∧ iv = .int .i64 (i : Nat) ∧ hv = .slice u.a (i + 1) u.c ∧ u.n = i + 1 ∧ bv = .slice v.a (plS zs i).2.length v.c ∧ v.n = (plS zs i).2.length ∧ St w [hW csp 5 38 v (plS zs i).2, hW cho 3 34 u (plS zs i).1, hC g P] wr
def PlanPost (zs : List Int) (k : Nat) (w : World) (e : Ending) (w' : World) : Prop :=
  ∃ u v : Sl, e = .returned (.tuple #[.slice u.a (plS zs k).1.length u.c, .slice v.a (plS zs k).2.length v.c]) ∧ u.n = (plS zs k).1.length ∧ v.n = (plS zs k).2.length ∧ St w [hW csp 5 38 v (plS zs k).2, hW cho 3 34 u (plS zs k).1] w'
set_option maxHeartbeats 12800000 in
set_option maxRecDepth 1000000 in
theorem plan_any (q0 q1 qz : Option Addr) (m0 k0 m1 k1 len kz : Nat) (zs : List Int) (hzl : zs.length = len) (hz : ∀ z ∈ zs, 0 ≤ z ∧ z < 256) (hlen : len ≤ 9223372036854775807) (w : World) (hr : Rd .u8 w w.heap.size qz zs) :
    Calls Try.prog 16 #[.agg #[.slice q0 m0 k0, .slice q1 m1 k1, .bool true, .slice qz len kz]] w (PlanPost zs (min len 5) w) := by
  have OKP := Lib.hid (plOk hz)
  have HZ := Lib.hid hz
  have HR := Lib.hid hr
  have s0 := (St.start w w (Below.refl _ _)).box [.slice q0 m0 k0, .slice q1 m1 k1, .bool true, .slice qz len kz] 52
  have e1 : (w.alloc (.cells #[.slice q0 m0 k0, .slice q1 m1 k1, .bool true, .slice qz len kz] 52)).heap.size = w.heap.size + 1 := by simp
  have s1 := s0.more (h := hW cho 3 34 ⟨some ⟨w.heap.size + 1, 0, none⟩, 1, 1⟩ [⟨1, 7, 0⟩]) ((Below.refl _ _).alloc (Nat.le_refl _) (.cells #[.int .u32 1, .int .u16 7, .int .i64 0] 34)) (by
    have hR : Rw 3 (w.alloc (.cells #[.slice q0 m0 k0, .slice q1 m1 k1, .bool true, .slice qz len kz] 52)).heap.size 34 [cho ⟨1, 7, 0⟩] ((w.alloc (.cells #[.slice q0 m0 k0, .slice q1 m1 k1, .bool true, .slice qz len kz] 52)).alloc (.cells #[.int .u32 1, .int .u16 7, .int .i64 0] 34)) := rw_new (C := [cho ⟨1, 7, 0⟩]) (by simp [cho])
    rw [e1] at hR
    have := hR.own (n := 1) (by simp) (by unfold maxLen; simp)
    exact this) (fun b hb => by injection hb with hb; subst hb; simp)
  have s2 := s1.nil (h := hW csp 5 38 ⟨none, 0, 0⟩ []) erow_nil (fun k hk => by simp [hW, Sl.v, Value.ownBlock] at hk)
  have HK := Lib.hid (show (min len 5 : Nat) ≤ len ∧ (min len 5 : Nat) ≤ 5 ∧ (len < 5 → min len 5 = len) ∧ (5 ≤ len → min len 5 = 5) by omega)
  have HZL := Lib.hid hzl
  generalize min len 5 = k at *
  clear s0 s1 e1 hr hz hzl
  go_enter Try.func16, Try.ntmps16
  go_upto_region 5 with fail
  generalize (((w.alloc (.cells #[.slice q0 m0 k0, .slice q1 m1 k1, .bool true, .slice qz len kz] 52)).alloc (.cells #[.int .u32 1, .int .u16 7, .int .i64 0] 34))) = w1 at *
  have SA := Lib.hid s2
  clear s2
  go_wp2_with fail
  go_loopw [4, 5, 6] (fun hv bv iv wr => PlJ w w.heap.size [.slice q0 m0 k0, .slice q1 m1 k1, .bool true, .slice qz len kz] zs k hv bv iv wr) (fun _ _ iv _ => k - (intOf iv).toNat)
  case atStart => exact ⟨0, ⟨some ⟨w.heap.size + 1, 0, none⟩, 1, 1⟩, ⟨none, 0, 0⟩, Nat.zero_le _, rfl, rfl, rfl, rfl, rfl, SA.out⟩
  case round =>
    obtain ⟨i, ⟨ua, un, uc⟩, ⟨va, vn, vc⟩, hi, rfl, rfl, hun, rfl, hvn, s⟩ := hrel
    simp only at hun hvn
    subst hun
    subst hvn
    clear SA
    have P := s.cs (b := w.heap.size) (vs := [.slice q0 m0 k0, .slice q1 m1 k1, .bool true, .slice qz len kz]) (.tail _ (.tail _ (.head _)))
    have p0 := P.cell 0 _ rfl
    have p1 := P.cell 1 _ rfl
    have p2 := P.cell 2 _ rfl
    have p3 := P.cell 3 _ rfl
    have pl := P.lt
    have hi0 : (0 : Int) ≤ i := by omega
    have hk := HK.out
    by_cases hlt : i < k
    · have l1 : decide ((i : Int) < (len : Int)) = true := decide_eq_true (by omega)
      have l2 : decide ((i : Int) < 5) = true := decide_eq_true (by omega)
      have l3 : (i : Int) < (len : Int) := by omega
      have l4 : (i : Int) < 5 := by omega
      have hil : i < len := by omega
      obtain ⟨bz, oz, hqz, hbz, hcz⟩ := HR.out (by rw [HZL.out]; omega)
      subst hqz
      have ZC : Hid (∀ w', Below w.heap.size w w' → w'.cell? ⟨bz, oz + i, none⟩ = some (.int .u8 (zs.getD i 0)) ∧ bz < w'.heap.size) := fun w' hb => ⟨(hb.cell (p := ⟨bz, oz + i, none⟩) hbz).trans (hcz i (by rw [HZL.out]; exact hil)), Nat.lt_of_lt_of_le hbz hb.size⟩
      have hz : 0 ≤ zs.getD i 0 ∧ zs.getD i 0 < 256 := by
        have hil2 : i < zs.length := by rw [HZL.out]; exact hil
        have hm : zs[i]? = some zs[i] := List.getElem?_eq_getElem hil2
        rw [List.getD_eq_getElem?_getD, hm]
        exact HZ.out _ (List.mem_of_getElem? hm)
      have ok := OKP.out i
      have hhl := ok.hl
      have hsl := ok.sl
      have ES : plS zs (i + 1) = ((plS zs i).1 ++ [plH (plB (plS zs i).2 i (zs.getD i 0)) i (zs.getD i 0)], plB (plS zs i).2 i (zs.getD i 0)) := rfl
      have HI := Lib.hid hlt
      generalize hZ : zs.getD i 0 = z at *
      generalize hP1 : (plS zs i).1 = hs at *
      generalize hP2 : (plS zs i).2 = bs at *
      have ESH := Lib.hid ES
      have HBZ := Lib.hid hbz
      clear ES ok hcz hbz P hZ hP1 hP2 hlt
      obtain ⟨mm, hmm⟩ : ∃ q, z / 4 % 3 = q := ⟨_, rfl⟩
      obtain ⟨ff, hff⟩ : ∃ q, z / 12 % 3 = q := ⟨_, rfl⟩
      obtain ⟨ho, hho⟩ : ∃ q, z % 20 = q := ⟨_, rfl⟩
      obtain ⟨z4, hz4⟩ : ∃ q, z % 4 = q := ⟨_, rfl⟩
      have a1 : z.tmod 4 = z4 := by rw [tmod_pos _ _ hz.1]; exact hz4
      have a2 : z.tdiv 4 % 256 % 3 = mm := by rw [Int.tdiv_eq_ediv_of_nonneg hz.1, show z / 4 % 256 = z / 4 by omega]; exact hmm
      have a3 : z.tdiv 12 % 256 % 3 = ff := by rw [Int.tdiv_eq_ediv_of_nonneg hz.1, show z / 12 % 256 = z / 12 by omega]; exact hff
      have a5 : IntKind.u8.wrap (z.tdiv 4) = z / 4 := by rw [Int.tdiv_eq_ediv_of_nonneg hz.1]; exact IntWalk.u8_in _ ⟨by omega, by omega⟩
      have a6 : IntKind.u8.wrap (z.tdiv 12) = z / 12 := by rw [Int.tdiv_eq_ediv_of_nonneg hz.1]; exact IntWalk.u8_in _ ⟨by omega, by omega⟩
      have a7 : (z / 4).tmod 3 = mm := by rw [tmod_pos _ _ (by omega)]; exact hmm
      have a8 : (z / 12).tmod 3 = ff := by rw [tmod_pos _ _ (by omega)]; exact hff
      have a4 : z.tmod 20 = ho := by rw [tmod_pos _ _ hz.1]; exact hho
      have b1 := IntWalk.u8_in z4 ⟨by omega, by omega⟩
      have b2 := IntWalk.u8_in mm ⟨by omega, by omega⟩
      have b3 := IntWalk.u8_in ff ⟨by omega, by omega⟩
      have b4 := IntWalk.u8_in ho ⟨by omega, by omega⟩
      have b5 := IntWalk.i64_in mm ⟨by omega, by omega⟩
      have b6 := IntWalk.i64_in ff ⟨by omega, by omega⟩
      have b7 := IntWalk.u64_in ho ⟨by omega, by omega⟩
      have b8 := IntWalk.u64_in (5 + ho) ⟨by omega, by omega⟩
      have b9 := IntWalk.u32_in (i : Int) ⟨by omega, by omega⟩
      have c1 := IntWalk.u32_in (10 + (i : Int)) ⟨by omega, by omega⟩
      have c2 := IntWalk.u32_in (50 + (i : Int)) ⟨by omega, by omega⟩
      have c3 := IntWalk.i64_in ((i : Int) + 1) ⟨by omega, by omega⟩
      have sh := s.box [.int .u32 (10 + (i : Int)), .int .u16 7, .int .i64 0] 34
      have SH := Lib.hid sh
      clear s sh
      by_cases hg : 240 < z
      · by_cases k4 : 0 < z4
        · have EC : z % 4 > 0 ∨ bs = [] := .inl (by omega)
          have k5 : decide (0 < z4) = true := decide_eq_true k4
          have pl0 := pl
          go_upto_region 9 with fail
          clear p0 p1 p2 p3 pl
          have hgp : w.heap.size < wr.heap.size := pl0
          have s1 := SH.out
          clear SH
          change St w (hC wr.heap.size [.int .u32 (10 + (i : Int)), .int .u16 7, .int .i64 0] :: _) (wr.alloc (.cells #[.int .u32 (10 + (i : Int)), .int .u16 7, .int .i64 0] 34)) at s1
          generalize (wr.alloc (.cells #[.int .u32 (10 + (i : Int)), .int .u16 7, .int .i64 0] 34)) = w2 at *
          generalize wr.heap.size = gh at *
          have SH := Lib.hid s1
          clear s1 pl0
          have ne1 : ¬ gh = w.heap.size := by omega
          have ne2 : ¬ w.heap.size = gh := by omega
          have ne3 : ¬ gh = bz := by have := HBZ.out; omega
          have ne4 : ¬ bz = gh := by have := HBZ.out; omega
          have P := SH.out.cs (b := w.heap.size) (vs := [.slice q0 m0 k0, .slice q1 m1 k1, .bool true, .slice (some ⟨bz, oz, none⟩) len kz]) (.tail _ (.tail _ (.tail _ (.head _))))
          have p0 := P.cell 0 _ rfl
          have p1 := P.cell 1 _ rfl
          have p2 := P.cell 2 _ rfl
          have p3 := P.cell 3 _ rfl
          have pl := P.lt
          have Q := SH.out.cs (b := gh) (vs := [.int .u32 (10 + (i : Int)), .int .u16 7, .int .i64 0]) (.head _)
          have h0 := Q.cell 0 _ rfl
          have h1 := Q.cell 1 _ rfl
          have h2 := Q.cell 2 _ rfl
          have hf := Q.free 2 _ rfl
          have hll := Q.lt
          have zc := (ZC.out _ SH.out.below).1
          have zl := (ZC.out _ SH.out.below).2
          clear P Q
          have EB := Lib.hid (show plB bs i z = bs ++ [⟨mm, ff, 50 + (i : Int), 5 + ho, 3⟩] by unfold plB; rw [if_pos EC, hmm, hff, hho])
          clear EC
          obtain ⟨i0, hi0, hz0, hz1, hz2⟩ := info_parts info_spec
          have RW := Lib.hid (fun o => (SH.out.alloc o).drew.rowW (c := csp) (z := 5) (T := 38) (u := ⟨va, bs.length, vc⟩) (L := bs) (by simp) rfl rfl)
          have PU := Lib.hid (fun o g1 cap1 w9 hown hgrow hat => St.pushW (w' := w9) (g := g1) (cap := cap1) (x := (⟨mm, ff, 50 + (i : Int), 5 + ho, 3⟩ : Sp)) [_] _ (SH.out.alloc o).drew rfl hown hgrow hat)
          go_upto_region 10 with fail
          have mkS : Hid (∀ (H : List Hl) w', St w (H ++ [hC w.heap.size [.slice q0 m0 k0, .slice q1 m1 k1, .bool true, .slice (some ⟨bz, oz, none⟩) len kz]]) w' → w'.cell? ⟨w.heap.size, 3, none⟩ = some (.slice (some ⟨bz, oz, none⟩) len kz) ∧ w'.cell? ⟨bz, oz + i, none⟩ = some (.int .u8 z)) := fun H w' s => ⟨(s.cs (b := w.heap.size) (vs := [.slice q0 m0 k0, .slice q1 m1 k1, .bool true, .slice (some ⟨bz, oz, none⟩) len kz]) (by simp)).cell 3 _ rfl, (ZC.out _ s.below).1⟩
          have S0 := Lib.hid (mkS.out [_, _, _] _ SH.out.drew)
          have S1 := Lib.hid (fun o => mkS.out [_, _, _] _ (SH.out.alloc o).drew)
          refine wp_region_held_drew (S := (fun w' => w'.cell? ⟨w.heap.size, 3, none⟩ = some (.slice (some ⟨bz, oz, none⟩) len kz) ∧ w'.cell? ⟨bz, oz + i, none⟩ = some (.int .u8 z))) (by kernel_rfl) S0.out (fun hHeld => ?_)
          refine wpAnyH_take (i := 0) (v := ?_) rfl (by kernel_rfl) (by kernel_rfl) (by kernel_rfl) (fun _ _ _ h => h) (Or.inl ⟨by rfl, ?_⟩) (by assumption) ?_; rotate_left 1; (focus (intro w hSw; (try dsimp only at hSw); go_simp; (try with_reducible rfl))); (try simp only [Act.put, List.setIfInBounds_toArray, List.set_cons_zero, List.set_cons_succ])
          refine wpAnyH_take (i := 1) (v := ?_) rfl (by kernel_rfl) (by kernel_rfl) (by kernel_rfl) (fun _ _ _ h => h) (Or.inl ⟨by rfl, ?_⟩) (by assumption) ?_; rotate_left 1; (focus (intro w hSw; (try dsimp only at hSw); go_simp; (try with_reducible rfl))); (try simp only [Act.put, List.setIfInBounds_toArray, List.set_cons_zero, List.set_cons_succ])
          refine wpAnyH_take (i := 2) (v := ?_) rfl (by kernel_rfl) (by kernel_rfl) (by kernel_rfl) (fun _ _ _ h => h) (Or.inl ⟨by rfl, ?_⟩) (by assumption) ?_; rotate_left 1; (focus (intro w hSw; (try dsimp only at hSw); go_simp; (try with_reducible rfl))); (try simp only [Act.put, List.setIfInBounds_toArray, List.set_cons_zero, List.set_cons_succ])
          refine wpAnyH_take (i := 3) (v := ?_) rfl (by kernel_rfl) (by kernel_rfl) (by kernel_rfl) (fun _ _ _ h => h) (Or.inl ⟨by rfl, ?_⟩) (by assumption) ?_; rotate_left 1; (focus (intro w hSw; (try dsimp only at hSw); go_simp; (try with_reducible rfl))); (try simp only [Act.put, List.setIfInBounds_toArray, List.set_cons_zero, List.set_cons_succ])
          refine wpAnyH_take (i := 4) (v := ?_) rfl (by kernel_rfl) (by kernel_rfl) (by kernel_rfl) (fun _ _ _ h => h) (Or.inl ⟨by rfl, ?_⟩) (by assumption) ?_; rotate_left 1; (focus (intro w hSw; (try dsimp only at hSw); go_simp; (try with_reducible rfl))); (try simp only [Act.put, List.setIfInBounds_toArray, List.set_cons_zero, List.set_cons_succ])
          refine wpAnyH_take (i := 5) (v := ?_) rfl (by kernel_rfl) (by kernel_rfl) (by kernel_rfl) (fun _ _ _ h => h) (Or.inl ⟨by rfl, ?_⟩) (by assumption) ?_; rotate_left 1; (focus (intro w hSw; (try dsimp only at hSw); go_simp; (try with_reducible rfl))); (try simp only [Act.put, List.setIfInBounds_toArray, List.set_cons_zero, List.set_cons_succ])
          refine wpAnyH_take (i := 6) (v := ?_) rfl (by kernel_rfl) (by kernel_rfl) (by kernel_rfl) (fun _ _ _ h => h) (Or.inl ⟨by rfl, ?_⟩) (by assumption) ?_; rotate_left 1; (focus (intro w hSw; (try dsimp only at hSw); go_simp; (try with_reducible rfl))); (try simp only [Act.put, List.setIfInBounds_toArray, List.set_cons_zero, List.set_cons_succ])
          refine wpAnyH_take (i := 7) (v := ?_) rfl (by kernel_rfl) (by kernel_rfl) (by kernel_rfl) (fun _ _ _ h => h) (Or.inl ⟨by rfl, ?_⟩) (by assumption) ?_; rotate_left 1; (focus (intro w hSw; (try dsimp only at hSw); go_simp; (try with_reducible rfl))); (try simp only [Act.put, List.setIfInBounds_toArray, List.set_cons_zero, List.set_cons_succ])
          refine wpAnyH_take (i := 8) (v := ?_) rfl (by kernel_rfl) (by kernel_rfl) (by kernel_rfl) (fun _ _ _ h => h) (Or.inl ⟨by rfl, ?_⟩) (by assumption) ?_; rotate_left 1; (focus (intro w hSw; (try dsimp only at hSw); go_simp; (try with_reducible rfl))); (try simp only [Act.put, List.setIfInBounds_toArray, List.set_cons_zero, List.set_cons_succ])
          refine wpAnyH_take (i := 9) (v := ?_) rfl (by kernel_rfl) (by kernel_rfl) (by kernel_rfl) (fun _ _ _ h => h) (Or.inl ⟨by rfl, ?_⟩) (by assumption) ?_; rotate_left 1; (focus (intro w hSw; (try dsimp only at hSw); go_simp; (try with_reducible rfl))); (try simp only [Act.put, List.setIfInBounds_toArray, List.set_cons_zero, List.set_cons_succ])
          refine wpAnyH_take (i := 10) (v := ?_) rfl (by kernel_rfl) (by kernel_rfl) (by kernel_rfl) (fun _ _ _ h => h) (Or.inl ⟨by rfl, ?_⟩) (by assumption) ?_; rotate_left 1; (focus (intro w hSw; (try dsimp only at hSw); go_simp; (try with_reducible rfl))); (try simp only [Act.put, List.setIfInBounds_toArray, List.set_cons_zero, List.set_cons_succ])
          refine wpAnyH_take (i := 11) (v := ?_) rfl (by kernel_rfl) (by kernel_rfl) (by kernel_rfl) (fun _ _ _ h => h) (Or.inl ⟨by rfl, ?_⟩) (by assumption) ?_; rotate_left 1; (focus (intro w hSw; (try dsimp only at hSw); go_simp; (try with_reducible rfl))); (try simp only [Act.put, List.setIfInBounds_toArray, List.set_cons_zero, List.set_cons_succ])
          refine wpAnyH_take (i := 12) (v := ?_) rfl (by kernel_rfl) (by kernel_rfl) (by kernel_rfl) (fun _ _ _ h => h) (Or.inl ⟨by rfl, ?_⟩) (by assumption) ?_; rotate_left 1; (focus (intro w hSw; (try dsimp only at hSw); go_simp; (try with_reducible rfl))); (try simp only [Act.put, List.setIfInBounds_toArray, List.set_cons_zero, List.set_cons_succ])
          refine wpAnyH_take (i := 13) (v := ?_) rfl (by kernel_rfl) (by kernel_rfl) (by kernel_rfl) (fun _ _ _ h => h) (Or.inl ⟨by rfl, ?_⟩) (by assumption) ?_; rotate_left 1; (focus (intro w hSw; (try dsimp only at hSw); go_simp; (try with_reducible rfl))); (try simp only [Act.put, List.setIfInBounds_toArray, List.set_cons_zero, List.set_cons_succ])
          refine wpAnyH_take (i := 14) (v := ?_) rfl (by kernel_rfl) (by kernel_rfl) (by kernel_rfl) (fun _ _ _ h => h) (Or.inl ⟨by rfl, ?_⟩) (by assumption) ?_; rotate_left 1; (focus (intro w hSw; (try dsimp only at hSw); go_simp; (try with_reducible rfl))); (try simp only [Act.put, List.setIfInBounds_toArray, List.set_cons_zero, List.set_cons_succ])
          refine wpAnyH_take (i := 15) (v := ?_) rfl (by kernel_rfl) (by kernel_rfl) (by kernel_rfl) (fun _ _ _ h => h) (Or.inl ⟨by rfl, ?_⟩) (by assumption) ?_; rotate_left 1; (focus (intro w hSw; (try dsimp only at hSw); go_simp; (try with_reducible rfl))); (try simp only [Act.put, List.setIfInBounds_toArray, List.set_cons_zero, List.set_cons_succ])
          refine wpAnyH_take (i := 16) (v := ?_) rfl (by kernel_rfl) (by kernel_rfl) (by kernel_rfl) (fun _ _ _ h => h) (Or.inl ⟨by rfl, ?_⟩) (by assumption) ?_; rotate_left 1; (focus (intro w hSw; (try dsimp only at hSw); go_simp; (try with_reducible rfl))); (try simp only [Act.put, List.setIfInBounds_toArray, List.set_cons_zero, List.set_cons_succ])
          refine wpAnyH_take (i := 17) (v := ?_) rfl (by kernel_rfl) (by kernel_rfl) (by kernel_rfl) (fun _ _ _ h => h) (Or.inl ⟨by rfl, ?_⟩) (by assumption) ?_; rotate_left 1; (focus (intro w hSw; (try dsimp only at hSw); go_simp; (try with_reducible rfl))); (try simp only [Act.put, List.setIfInBounds_toArray, List.set_cons_zero, List.set_cons_succ])
          refine wpAnyH_take (i := 18) (v := ?_) rfl (by kernel_rfl) (by kernel_rfl) (by kernel_rfl) (fun _ _ _ h => h) (Or.inl ⟨by rfl, ?_⟩) (by assumption) ?_; rotate_left 1; (focus (intro w hSw; (try dsimp only at hSw); go_simp; (try with_reducible rfl))); (try simp only [Act.put, List.setIfInBounds_toArray, List.set_cons_zero, List.set_cons_succ])
          refine wpAnyH_take (i := 19) (v := ?_) rfl (by kernel_rfl) (by kernel_rfl) (by kernel_rfl) (fun _ _ _ h => h) (Or.inl ⟨by rfl, ?_⟩) (by assumption) ?_; rotate_left 1; (focus (intro w hSw; (try dsimp only at hSw); go_simp; (try with_reducible rfl))); (try simp only [Act.put, List.setIfInBounds_toArray, List.set_cons_zero, List.set_cons_succ])
          refine wpAnyH_take (i := 20) (v := ?_) rfl (by kernel_rfl) (by kernel_rfl) (by kernel_rfl) (fun _ _ _ h => h) (Or.inl ⟨by rfl, ?_⟩) (by assumption) ?_; rotate_left 1; (focus (intro w hSw; (try dsimp only at hSw); go_simp; (try with_reducible rfl))); (try simp only [Act.put, List.setIfInBounds_toArray, List.set_cons_zero, List.set_cons_succ])
          refine wpAnyH_take (i := 21) (v := ?_) rfl (by kernel_rfl) (by kernel_rfl) (by kernel_rfl) (fun _ _ _ h => h) (Or.inl ⟨by rfl, ?_⟩) (by assumption) ?_; rotate_left 1; (focus (intro w hSw; (try dsimp only at hSw); go_simp; (try with_reducible rfl))); (try simp only [Act.put, List.setIfInBounds_toArray, List.set_cons_zero, List.set_cons_succ])
          refine wpAnyH_take (i := 22) (v := ?_) rfl (by kernel_rfl) (by kernel_rfl) (by kernel_rfl) (fun _ _ _ h => h) (Or.inl ⟨by rfl, ?_⟩) (by assumption) ?_; rotate_left 1; (focus (intro w hSw; (try dsimp only at hSw); go_simp; (try with_reducible rfl))); (try simp only [Act.put, List.setIfInBounds_toArray, List.set_cons_zero, List.set_cons_succ])
          refine wpAnyH_take (i := 23) (v := ?_) rfl (by kernel_rfl) (by kernel_rfl) (by kernel_rfl) (fun _ _ _ h => h) (Or.inl ⟨by rfl, ?_⟩) (by assumption) ?_; rotate_left 1; (focus (intro w hSw; (try dsimp only at hSw); go_simp; (try with_reducible rfl))); (try simp only [Act.put, List.setIfInBounds_toArray, List.set_cons_zero, List.set_cons_succ])
          refine wpAnyH_take (i := 24) (v := ?_) rfl (by kernel_rfl) (by kernel_rfl) (by kernel_rfl) (fun _ _ _ h => h) (Or.inl ⟨by rfl, ?_⟩) (by assumption) ?_; rotate_left 1; (focus (intro w hSw; (try dsimp only at hSw); go_simp; (try with_reducible rfl))); (try simp only [Act.put, List.setIfInBounds_toArray, List.set_cons_zero, List.set_cons_succ])
          refine wpAnyH_take (i := 25) (v := ?_) rfl (by kernel_rfl) (by kernel_rfl) (by kernel_rfl) (fun _ _ _ h => h) (Or.inl ⟨by rfl, ?_⟩) (by assumption) ?_; rotate_left 1; (focus (intro w hSw; (try dsimp only at hSw); go_simp; (try with_reducible rfl))); (try simp only [Act.put, List.setIfInBounds_toArray, List.set_cons_zero, List.set_cons_succ])
          refine wpAnyH_take (i := 26) (v := ?_) rfl (by kernel_rfl) (by kernel_rfl) (by kernel_rfl) (fun _ _ _ h => h) (Or.inl ⟨by rfl, ?_⟩) (by assumption) ?_; rotate_left 1; (focus (intro w hSw; (try dsimp only at hSw); go_simp; (try with_reducible rfl))); (try simp only [Act.put, List.setIfInBounds_toArray, List.set_cons_zero, List.set_cons_succ])
          refine wpAnyH_take (i := 27) (v := ?_) rfl (by kernel_rfl) (by kernel_rfl) (by kernel_rfl) (fun _ _ _ h => h) (Or.inl ⟨by rfl, ?_⟩) (by assumption) ?_; rotate_left 1; (focus (intro w hSw; (try dsimp only at hSw); go_simp; (try with_reducible rfl))); (try simp only [Act.put, List.setIfInBounds_toArray, List.set_cons_zero, List.set_cons_succ])
          refine wpAnyH_take (i := 28) (v := ?_) rfl (by kernel_rfl) (by kernel_rfl) (by kernel_rfl) (fun _ _ _ h => h) (Or.inl ⟨by rfl, ?_⟩) (by assumption) ?_; rotate_left 1; (focus (intro w hSw; (try dsimp only at hSw); go_simp; (try with_reducible rfl))); (try simp only [Act.put, List.setIfInBounds_toArray, List.set_cons_zero, List.set_cons_succ])
          refine wpAnyH_take (i := 29) (v := ?_) rfl (by kernel_rfl) (by kernel_rfl) (by kernel_rfl) (fun _ _ _ h => h) (Or.inl ⟨by rfl, ?_⟩) (by assumption) ?_; rotate_left 1; (focus (intro w hSw; (try dsimp only at hSw); go_simp; (try with_reducible rfl))); (try simp only [Act.put, List.setIfInBounds_toArray, List.set_cons_zero, List.set_cons_succ])
          refine wpAnyH_ready (rs := [30]) (by kernel_rfl) (by simp) ?_
          refine AllReadyH.cons rfl (fun K hK => ?_) AllReadyH.nil
          go_simp
          refine hK.out _ _ (S1.out _) (fun hHeld => ?_); clear hK K
          refine wpAnyH_ready (rs := [31]) (by kernel_rfl) (by simp) ?_
          refine AllReadyH.cons rfl (fun K hK => ?_) AllReadyH.nil
          refine step_append_lies _ (by rfl) _ _ _ (by rfl) 0 38 i0 _ 5 40 Try.underlying39 hi0 hz0 hz1 hz2 rfl (by omega) (.slice va bs.length vc) bs.length (bs.map csp).flatten (by rfl) (RW.out _) ⟨_, 0, none⟩ 1 1 (csp ⟨mm, ff, 50 + (i : Int), 5 + ho, 3⟩) (by rfl) (by rfl) (World.news_of_block (cs := (csp ⟨mm, ff, 50 + (i : Int), 5 + ho, 3⟩).toArray) (t := 38) (fr := (0, 0)) (heap_alloc_new _ _)) (csp_enc.one _) (by omega) (by unfold maxLen; omega) (by omega) (Nat.zero_le _) _ rfl ?_; intro g1 cap1 w9 hown hgrow hat hlt9; have S9 := Lib.hid (PU.out _ g1 cap1 w9 hown hgrow (hat.imp id (fun h => by rw [h]; simp))); clear hown hgrow hat
          refine hK.out _ _ (mkS.out [_, _, _] _ S9.out) (fun hHeld => ?_); clear hK K
          refine wpAnyH_take (i := 32) (v := ?_) rfl (by kernel_rfl) (by kernel_rfl) (by kernel_rfl) (fun _ _ _ h => h) (Or.inl ⟨by rfl, ?_⟩) (by assumption) ?_; rotate_left 1; (focus (intro w hSw; (try dsimp only at hSw); go_simp; (try with_reducible rfl))); (try simp only [Act.put, List.setIfInBounds_toArray, List.set_cons_zero, List.set_cons_succ])
          refine wpAnyH_done (by kernel_rfl) ?_ _
          clear mkS S0 S1
          clear p0 p1 p2 p3 pl h0 h1 h2 hf hll zc zl
          clear RW PU SH
          have SH := S9
          clear S9
          generalize hB2 : bs ++ [(⟨mm, ff, 50 + (i : Int), 5 + ho, 3⟩ : Sp)] = b2 at *
          have hl2 : b2.length = bs.length + 1 := by rw [← hB2]; simp
          have P := SH.out.cs (b := w.heap.size) (vs := [.slice q0 m0 k0, .slice q1 m1 k1, .bool true, .slice (some ⟨bz, oz, none⟩) len kz]) (.tail _ (.tail _ (.tail _ (.head _))))
          have p0 := P.cell 0 _ rfl
          have p1 := P.cell 1 _ rfl
          have p2 := P.cell 2 _ rfl
          have p3 := P.cell 3 _ rfl
          have pl := P.lt
          have Q := SH.out.cs (b := gh) (vs := [.int .u32 (10 + (i : Int)), .int .u16 7, .int .i64 0]) (.head _)
          have h0 := Q.cell 0 _ rfl
          have h1 := Q.cell 1 _ rfl
          have h2 := Q.cell 2 _ rfl
          have hf := Q.free 2 _ rfl
          have hll := Q.lt
          have zc := (ZC.out _ SH.out.below).1
          have zl := (ZC.out _ SH.out.below).2
          clear P Q
          have zg : decide (240 < z) = true := decide_eq_true (by omega)
          go_upto_region 14 with fail
          have s3 := SH.out.setc [] _ 2 (.int .i64 ((bs.length : Int) + 1)) (by simp)
          replace s3 := s3.setc [] _ 2 (.int .i64 0) (by simp)
          replace s3 : St w (hC gh [.int .u32 (10 + (i : Int)), .int .u16 7, .int .i64 0] :: _) ((w9.setCell ⟨gh, 2, none⟩ (.int .i64 ((bs.length : Int) + 1))).setCell ⟨gh, 2, none⟩ (.int .i64 0)) := s3
          clear p0 p1 p2 p3 pl h0 h1 h2 hf hll zc zl
          generalize ((w9.setCell ⟨gh, 2, none⟩ (.int .i64 ((bs.length : Int) + 1))).setCell ⟨gh, 2, none⟩ (.int .i64 0)) = w3 at *
          have S3 := Lib.hid s3
          clear s3 SH
          have P := S3.out.cs (b := w.heap.size) (vs := [.slice q0 m0 k0, .slice q1 m1 k1, .bool true, .slice (some ⟨bz, oz, none⟩) len kz]) (.tail _ (.tail _ (.tail _ (.head _))))
          have p0 := P.cell 0 _ rfl
          have p1 := P.cell 1 _ rfl
          have p2 := P.cell 2 _ rfl
          have p3 := P.cell 3 _ rfl
          have pl := P.lt
          have Q := S3.out.cs (b := gh) (vs := [.int .u32 (10 + (i : Int)), .int .u16 7, .int .i64 0]) (.head _)
          have h0 := Q.cell 0 _ rfl
          have h1 := Q.cell 1 _ rfl
          have h2 := Q.cell 2 _ rfl
          have hf := Q.free 2 _ rfl
          have hll := Q.lt
          have zc := (ZC.out _ S3.out.below).1
          have zl := (ZC.out _ S3.out.below).2
          clear P Q
          obtain ⟨j0, hj0, hy0, hy1, hy2⟩ := info_parts info_host
          have OW := Lib.hid (fun o => (S3.out.alloc o).rowW (c := cho) (z := 3) (T := 34) (u := ⟨ua, i + 1, uc⟩) (L := hs) (by simp) rfl hhl)
          go_wp2_with (at_builtin; refine wpList_append_lies _ rfl (.tmp 88) (.tmp 90) 35 rfl 0 34 j0 _ 3 16 Try.underlying35 hj0 hy0 hy1 hy2 rfl (by omega) (.slice ua (i + 1) uc) (i + 1) (hs.map cho).flatten rfl (OW.out _) ⟨_, 0, none⟩ 1 1 (cho ⟨10 + (i : Int), 7, 0⟩) rfl rfl (World.news_of_block (cs := (cho ⟨10 + (i : Int), 7, 0⟩).toArray) (t := 34) (fr := (0, 0)) (heap_alloc_new _ _)) (cho_enc.one _) (by omega) ?c1_2 ?c1_3 ?c1_4 _ rfl ?_)
          case c1_2 => unfold maxLen; omega
          case c1_3 => omega
          (try case c1_4 => exact Nat.zero_le _)
          intro g2 cap2 w10 hown hgrow hat hlt10
          have S4 := Lib.hid (St.pushW (x := (⟨10 + (i : Int), 7, 0⟩ : Ho)) [_, _] _ (S3.out.alloc (.cells (cho ⟨10 + (i : Int), 7, 0⟩).toArray 34)) hhl.symm hown hgrow (hat.imp id (fun h => by rw [h]; simp)))
          have HH := Lib.hid hhl
          clear hown hgrow hat OW S3
          clear p0 p1 p2 p3 pl h0 h1 h2 hf hll zc zl
          have EP : plS zs (i + 1) = (hs ++ [(⟨10 + (i : Int), 7, 0⟩ : Ho)], b2) := by rw [ESH.out, (show plH (plB bs i z) i z = ⟨10 + (i : Int), 7, 0⟩ by rw [EB.out]; unfold plH; rw [if_pos (by omega : z > 240)]; first | done | (simp; done) | (simp; omega)), EB.out]
          have EPH := Lib.hid EP
          clear EP ESH EB
          have HL2 := Lib.hid hl2
          clear hB2 hl2
          go_wp2
          go_roundw
          case rel => exact ⟨i + 1, ⟨some ⟨g2, 0, none⟩, i + 1 + 1, cap2⟩, ⟨some ⟨g1, 0, none⟩, bs.length + 1, cap1⟩, by have := HI.out; omega, by go_num, rfl, rfl, by rw [EPH.out]; simp only; rw [HL2.out], by rw [EPH.out]; simp only; rw [HL2.out], by rw [EPH.out]; exact S4.out.sub (by simp)⟩
          case measure => simp [intOf]; have := HI.out; omega
        · have k5 : decide (0 < z4) = false := decide_eq_false k4
          by_cases hbs : bs = []
          · have EC : z % 4 > 0 ∨ bs = [] := .inr hbs
            subst hbs
            have pl0 := pl
            go_upto_region 9 with fail
            clear p0 p1 p2 p3 pl
            have hgp : w.heap.size < wr.heap.size := pl0
            have s1 := SH.out
            clear SH
            change St w (hC wr.heap.size [.int .u32 (10 + (i : Int)), .int .u16 7, .int .i64 0] :: _) (wr.alloc (.cells #[.int .u32 (10 + (i : Int)), .int .u16 7, .int .i64 0] 34)) at s1
            generalize (wr.alloc (.cells #[.int .u32 (10 + (i : Int)), .int .u16 7, .int .i64 0] 34)) = w2 at *
            generalize wr.heap.size = gh at *
            have SH := Lib.hid s1
            clear s1 pl0
            have ne1 : ¬ gh = w.heap.size := by omega
            have ne2 : ¬ w.heap.size = gh := by omega
            have ne3 : ¬ gh = bz := by have := HBZ.out; omega
            have ne4 : ¬ bz = gh := by have := HBZ.out; omega
            have P := SH.out.cs (b := w.heap.size) (vs := [.slice q0 m0 k0, .slice q1 m1 k1, .bool true, .slice (some ⟨bz, oz, none⟩) len kz]) (.tail _ (.tail _ (.tail _ (.head _))))
            have p0 := P.cell 0 _ rfl
            have p1 := P.cell 1 _ rfl
            have p2 := P.cell 2 _ rfl
            have p3 := P.cell 3 _ rfl
            have pl := P.lt
            have Q := SH.out.cs (b := gh) (vs := [.int .u32 (10 + (i : Int)), .int .u16 7, .int .i64 0]) (.head _)
            have h0 := Q.cell 0 _ rfl
            have h1 := Q.cell 1 _ rfl
            have h2 := Q.cell 2 _ rfl
            have hf := Q.free 2 _ rfl
            have hll := Q.lt
            have zc := (ZC.out _ SH.out.below).1
            have zl := (ZC.out _ SH.out.below).2
            clear P Q
            have EB := Lib.hid (show plB ([] : List Sp) i z = ([] : List Sp) ++ [⟨mm, ff, 50 + (i : Int), 5 + ho, 3⟩] by unfold plB; rw [if_pos EC, hmm, hff, hho])
            clear EC
            obtain ⟨i0, hi0, hz0, hz1, hz2⟩ := info_parts info_spec
            have RW := Lib.hid (fun o => (SH.out.alloc o).drew.rowW (c := csp) (z := 5) (T := 38) (u := ⟨va, 0, vc⟩) (L := ([] : List Sp)) (by simp) rfl rfl)
            have PU := Lib.hid (fun o g1 cap1 w9 hown hgrow hat => St.pushW (w' := w9) (g := g1) (cap := cap1) (x := (⟨mm, ff, 50 + (i : Int), 5 + ho, 3⟩ : Sp)) [_] _ (SH.out.alloc o).drew rfl hown hgrow hat)
            go_upto_region 10 with fail
            have mkS : Hid (∀ (H : List Hl) w', St w (H ++ [hC w.heap.size [.slice q0 m0 k0, .slice q1 m1 k1, .bool true, .slice (some ⟨bz, oz, none⟩) len kz]]) w' → w'.cell? ⟨w.heap.size, 3, none⟩ = some (.slice (some ⟨bz, oz, none⟩) len kz) ∧ w'.cell? ⟨bz, oz + i, none⟩ = some (.int .u8 z)) := fun H w' s => ⟨(s.cs (b := w.heap.size) (vs := [.slice q0 m0 k0, .slice q1 m1 k1, .bool true, .slice (some ⟨bz, oz, none⟩) len kz]) (by simp)).cell 3 _ rfl, (ZC.out _ s.below).1⟩
            have S0 := Lib.hid (mkS.out [_, _, _] _ SH.out.drew)
            have S1 := Lib.hid (fun o => mkS.out [_, _, _] _ (SH.out.alloc o).drew)
            refine wp_region_held_drew (S := (fun w' => w'.cell? ⟨w.heap.size, 3, none⟩ = some (.slice (some ⟨bz, oz, none⟩) len kz) ∧ w'.cell? ⟨bz, oz + i, none⟩ = some (.int .u8 z))) (by kernel_rfl) S0.out (fun hHeld => ?_)
            refine wpAnyH_take (i := 0) (v := ?_) rfl (by kernel_rfl) (by kernel_rfl) (by kernel_rfl) (fun _ _ _ h => h) (Or.inl ⟨by rfl, ?_⟩) (by assumption) ?_; rotate_left 1; (focus (intro w hSw; (try dsimp only at hSw); go_simp; (try with_reducible rfl))); (try simp only [Act.put, List.setIfInBounds_toArray, List.set_cons_zero, List.set_cons_succ])
            refine wpAnyH_take (i := 1) (v := ?_) rfl (by kernel_rfl) (by kernel_rfl) (by kernel_rfl) (fun _ _ _ h => h) (Or.inl ⟨by rfl, ?_⟩) (by assumption) ?_; rotate_left 1; (focus (intro w hSw; (try dsimp only at hSw); go_simp; (try with_reducible rfl))); (try simp only [Act.put, List.setIfInBounds_toArray, List.set_cons_zero, List.set_cons_succ])
            refine wpAnyH_take (i := 2) (v := ?_) rfl (by kernel_rfl) (by kernel_rfl) (by kernel_rfl) (fun _ _ _ h => h) (Or.inl ⟨by rfl, ?_⟩) (by assumption) ?_; rotate_left 1; (focus (intro w hSw; (try dsimp only at hSw); go_simp; (try with_reducible rfl))); (try simp only [Act.put, List.setIfInBounds_toArray, List.set_cons_zero, List.set_cons_succ])
            refine wpAnyH_take (i := 3) (v := ?_) rfl (by kernel_rfl) (by kernel_rfl) (by kernel_rfl) (fun _ _ _ h => h) (Or.inl ⟨by rfl, ?_⟩) (by assumption) ?_; rotate_left 1; (focus (intro w hSw; (try dsimp only at hSw); go_simp; (try with_reducible rfl))); (try simp only [Act.put, List.setIfInBounds_toArray, List.set_cons_zero, List.set_cons_succ])
            refine wpAnyH_take (i := 4) (v := ?_) rfl (by kernel_rfl) (by kernel_rfl) (by kernel_rfl) (fun _ _ _ h => h) (Or.inl ⟨by rfl, ?_⟩) (by assumption) ?_; rotate_left 1; (focus (intro w hSw; (try dsimp only at hSw); go_simp; (try with_reducible rfl))); (try simp only [Act.put, List.setIfInBounds_toArray, List.set_cons_zero, List.set_cons_succ])
            refine wpAnyH_take (i := 5) (v := ?_) rfl (by kernel_rfl) (by kernel_rfl) (by kernel_rfl) (fun _ _ _ h => h) (Or.inl ⟨by rfl, ?_⟩) (by assumption) ?_; rotate_left 1; (focus (intro w hSw; (try dsimp only at hSw); go_simp; (try with_reducible rfl))); (try simp only [Act.put, List.setIfInBounds_toArray, List.set_cons_zero, List.set_cons_succ])
            refine wpAnyH_take (i := 6) (v := ?_) rfl (by kernel_rfl) (by kernel_rfl) (by kernel_rfl) (fun _ _ _ h => h) (Or.inl ⟨by rfl, ?_⟩) (by assumption) ?_; rotate_left 1; (focus (intro w hSw; (try dsimp only at hSw); go_simp; (try with_reducible rfl))); (try simp only [Act.put, List.setIfInBounds_toArray, List.set_cons_zero, List.set_cons_succ])
            refine wpAnyH_take (i := 7) (v := ?_) rfl (by kernel_rfl) (by kernel_rfl) (by kernel_rfl) (fun _ _ _ h => h) (Or.inl ⟨by rfl, ?_⟩) (by assumption) ?_; rotate_left 1; (focus (intro w hSw; (try dsimp only at hSw); go_simp; (try with_reducible rfl))); (try simp only [Act.put, List.setIfInBounds_toArray, List.set_cons_zero, List.set_cons_succ])
            refine wpAnyH_take (i := 8) (v := ?_) rfl (by kernel_rfl) (by kernel_rfl) (by kernel_rfl) (fun _ _ _ h => h) (Or.inl ⟨by rfl, ?_⟩) (by assumption) ?_; rotate_left 1; (focus (intro w hSw; (try dsimp only at hSw); go_simp; (try with_reducible rfl))); (try simp only [Act.put, List.setIfInBounds_toArray, List.set_cons_zero, List.set_cons_succ])
            refine wpAnyH_take (i := 9) (v := ?_) rfl (by kernel_rfl) (by kernel_rfl) (by kernel_rfl) (fun _ _ _ h => h) (Or.inl ⟨by rfl, ?_⟩) (by assumption) ?_; rotate_left 1; (focus (intro w hSw; (try dsimp only at hSw); go_simp; (try with_reducible rfl))); (try simp only [Act.put, List.setIfInBounds_toArray, List.set_cons_zero, List.set_cons_succ])
            refine wpAnyH_take (i := 10) (v := ?_) rfl (by kernel_rfl) (by kernel_rfl) (by kernel_rfl) (fun _ _ _ h => h) (Or.inl ⟨by rfl, ?_⟩) (by assumption) ?_; rotate_left 1; (focus (intro w hSw; (try dsimp only at hSw); go_simp; (try with_reducible rfl))); (try simp only [Act.put, List.setIfInBounds_toArray, List.set_cons_zero, List.set_cons_succ])
            refine wpAnyH_take (i := 11) (v := ?_) rfl (by kernel_rfl) (by kernel_rfl) (by kernel_rfl) (fun _ _ _ h => h) (Or.inl ⟨by rfl, ?_⟩) (by assumption) ?_; rotate_left 1; (focus (intro w hSw; (try dsimp only at hSw); go_simp; (try with_reducible rfl))); (try simp only [Act.put, List.setIfInBounds_toArray, List.set_cons_zero, List.set_cons_succ])
            refine wpAnyH_take (i := 12) (v := ?_) rfl (by kernel_rfl) (by kernel_rfl) (by kernel_rfl) (fun _ _ _ h => h) (Or.inl ⟨by rfl, ?_⟩) (by assumption) ?_; rotate_left 1; (focus (intro w hSw; (try dsimp only at hSw); go_simp; (try with_reducible rfl))); (try simp only [Act.put, List.setIfInBounds_toArray, List.set_cons_zero, List.set_cons_succ])
            refine wpAnyH_take (i := 13) (v := ?_) rfl (by kernel_rfl) (by kernel_rfl) (by kernel_rfl) (fun _ _ _ h => h) (Or.inl ⟨by rfl, ?_⟩) (by assumption) ?_; rotate_left 1; (focus (intro w hSw; (try dsimp only at hSw); go_simp; (try with_reducible rfl))); (try simp only [Act.put, List.setIfInBounds_toArray, List.set_cons_zero, List.set_cons_succ])
            refine wpAnyH_take (i := 14) (v := ?_) rfl (by kernel_rfl) (by kernel_rfl) (by kernel_rfl) (fun _ _ _ h => h) (Or.inl ⟨by rfl, ?_⟩) (by assumption) ?_; rotate_left 1; (focus (intro w hSw; (try dsimp only at hSw); go_simp; (try with_reducible rfl))); (try simp only [Act.put, List.setIfInBounds_toArray, List.set_cons_zero, List.set_cons_succ])
            refine wpAnyH_take (i := 15) (v := ?_) rfl (by kernel_rfl) (by kernel_rfl) (by kernel_rfl) (fun _ _ _ h => h) (Or.inl ⟨by rfl, ?_⟩) (by assumption) ?_; rotate_left 1; (focus (intro w hSw; (try dsimp only at hSw); go_simp; (try with_reducible rfl))); (try simp only [Act.put, List.setIfInBounds_toArray, List.set_cons_zero, List.set_cons_succ])
            refine wpAnyH_take (i := 16) (v := ?_) rfl (by kernel_rfl) (by kernel_rfl) (by kernel_rfl) (fun _ _ _ h => h) (Or.inl ⟨by rfl, ?_⟩) (by assumption) ?_; rotate_left 1; (focus (intro w hSw; (try dsimp only at hSw); go_simp; (try with_reducible rfl))); (try simp only [Act.put, List.setIfInBounds_toArray, List.set_cons_zero, List.set_cons_succ])
            refine wpAnyH_take (i := 17) (v := ?_) rfl (by kernel_rfl) (by kernel_rfl) (by kernel_rfl) (fun _ _ _ h => h) (Or.inl ⟨by rfl, ?_⟩) (by assumption) ?_; rotate_left 1; (focus (intro w hSw; (try dsimp only at hSw); go_simp; (try with_reducible rfl))); (try simp only [Act.put, List.setIfInBounds_toArray, List.set_cons_zero, List.set_cons_succ])
            refine wpAnyH_take (i := 18) (v := ?_) rfl (by kernel_rfl) (by kernel_rfl) (by kernel_rfl) (fun _ _ _ h => h) (Or.inl ⟨by rfl, ?_⟩) (by assumption) ?_; rotate_left 1; (focus (intro w hSw; (try dsimp only at hSw); go_simp; (try with_reducible rfl))); (try simp only [Act.put, List.setIfInBounds_toArray, List.set_cons_zero, List.set_cons_succ])
            refine wpAnyH_take (i := 19) (v := ?_) rfl (by kernel_rfl) (by kernel_rfl) (by kernel_rfl) (fun _ _ _ h => h) (Or.inl ⟨by rfl, ?_⟩) (by assumption) ?_; rotate_left 1; (focus (intro w hSw; (try dsimp only at hSw); go_simp; (try with_reducible rfl))); (try simp only [Act.put, List.setIfInBounds_toArray, List.set_cons_zero, List.set_cons_succ])
            refine wpAnyH_take (i := 20) (v := ?_) rfl (by kernel_rfl) (by kernel_rfl) (by kernel_rfl) (fun _ _ _ h => h) (Or.inl ⟨by rfl, ?_⟩) (by assumption) ?_; rotate_left 1; (focus (intro w hSw; (try dsimp only at hSw); go_simp; (try with_reducible rfl))); (try simp only [Act.put, List.setIfInBounds_toArray, List.set_cons_zero, List.set_cons_succ])
            refine wpAnyH_take (i := 21) (v := ?_) rfl (by kernel_rfl) (by kernel_rfl) (by kernel_rfl) (fun _ _ _ h => h) (Or.inl ⟨by rfl, ?_⟩) (by assumption) ?_; rotate_left 1; (focus (intro w hSw; (try dsimp only at hSw); go_simp; (try with_reducible rfl))); (try simp only [Act.put, List.setIfInBounds_toArray, List.set_cons_zero, List.set_cons_succ])
            refine wpAnyH_take (i := 22) (v := ?_) rfl (by kernel_rfl) (by kernel_rfl) (by kernel_rfl) (fun _ _ _ h => h) (Or.inl ⟨by rfl, ?_⟩) (by assumption) ?_; rotate_left 1; (focus (intro w hSw; (try dsimp only at hSw); go_simp; (try with_reducible rfl))); (try simp only [Act.put, List.setIfInBounds_toArray, List.set_cons_zero, List.set_cons_succ])
            refine wpAnyH_take (i := 23) (v := ?_) rfl (by kernel_rfl) (by kernel_rfl) (by kernel_rfl) (fun _ _ _ h => h) (Or.inl ⟨by rfl, ?_⟩) (by assumption) ?_; rotate_left 1; (focus (intro w hSw; (try dsimp only at hSw); go_simp; (try with_reducible rfl))); (try simp only [Act.put, List.setIfInBounds_toArray, List.set_cons_zero, List.set_cons_succ])
            refine wpAnyH_take (i := 24) (v := ?_) rfl (by kernel_rfl) (by kernel_rfl) (by kernel_rfl) (fun _ _ _ h => h) (Or.inl ⟨by rfl, ?_⟩) (by assumption) ?_; rotate_left 1; (focus (intro w hSw; (try dsimp only at hSw); go_simp; (try with_reducible rfl))); (try simp only [Act.put, List.setIfInBounds_toArray, List.set_cons_zero, List.set_cons_succ])
            refine wpAnyH_take (i := 25) (v := ?_) rfl (by kernel_rfl) (by kernel_rfl) (by kernel_rfl) (fun _ _ _ h => h) (Or.inl ⟨by rfl, ?_⟩) (by assumption) ?_; rotate_left 1; (focus (intro w hSw; (try dsimp only at hSw); go_simp; (try with_reducible rfl))); (try simp only [Act.put, List.setIfInBounds_toArray, List.set_cons_zero, List.set_cons_succ])
            refine wpAnyH_take (i := 26) (v := ?_) rfl (by kernel_rfl) (by kernel_rfl) (by kernel_rfl) (fun _ _ _ h => h) (Or.inl ⟨by rfl, ?_⟩) (by assumption) ?_; rotate_left 1; (focus (intro w hSw; (try dsimp only at hSw); go_simp; (try with_reducible rfl))); (try simp only [Act.put, List.setIfInBounds_toArray, List.set_cons_zero, List.set_cons_succ])
            refine wpAnyH_take (i := 27) (v := ?_) rfl (by kernel_rfl) (by kernel_rfl) (by kernel_rfl) (fun _ _ _ h => h) (Or.inl ⟨by rfl, ?_⟩) (by assumption) ?_; rotate_left 1; (focus (intro w hSw; (try dsimp only at hSw); go_simp; (try with_reducible rfl))); (try simp only [Act.put, List.setIfInBounds_toArray, List.set_cons_zero, List.set_cons_succ])
            refine wpAnyH_take (i := 28) (v := ?_) rfl (by kernel_rfl) (by kernel_rfl) (by kernel_rfl) (fun _ _ _ h => h) (Or.inl ⟨by rfl, ?_⟩) (by assumption) ?_; rotate_left 1; (focus (intro w hSw; (try dsimp only at hSw); go_simp; (try with_reducible rfl))); (try simp only [Act.put, List.setIfInBounds_toArray, List.set_cons_zero, List.set_cons_succ])
            refine wpAnyH_take (i := 29) (v := ?_) rfl (by kernel_rfl) (by kernel_rfl) (by kernel_rfl) (fun _ _ _ h => h) (Or.inl ⟨by rfl, ?_⟩) (by assumption) ?_; rotate_left 1; (focus (intro w hSw; (try dsimp only at hSw); go_simp; (try with_reducible rfl))); (try simp only [Act.put, List.setIfInBounds_toArray, List.set_cons_zero, List.set_cons_succ])
            refine wpAnyH_ready (rs := [30]) (by kernel_rfl) (by simp) ?_
            refine AllReadyH.cons rfl (fun K hK => ?_) AllReadyH.nil
            go_simp
            refine hK.out _ _ (S1.out _) (fun hHeld => ?_); clear hK K
            refine wpAnyH_ready (rs := [31]) (by kernel_rfl) (by simp) ?_
            refine AllReadyH.cons rfl (fun K hK => ?_) AllReadyH.nil
            refine step_append_lies _ (by rfl) _ _ _ (by rfl) 0 38 i0 _ 5 40 Try.underlying39 hi0 hz0 hz1 hz2 rfl (by omega) (.slice va 0 vc) 0 (([] : List Sp).map csp).flatten (by rfl) (RW.out _) ⟨_, 0, none⟩ 1 1 (csp ⟨mm, ff, 50 + (i : Int), 5 + ho, 3⟩) (by rfl) (by rfl) (World.news_of_block (cs := (csp ⟨mm, ff, 50 + (i : Int), 5 + ho, 3⟩).toArray) (t := 38) (fr := (0, 0)) (heap_alloc_new _ _)) (csp_enc.one _) (by omega) (by unfold maxLen; omega) (by omega) (Nat.zero_le _) _ rfl ?_; intro g1 cap1 w9 hown hgrow hat hlt9; have S9 := Lib.hid (PU.out _ g1 cap1 w9 hown hgrow (hat.imp id (fun h => by rw [h]; simp))); clear hown hgrow hat
            refine hK.out _ _ (mkS.out [_, _, _] _ S9.out) (fun hHeld => ?_); clear hK K
            refine wpAnyH_take (i := 32) (v := ?_) rfl (by kernel_rfl) (by kernel_rfl) (by kernel_rfl) (fun _ _ _ h => h) (Or.inl ⟨by rfl, ?_⟩) (by assumption) ?_; rotate_left 1; (focus (intro w hSw; (try dsimp only at hSw); go_simp; (try with_reducible rfl))); (try simp only [Act.put, List.setIfInBounds_toArray, List.set_cons_zero, List.set_cons_succ])
            refine wpAnyH_done (by kernel_rfl) ?_ _
            clear mkS S0 S1
            clear p0 p1 p2 p3 pl h0 h1 h2 hf hll zc zl
            clear RW PU SH
            have SH := S9
            clear S9
            generalize hB2 : ([] : List Sp) ++ [(⟨mm, ff, 50 + (i : Int), 5 + ho, 3⟩ : Sp)] = b2 at *
            have hl2 : b2.length = 0 + 1 := by rw [← hB2]; simp
            have P := SH.out.cs (b := w.heap.size) (vs := [.slice q0 m0 k0, .slice q1 m1 k1, .bool true, .slice (some ⟨bz, oz, none⟩) len kz]) (.tail _ (.tail _ (.tail _ (.head _))))
            have p0 := P.cell 0 _ rfl
            have p1 := P.cell 1 _ rfl
            have p2 := P.cell 2 _ rfl
            have p3 := P.cell 3 _ rfl
            have pl := P.lt
            have Q := SH.out.cs (b := gh) (vs := [.int .u32 (10 + (i : Int)), .int .u16 7, .int .i64 0]) (.head _)
            have h0 := Q.cell 0 _ rfl
            have h1 := Q.cell 1 _ rfl
            have h2 := Q.cell 2 _ rfl
            have hf := Q.free 2 _ rfl
            have hll := Q.lt
            have zc := (ZC.out _ SH.out.below).1
            have zl := (ZC.out _ SH.out.below).2
            clear P Q
            have zg : decide (240 < z) = true := decide_eq_true (by omega)
            go_upto_region 14 with fail
            have s3 := SH.out.setc [] _ 2 (.int .i64 1) (by simp)
            replace s3 := s3.setc [] _ 2 (.int .i64 0) (by simp)
            replace s3 : St w (hC gh [.int .u32 (10 + (i : Int)), .int .u16 7, .int .i64 0] :: _) ((w9.setCell ⟨gh, 2, none⟩ (.int .i64 1)).setCell ⟨gh, 2, none⟩ (.int .i64 0)) := s3
            clear p0 p1 p2 p3 pl h0 h1 h2 hf hll zc zl
            generalize ((w9.setCell ⟨gh, 2, none⟩ (.int .i64 1)).setCell ⟨gh, 2, none⟩ (.int .i64 0)) = w3 at *
            have S3 := Lib.hid s3
            clear s3 SH
            have P := S3.out.cs (b := w.heap.size) (vs := [.slice q0 m0 k0, .slice q1 m1 k1, .bool true, .slice (some ⟨bz, oz, none⟩) len kz]) (.tail _ (.tail _ (.tail _ (.head _))))
            have p0 := P.cell 0 _ rfl
            have p1 := P.cell 1 _ rfl
            have p2 := P.cell 2 _ rfl
            have p3 := P.cell 3 _ rfl
            have pl := P.lt
            have Q := S3.out.cs (b := gh) (vs := [.int .u32 (10 + (i : Int)), .int .u16 7, .int .i64 0]) (.head _)
            have h0 := Q.cell 0 _ rfl
            have h1 := Q.cell 1 _ rfl
            have h2 := Q.cell 2 _ rfl
            have hf := Q.free 2 _ rfl
            have hll := Q.lt
            have zc := (ZC.out _ S3.out.below).1
            have zl := (ZC.out _ S3.out.below).2
            clear P Q
            obtain ⟨j0, hj0, hy0, hy1, hy2⟩ := info_parts info_host
            have OW := Lib.hid (fun o => (S3.out.alloc o).rowW (c := cho) (z := 3) (T := 34) (u := ⟨ua, i + 1, uc⟩) (L := hs) (by simp) rfl hhl)
            go_wp2_with (at_builtin; refine wpList_append_lies _ rfl (.tmp 88) (.tmp 90) 35 rfl 0 34 j0 _ 3 16 Try.underlying35 hj0 hy0 hy1 hy2 rfl (by omega) (.slice ua (i + 1) uc) (i + 1) (hs.map cho).flatten rfl (OW.out _) ⟨_, 0, none⟩ 1 1 (cho ⟨10 + (i : Int), 7, 0⟩) rfl rfl (World.news_of_block (cs := (cho ⟨10 + (i : Int), 7, 0⟩).toArray) (t := 34) (fr := (0, 0)) (heap_alloc_new _ _)) (cho_enc.one _) (by omega) ?c2_2 ?c2_3 ?c2_4 _ rfl ?_)
            case c2_2 => unfold maxLen; omega
            case c2_3 => omega
            (try case c2_4 => exact Nat.zero_le _)
            intro g2 cap2 w10 hown hgrow hat hlt10
            have S4 := Lib.hid (St.pushW (x := (⟨10 + (i : Int), 7, 0⟩ : Ho)) [_, _] _ (S3.out.alloc (.cells (cho ⟨10 + (i : Int), 7, 0⟩).toArray 34)) hhl.symm hown hgrow (hat.imp id (fun h => by rw [h]; simp)))
            have HH := Lib.hid hhl
            clear hown hgrow hat OW S3
            clear p0 p1 p2 p3 pl h0 h1 h2 hf hll zc zl
            have EP : plS zs (i + 1) = (hs ++ [(⟨10 + (i : Int), 7, 0⟩ : Ho)], b2) := by rw [ESH.out, (show plH (plB ([] : List Sp) i z) i z = ⟨10 + (i : Int), 7, 0⟩ by rw [EB.out]; unfold plH; rw [if_pos (by omega : z > 240)]; first | done | (simp; done) | (simp; omega)), EB.out]
            have EPH := Lib.hid EP
            clear EP ESH EB
            have HL2 := Lib.hid hl2
            clear hB2 hl2
            go_wp2
            go_roundw
            case rel => exact ⟨i + 1, ⟨some ⟨g2, 0, none⟩, i + 1 + 1, cap2⟩, ⟨some ⟨g1, 0, none⟩, 0 + 1, cap1⟩, by have := HI.out; omega, by go_num, rfl, rfl, by rw [EPH.out]; simp only; rw [HL2.out], by rw [EPH.out]; simp only; rw [HL2.out], by rw [EPH.out]; exact S4.out.sub (by simp)⟩
            case measure => simp [intOf]; have := HI.out; omega
          · have EC : ¬ (z % 4 > 0 ∨ bs = []) := by rintro (h | h); omega; exact hbs h
            have k6 : 0 < bs.length := List.length_pos_iff.2 hbs
            have k7 : decide ((bs.length : Int) = 0) = false := decide_eq_false (by omega)
            clear hbs
            have pl0 := pl
            go_upto_region 9 with fail
            clear p0 p1 p2 p3 pl
            have hgp : w.heap.size < wr.heap.size := pl0
            have s1 := SH.out
            clear SH
            change St w (hC wr.heap.size [.int .u32 (10 + (i : Int)), .int .u16 7, .int .i64 0] :: _) (wr.alloc (.cells #[.int .u32 (10 + (i : Int)), .int .u16 7, .int .i64 0] 34)) at s1
            generalize (wr.alloc (.cells #[.int .u32 (10 + (i : Int)), .int .u16 7, .int .i64 0] 34)) = w2 at *
            generalize wr.heap.size = gh at *
            have SH := Lib.hid s1
            clear s1 pl0
            have ne1 : ¬ gh = w.heap.size := by omega
            have ne2 : ¬ w.heap.size = gh := by omega
            have ne3 : ¬ gh = bz := by have := HBZ.out; omega
            have ne4 : ¬ bz = gh := by have := HBZ.out; omega
            have P := SH.out.cs (b := w.heap.size) (vs := [.slice q0 m0 k0, .slice q1 m1 k1, .bool true, .slice (some ⟨bz, oz, none⟩) len kz]) (.tail _ (.tail _ (.tail _ (.head _))))
            have p0 := P.cell 0 _ rfl
            have p1 := P.cell 1 _ rfl
            have p2 := P.cell 2 _ rfl
            have p3 := P.cell 3 _ rfl
            have pl := P.lt
            have Q := SH.out.cs (b := gh) (vs := [.int .u32 (10 + (i : Int)), .int .u16 7, .int .i64 0]) (.head _)
            have h0 := Q.cell 0 _ rfl
            have h1 := Q.cell 1 _ rfl
            have h2 := Q.cell 2 _ rfl
            have hf := Q.free 2 _ rfl
            have hll := Q.lt
            have zc := (ZC.out _ SH.out.below).1
            have zl := (ZC.out _ SH.out.below).2
            clear P Q
            have EB := Lib.hid (show plB bs i z = bs by unfold plB; rw [if_neg EC])
            clear EC
            have zg : decide (240 < z) = true := decide_eq_true (by omega)
            go_upto_region 14 with fail
            have s3 := SH.out.setc [] _ 2 (.int .i64 (bs.length : Int)) (by simp)
            replace s3 := s3.setc [] _ 2 (.int .i64 0) (by simp)
            replace s3 : St w (hC gh [.int .u32 (10 + (i : Int)), .int .u16 7, .int .i64 0] :: _) ((w2.setCell ⟨gh, 2, none⟩ (.int .i64 (bs.length : Int))).setCell ⟨gh, 2, none⟩ (.int .i64 0)) := s3
            clear p0 p1 p2 p3 pl h0 h1 h2 hf hll zc zl
            generalize ((w2.setCell ⟨gh, 2, none⟩ (.int .i64 (bs.length : Int))).setCell ⟨gh, 2, none⟩ (.int .i64 0)) = w3 at *
            have S3 := Lib.hid s3
            clear s3 SH
            have P := S3.out.cs (b := w.heap.size) (vs := [.slice q0 m0 k0, .slice q1 m1 k1, .bool true, .slice (some ⟨bz, oz, none⟩) len kz]) (.tail _ (.tail _ (.tail _ (.head _))))
            have p0 := P.cell 0 _ rfl
            have p1 := P.cell 1 _ rfl
            have p2 := P.cell 2 _ rfl
            have p3 := P.cell 3 _ rfl
            have pl := P.lt
            have Q := S3.out.cs (b := gh) (vs := [.int .u32 (10 + (i : Int)), .int .u16 7, .int .i64 0]) (.head _)
            have h0 := Q.cell 0 _ rfl
            have h1 := Q.cell 1 _ rfl
            have h2 := Q.cell 2 _ rfl
            have hf := Q.free 2 _ rfl
            have hll := Q.lt
            have zc := (ZC.out _ S3.out.below).1
            have zl := (ZC.out _ S3.out.below).2
            clear P Q
            obtain ⟨j0, hj0, hy0, hy1, hy2⟩ := info_parts info_host
            have OW := Lib.hid (fun o => (S3.out.alloc o).rowW (c := cho) (z := 3) (T := 34) (u := ⟨ua, i + 1, uc⟩) (L := hs) (by simp) rfl hhl)
            go_wp2_with (at_builtin; refine wpList_append_lies _ rfl (.tmp 88) (.tmp 90) 35 rfl 0 34 j0 _ 3 16 Try.underlying35 hj0 hy0 hy1 hy2 rfl (by omega) (.slice ua (i + 1) uc) (i + 1) (hs.map cho).flatten rfl (OW.out _) ⟨_, 0, none⟩ 1 1 (cho ⟨10 + (i : Int), 7, 0⟩) rfl rfl (World.news_of_block (cs := (cho ⟨10 + (i : Int), 7, 0⟩).toArray) (t := 34) (fr := (0, 0)) (heap_alloc_new _ _)) (cho_enc.one _) (by omega) ?c3_2 ?c3_3 ?c3_4 _ rfl ?_)
            case c3_2 => unfold maxLen; omega
            case c3_3 => omega
            (try case c3_4 => exact Nat.zero_le _)
            intro g2 cap2 w10 hown hgrow hat hlt10
            have S4 := Lib.hid (St.pushW (x := (⟨10 + (i : Int), 7, 0⟩ : Ho)) [_, _] _ (S3.out.alloc (.cells (cho ⟨10 + (i : Int), 7, 0⟩).toArray 34)) hhl.symm hown hgrow (hat.imp id (fun h => by rw [h]; simp)))
            have HH := Lib.hid hhl
            clear hown hgrow hat OW S3
            clear p0 p1 p2 p3 pl h0 h1 h2 hf hll zc zl
            have EP : plS zs (i + 1) = (hs ++ [(⟨10 + (i : Int), 7, 0⟩ : Ho)], bs) := by rw [ESH.out, (show plH (plB bs i z) i z = ⟨10 + (i : Int), 7, 0⟩ by rw [EB.out]; unfold plH; rw [if_pos (by omega : z > 240)]; first | done | (simp; done) | (simp; omega)), EB.out]
            have EPH := Lib.hid EP
            clear EP ESH EB
            go_wp2
            go_roundw
            case rel => exact ⟨i + 1, ⟨some ⟨g2, 0, none⟩, i + 1 + 1, cap2⟩, ⟨va, bs.length, vc⟩, by have := HI.out; omega, by go_num, rfl, rfl, by rw [EPH.out], by rw [EPH.out], by rw [EPH.out]; exact S4.out.sub (by simp)⟩
            case measure => simp [intOf]; have := HI.out; omega
      · by_cases k4 : 0 < z4
        · have EC : z % 4 > 0 ∨ bs = [] := .inl (by omega)
          have k5 : decide (0 < z4) = true := decide_eq_true k4
          have pl0 := pl
          go_upto_region 9 with fail
          clear p0 p1 p2 p3 pl
          have hgp : w.heap.size < wr.heap.size := pl0
          have s1 := SH.out
          clear SH
          change St w (hC wr.heap.size [.int .u32 (10 + (i : Int)), .int .u16 7, .int .i64 0] :: _) (wr.alloc (.cells #[.int .u32 (10 + (i : Int)), .int .u16 7, .int .i64 0] 34)) at s1
          generalize (wr.alloc (.cells #[.int .u32 (10 + (i : Int)), .int .u16 7, .int .i64 0] 34)) = w2 at *
          generalize wr.heap.size = gh at *
          have SH := Lib.hid s1
          clear s1 pl0
          have ne1 : ¬ gh = w.heap.size := by omega
          have ne2 : ¬ w.heap.size = gh := by omega
          have ne3 : ¬ gh = bz := by have := HBZ.out; omega
          have ne4 : ¬ bz = gh := by have := HBZ.out; omega
          have P := SH.out.cs (b := w.heap.size) (vs := [.slice q0 m0 k0, .slice q1 m1 k1, .bool true, .slice (some ⟨bz, oz, none⟩) len kz]) (.tail _ (.tail _ (.tail _ (.head _))))
          have p0 := P.cell 0 _ rfl
          have p1 := P.cell 1 _ rfl
          have p2 := P.cell 2 _ rfl
          have p3 := P.cell 3 _ rfl
          have pl := P.lt
          have Q := SH.out.cs (b := gh) (vs := [.int .u32 (10 + (i : Int)), .int .u16 7, .int .i64 0]) (.head _)
          have h0 := Q.cell 0 _ rfl
          have h1 := Q.cell 1 _ rfl
          have h2 := Q.cell 2 _ rfl
          have hf := Q.free 2 _ rfl
          have hll := Q.lt
          have zc := (ZC.out _ SH.out.below).1
          have zl := (ZC.out _ SH.out.below).2
          clear P Q
          have EB := Lib.hid (show plB bs i z = bs ++ [⟨mm, ff, 50 + (i : Int), 5 + ho, 3⟩] by unfold plB; rw [if_pos EC, hmm, hff, hho])
          clear EC
          obtain ⟨i0, hi0, hz0, hz1, hz2⟩ := info_parts info_spec
          have RW := Lib.hid (fun o => (SH.out.alloc o).drew.rowW (c := csp) (z := 5) (T := 38) (u := ⟨va, bs.length, vc⟩) (L := bs) (by simp) rfl rfl)
          have PU := Lib.hid (fun o g1 cap1 w9 hown hgrow hat => St.pushW (w' := w9) (g := g1) (cap := cap1) (x := (⟨mm, ff, 50 + (i : Int), 5 + ho, 3⟩ : Sp)) [_] _ (SH.out.alloc o).drew rfl hown hgrow hat)
          go_upto_region 10 with fail
          have mkS : Hid (∀ (H : List Hl) w', St w (H ++ [hC w.heap.size [.slice q0 m0 k0, .slice q1 m1 k1, .bool true, .slice (some ⟨bz, oz, none⟩) len kz]]) w' → w'.cell? ⟨w.heap.size, 3, none⟩ = some (.slice (some ⟨bz, oz, none⟩) len kz) ∧ w'.cell? ⟨bz, oz + i, none⟩ = some (.int .u8 z)) := fun H w' s => ⟨(s.cs (b := w.heap.size) (vs := [.slice q0 m0 k0, .slice q1 m1 k1, .bool true, .slice (some ⟨bz, oz, none⟩) len kz]) (by simp)).cell 3 _ rfl, (ZC.out _ s.below).1⟩
          have S0 := Lib.hid (mkS.out [_, _, _] _ SH.out.drew)
          have S1 := Lib.hid (fun o => mkS.out [_, _, _] _ (SH.out.alloc o).drew)
          refine wp_region_held_drew (S := (fun w' => w'.cell? ⟨w.heap.size, 3, none⟩ = some (.slice (some ⟨bz, oz, none⟩) len kz) ∧ w'.cell? ⟨bz, oz + i, none⟩ = some (.int .u8 z))) (by kernel_rfl) S0.out (fun hHeld => ?_)
          refine wpAnyH_take (i := 0) (v := ?_) rfl (by kernel_rfl) (by kernel_rfl) (by kernel_rfl) (fun _ _ _ h => h) (Or.inl ⟨by rfl, ?_⟩) (by assumption) ?_; rotate_left 1; (focus (intro w hSw; (try dsimp only at hSw); go_simp; (try with_reducible rfl))); (try simp only [Act.put, List.setIfInBounds_toArray, List.set_cons_zero, List.set_cons_succ])
          refine wpAnyH_take (i := 1) (v := ?_) rfl (by kernel_rfl) (by kernel_rfl) (by kernel_rfl) (fun _ _ _ h => h) (Or.inl ⟨by rfl, ?_⟩) (by assumption) ?_; rotate_left 1; (focus (intro w hSw; (try dsimp only at hSw); go_simp; (try with_reducible rfl))); (try simp only [Act.put, List.setIfInBounds_toArray, List.set_cons_zero, List.set_cons_succ])
          refine wpAnyH_take (i := 2) (v := ?_) rfl (by kernel_rfl) (by kernel_rfl) (by kernel_rfl) (fun _ _ _ h => h) (Or.inl ⟨by rfl, ?_⟩) (by assumption) ?_; rotate_left 1; (focus (intro w hSw; (try dsimp only at hSw); go_simp; (try with_reducible rfl))); (try simp only [Act.put, List.setIfInBounds_toArray, List.set_cons_zero, List.set_cons_succ])
          refine wpAnyH_take (i := 3) (v := ?_) rfl (by kernel_rfl) (by kernel_rfl) (by kernel_rfl) (fun _ _ _ h => h) (Or.inl ⟨by rfl, ?_⟩) (by assumption) ?_; rotate_left 1; (focus (intro w hSw; (try dsimp only at hSw); go_simp; (try with_reducible rfl))); (try simp only [Act.put, List.setIfInBounds_toArray, List.set_cons_zero, List.set_cons_succ])
          refine wpAnyH_take (i := 4) (v := ?_) rfl (by kernel_rfl) (by kernel_rfl) (by kernel_rfl) (fun _ _ _ h => h) (Or.inl ⟨by rfl, ?_⟩) (by assumption) ?_; rotate_left 1; (focus (intro w hSw; (try dsimp only at hSw); go_simp; (try with_reducible rfl))); (try simp only [Act.put, List.setIfInBounds_toArray, List.set_cons_zero, List.set_cons_succ])
          refine wpAnyH_take (i := 5) (v := ?_) rfl (by kernel_rfl) (by kernel_rfl) (by kernel_rfl) (fun _ _ _ h => h) (Or.inl ⟨by rfl, ?_⟩) (by assumption) ?_; rotate_left 1; (focus (intro w hSw; (try dsimp only at hSw); go_simp; (try with_reducible rfl))); (try simp only [Act.put, List.setIfInBounds_toArray, List.set_cons_zero, List.set_cons_succ])
          refine wpAnyH_take (i := 6) (v := ?_) rfl (by kernel_rfl) (by kernel_rfl) (by kernel_rfl) (fun _ _ _ h => h) (Or.inl ⟨by rfl, ?_⟩) (by assumption) ?_; rotate_left 1; (focus (intro w hSw; (try dsimp only at hSw); go_simp; (try with_reducible rfl))); (try simp only [Act.put, List.setIfInBounds_toArray, List.set_cons_zero, List.set_cons_succ])
          refine wpAnyH_take (i := 7) (v := ?_) rfl (by kernel_rfl) (by kernel_rfl) (by kernel_rfl) (fun _ _ _ h => h) (Or.inl ⟨by rfl, ?_⟩) (by assumption) ?_; rotate_left 1; (focus (intro w hSw; (try dsimp only at hSw); go_simp; (try with_reducible rfl))); (try simp only [Act.put, List.setIfInBounds_toArray, List.set_cons_zero, List.set_cons_succ])
          refine wpAnyH_take (i := 8) (v := ?_) rfl (by kernel_rfl) (by kernel_rfl) (by kernel_rfl) (fun _ _ _ h => h) (Or.inl ⟨by rfl, ?_⟩) (by assumption) ?_; rotate_left 1; (focus (intro w hSw; (try dsimp only at hSw); go_simp; (try with_reducible rfl))); (try simp only [Act.put, List.setIfInBounds_toArray, List.set_cons_zero, List.set_cons_succ])
          refine wpAnyH_take (i := 9) (v := ?_) rfl (by kernel_rfl) (by kernel_rfl) (by kernel_rfl) (fun _ _ _ h => h) (Or.inl ⟨by rfl, ?_⟩) (by assumption) ?_; rotate_left 1; (focus (intro w hSw; (try dsimp only at hSw); go_simp; (try with_reducible rfl))); (try simp only [Act.put, List.setIfInBounds_toArray, List.set_cons_zero, List.set_cons_succ])
          refine wpAnyH_take (i := 10) (v := ?_) rfl (by kernel_rfl) (by kernel_rfl) (by kernel_rfl) (fun _ _ _ h => h) (Or.inl ⟨by rfl, ?_⟩) (by assumption) ?_; rotate_left 1; (focus (intro w hSw; (try dsimp only at hSw); go_simp; (try with_reducible rfl))); (try simp only [Act.put, List.setIfInBounds_toArray, List.set_cons_zero, List.set_cons_succ])
          refine wpAnyH_take (i := 11) (v := ?_) rfl (by kernel_rfl) (by kernel_rfl) (by kernel_rfl) (fun _ _ _ h => h) (Or.inl ⟨by rfl, ?_⟩) (by assumption) ?_; rotate_left 1; (focus (intro w hSw; (try dsimp only at hSw); go_simp; (try with_reducible rfl))); (try simp only [Act.put, List.setIfInBounds_toArray, List.set_cons_zero, List.set_cons_succ])
          refine wpAnyH_take (i := 12) (v := ?_) rfl (by kernel_rfl) (by kernel_rfl) (by kernel_rfl) (fun _ _ _ h => h) (Or.inl ⟨by rfl, ?_⟩) (by assumption) ?_; rotate_left 1; (focus (intro w hSw; (try dsimp only at hSw); go_simp; (try with_reducible rfl))); (try simp only [Act.put, List.setIfInBounds_toArray, List.set_cons_zero, List.set_cons_succ])
          refine wpAnyH_take (i := 13) (v := ?_) rfl (by kernel_rfl) (by kernel_rfl) (by kernel_rfl) (fun _ _ _ h => h) (Or.inl ⟨by rfl, ?_⟩) (by assumption) ?_; rotate_left 1; (focus (intro w hSw; (try dsimp only at hSw); go_simp; (try with_reducible rfl))); (try simp only [Act.put, List.setIfInBounds_toArray, List.set_cons_zero, List.set_cons_succ])
          refine wpAnyH_take (i := 14) (v := ?_) rfl (by kernel_rfl) (by kernel_rfl) (by kernel_rfl) (fun _ _ _ h => h) (Or.inl ⟨by rfl, ?_⟩) (by assumption) ?_; rotate_left 1; (focus (intro w hSw; (try dsimp only at hSw); go_simp; (try with_reducible rfl))); (try simp only [Act.put, List.setIfInBounds_toArray, List.set_cons_zero, List.set_cons_succ])
          refine wpAnyH_take (i := 15) (v := ?_) rfl (by kernel_rfl) (by kernel_rfl) (by kernel_rfl) (fun _ _ _ h => h) (Or.inl ⟨by rfl, ?_⟩) (by assumption) ?_; rotate_left 1; (focus (intro w hSw; (try dsimp only at hSw); go_simp; (try with_reducible rfl))); (try simp only [Act.put, List.setIfInBounds_toArray, List.set_cons_zero, List.set_cons_succ])
          refine wpAnyH_take (i := 16) (v := ?_) rfl (by kernel_rfl) (by kernel_rfl) (by kernel_rfl) (fun _ _ _ h => h) (Or.inl ⟨by rfl, ?_⟩) (by assumption) ?_; rotate_left 1; (focus (intro w hSw; (try dsimp only at hSw); go_simp; (try with_reducible rfl))); (try simp only [Act.put, List.setIfInBounds_toArray, List.set_cons_zero, List.set_cons_succ])
          refine wpAnyH_take (i := 17) (v := ?_) rfl (by kernel_rfl) (by kernel_rfl) (by kernel_rfl) (fun _ _ _ h => h) (Or.inl ⟨by rfl, ?_⟩) (by assumption) ?_; rotate_left 1; (focus (intro w hSw; (try dsimp only at hSw); go_simp; (try with_reducible rfl))); (try simp only [Act.put, List.setIfInBounds_toArray, List.set_cons_zero, List.set_cons_succ])
          refine wpAnyH_take (i := 18) (v := ?_) rfl (by kernel_rfl) (by kernel_rfl) (by kernel_rfl) (fun _ _ _ h => h) (Or.inl ⟨by rfl, ?_⟩) (by assumption) ?_; rotate_left 1; (focus (intro w hSw; (try dsimp only at hSw); go_simp; (try with_reducible rfl))); (try simp only [Act.put, List.setIfInBounds_toArray, List.set_cons_zero, List.set_cons_succ])
          refine wpAnyH_take (i := 19) (v := ?_) rfl (by kernel_rfl) (by kernel_rfl) (by kernel_rfl) (fun _ _ _ h => h) (Or.inl ⟨by rfl, ?_⟩) (by assumption) ?_; rotate_left 1; (focus (intro w hSw; (try dsimp only at hSw); go_simp; (try with_reducible rfl))); (try simp only [Act.put, List.setIfInBounds_toArray, List.set_cons_zero, List.set_cons_succ])
          refine wpAnyH_take (i := 20) (v := ?_) rfl (by kernel_rfl) (by kernel_rfl) (by kernel_rfl) (fun _ _ _ h => h) (Or.inl ⟨by rfl, ?_⟩) (by assumption) ?_; rotate_left 1; (focus (intro w hSw; (try dsimp only at hSw); go_simp; (try with_reducible rfl))); (try simp only [Act.put, List.setIfInBounds_toArray, List.set_cons_zero, List.set_cons_succ])
          refine wpAnyH_take (i := 21) (v := ?_) rfl (by kernel_rfl) (by kernel_rfl) (by kernel_rfl) (fun _ _ _ h => h) (Or.inl ⟨by rfl, ?_⟩) (by assumption) ?_; rotate_left 1; (focus (intro w hSw; (try dsimp only at hSw); go_simp; (try with_reducible rfl))); (try simp only [Act.put, List.setIfInBounds_toArray, List.set_cons_zero, List.set_cons_succ])
          refine wpAnyH_take (i := 22) (v := ?_) rfl (by kernel_rfl) (by kernel_rfl) (by kernel_rfl) (fun _ _ _ h => h) (Or.inl ⟨by rfl, ?_⟩) (by assumption) ?_; rotate_left 1; (focus (intro w hSw; (try dsimp only at hSw); go_simp; (try with_reducible rfl))); (try simp only [Act.put, List.setIfInBounds_toArray, List.set_cons_zero, List.set_cons_succ])
          refine wpAnyH_take (i := 23) (v := ?_) rfl (by kernel_rfl) (by kernel_rfl) (by kernel_rfl) (fun _ _ _ h => h) (Or.inl ⟨by rfl, ?_⟩) (by assumption) ?_; rotate_left 1; (focus (intro w hSw; (try dsimp only at hSw); go_simp; (try with_reducible rfl))); (try simp only [Act.put, List.setIfInBounds_toArray, List.set_cons_zero, List.set_cons_succ])
          refine wpAnyH_take (i := 24) (v := ?_) rfl (by kernel_rfl) (by kernel_rfl) (by kernel_rfl) (fun _ _ _ h => h) (Or.inl ⟨by rfl, ?_⟩) (by assumption) ?_; rotate_left 1; (focus (intro w hSw; (try dsimp only at hSw); go_simp; (try with_reducible rfl))); (try simp only [Act.put, List.setIfInBounds_toArray, List.set_cons_zero, List.set_cons_succ])
          refine wpAnyH_take (i := 25) (v := ?_) rfl (by kernel_rfl) (by kernel_rfl) (by kernel_rfl) (fun _ _ _ h => h) (Or.inl ⟨by rfl, ?_⟩) (by assumption) ?_; rotate_left 1; (focus (intro w hSw; (try dsimp only at hSw); go_simp; (try with_reducible rfl))); (try simp only [Act.put, List.setIfInBounds_toArray, List.set_cons_zero, List.set_cons_succ])
          refine wpAnyH_take (i := 26) (v := ?_) rfl (by kernel_rfl) (by kernel_rfl) (by kernel_rfl) (fun _ _ _ h => h) (Or.inl ⟨by rfl, ?_⟩) (by assumption) ?_; rotate_left 1; (focus (intro w hSw; (try dsimp only at hSw); go_simp; (try with_reducible rfl))); (try simp only [Act.put, List.setIfInBounds_toArray, List.set_cons_zero, List.set_cons_succ])
          refine wpAnyH_take (i := 27) (v := ?_) rfl (by kernel_rfl) (by kernel_rfl) (by kernel_rfl) (fun _ _ _ h => h) (Or.inl ⟨by rfl, ?_⟩) (by assumption) ?_; rotate_left 1; (focus (intro w hSw; (try dsimp only at hSw); go_simp; (try with_reducible rfl))); (try simp only [Act.put, List.setIfInBounds_toArray, List.set_cons_zero, List.set_cons_succ])
          refine wpAnyH_take (i := 28) (v := ?_) rfl (by kernel_rfl) (by kernel_rfl) (by kernel_rfl) (fun _ _ _ h => h) (Or.inl ⟨by rfl, ?_⟩) (by assumption) ?_; rotate_left 1; (focus (intro w hSw; (try dsimp only at hSw); go_simp; (try with_reducible rfl))); (try simp only [Act.put, List.setIfInBounds_toArray, List.set_cons_zero, List.set_cons_succ])
          refine wpAnyH_take (i := 29) (v := ?_) rfl (by kernel_rfl) (by kernel_rfl) (by kernel_rfl) (fun _ _ _ h => h) (Or.inl ⟨by rfl, ?_⟩) (by assumption) ?_; rotate_left 1; (focus (intro w hSw; (try dsimp only at hSw); go_simp; (try with_reducible rfl))); (try simp only [Act.put, List.setIfInBounds_toArray, List.set_cons_zero, List.set_cons_succ])
          refine wpAnyH_ready (rs := [30]) (by kernel_rfl) (by simp) ?_
          refine AllReadyH.cons rfl (fun K hK => ?_) AllReadyH.nil
          go_simp
          refine hK.out _ _ (S1.out _) (fun hHeld => ?_); clear hK K
          refine wpAnyH_ready (rs := [31]) (by kernel_rfl) (by simp) ?_
          refine AllReadyH.cons rfl (fun K hK => ?_) AllReadyH.nil
          refine step_append_lies _ (by rfl) _ _ _ (by rfl) 0 38 i0 _ 5 40 Try.underlying39 hi0 hz0 hz1 hz2 rfl (by omega) (.slice va bs.length vc) bs.length (bs.map csp).flatten (by rfl) (RW.out _) ⟨_, 0, none⟩ 1 1 (csp ⟨mm, ff, 50 + (i : Int), 5 + ho, 3⟩) (by rfl) (by rfl) (World.news_of_block (cs := (csp ⟨mm, ff, 50 + (i : Int), 5 + ho, 3⟩).toArray) (t := 38) (fr := (0, 0)) (heap_alloc_new _ _)) (csp_enc.one _) (by omega) (by unfold maxLen; omega) (by omega) (Nat.zero_le _) _ rfl ?_; intro g1 cap1 w9 hown hgrow hat hlt9; have S9 := Lib.hid (PU.out _ g1 cap1 w9 hown hgrow (hat.imp id (fun h => by rw [h]; simp))); clear hown hgrow hat
          refine hK.out _ _ (mkS.out [_, _, _] _ S9.out) (fun hHeld => ?_); clear hK K
          refine wpAnyH_take (i := 32) (v := ?_) rfl (by kernel_rfl) (by kernel_rfl) (by kernel_rfl) (fun _ _ _ h => h) (Or.inl ⟨by rfl, ?_⟩) (by assumption) ?_; rotate_left 1; (focus (intro w hSw; (try dsimp only at hSw); go_simp; (try with_reducible rfl))); (try simp only [Act.put, List.setIfInBounds_toArray, List.set_cons_zero, List.set_cons_succ])
          refine wpAnyH_done (by kernel_rfl) ?_ _
          clear mkS S0 S1
          clear p0 p1 p2 p3 pl h0 h1 h2 hf hll zc zl
          clear RW PU SH
          have SH := S9
          clear S9
          generalize hB2 : bs ++ [(⟨mm, ff, 50 + (i : Int), 5 + ho, 3⟩ : Sp)] = b2 at *
          have hl2 : b2.length = bs.length + 1 := by rw [← hB2]; simp
          have P := SH.out.cs (b := w.heap.size) (vs := [.slice q0 m0 k0, .slice q1 m1 k1, .bool true, .slice (some ⟨bz, oz, none⟩) len kz]) (.tail _ (.tail _ (.tail _ (.head _))))
          have p0 := P.cell 0 _ rfl
          have p1 := P.cell 1 _ rfl
          have p2 := P.cell 2 _ rfl
          have p3 := P.cell 3 _ rfl
          have pl := P.lt
          have Q := SH.out.cs (b := gh) (vs := [.int .u32 (10 + (i : Int)), .int .u16 7, .int .i64 0]) (.head _)
          have h0 := Q.cell 0 _ rfl
          have h1 := Q.cell 1 _ rfl
          have h2 := Q.cell 2 _ rfl
          have hf := Q.free 2 _ rfl
          have hll := Q.lt
          have zc := (ZC.out _ SH.out.below).1
          have zl := (ZC.out _ SH.out.below).2
          clear P Q
          have zg : decide (240 < z) = false := decide_eq_false (by omega)
          go_upto_region 14 with fail
          have s3 := SH.out.setc [] _ 2 (.int .i64 ((bs.length : Int) + 1)) (by simp)
          replace s3 : St w (hC gh [.int .u32 (10 + (i : Int)), .int .u16 7, .int .i64 ((bs.length : Int) + 1)] :: _) (w9.setCell ⟨gh, 2, none⟩ (.int .i64 ((bs.length : Int) + 1))) := s3
          clear p0 p1 p2 p3 pl h0 h1 h2 hf hll zc zl
          generalize (w9.setCell ⟨gh, 2, none⟩ (.int .i64 ((bs.length : Int) + 1))) = w3 at *
          have S3 := Lib.hid s3
          clear s3 SH
          have P := S3.out.cs (b := w.heap.size) (vs := [.slice q0 m0 k0, .slice q1 m1 k1, .bool true, .slice (some ⟨bz, oz, none⟩) len kz]) (.tail _ (.tail _ (.tail _ (.head _))))
          have p0 := P.cell 0 _ rfl
          have p1 := P.cell 1 _ rfl
          have p2 := P.cell 2 _ rfl
          have p3 := P.cell 3 _ rfl
          have pl := P.lt
          have Q := S3.out.cs (b := gh) (vs := [.int .u32 (10 + (i : Int)), .int .u16 7, .int .i64 ((bs.length : Int) + 1)]) (.head _)
          have h0 := Q.cell 0 _ rfl
          have h1 := Q.cell 1 _ rfl
          have h2 := Q.cell 2 _ rfl
          have hf := Q.free 2 _ rfl
          have hll := Q.lt
          have zc := (ZC.out _ S3.out.below).1
          have zl := (ZC.out _ S3.out.below).2
          clear P Q
          obtain ⟨j0, hj0, hy0, hy1, hy2⟩ := info_parts info_host
          have OW := Lib.hid (fun o => (S3.out.alloc o).rowW (c := cho) (z := 3) (T := 34) (u := ⟨ua, i + 1, uc⟩) (L := hs) (by simp) rfl hhl)
          go_wp2_with (at_builtin; refine wpList_append_lies _ rfl (.tmp 88) (.tmp 90) 35 rfl 0 34 j0 _ 3 16 Try.underlying35 hj0 hy0 hy1 hy2 rfl (by omega) (.slice ua (i + 1) uc) (i + 1) (hs.map cho).flatten rfl (OW.out _) ⟨_, 0, none⟩ 1 1 (cho ⟨10 + (i : Int), 7, ((bs.length : Int) + 1)⟩) rfl rfl (World.news_of_block (cs := (cho ⟨10 + (i : Int), 7, ((bs.length : Int) + 1)⟩).toArray) (t := 34) (fr := (0, 0)) (heap_alloc_new _ _)) (cho_enc.one _) (by omega) ?c4_2 ?c4_3 ?c4_4 _ rfl ?_)
          case c4_2 => unfold maxLen; omega
          case c4_3 => omega
          (try case c4_4 => exact Nat.zero_le _)
          intro g2 cap2 w10 hown hgrow hat hlt10
          have S4 := Lib.hid (St.pushW (x := (⟨10 + (i : Int), 7, ((bs.length : Int) + 1)⟩ : Ho)) [_, _] _ (S3.out.alloc (.cells (cho ⟨10 + (i : Int), 7, ((bs.length : Int) + 1)⟩).toArray 34)) hhl.symm hown hgrow (hat.imp id (fun h => by rw [h]; simp)))
          have HH := Lib.hid hhl
          clear hown hgrow hat OW S3
          clear p0 p1 p2 p3 pl h0 h1 h2 hf hll zc zl
          have EP : plS zs (i + 1) = (hs ++ [(⟨10 + (i : Int), 7, ((bs.length : Int) + 1)⟩ : Ho)], b2) := by rw [ESH.out, (show plH (plB bs i z) i z = ⟨10 + (i : Int), 7, ((bs.length : Int) + 1)⟩ by rw [EB.out]; unfold plH; rw [if_neg (by omega : ¬ z > 240)]; first | done | (simp; done) | (simp; omega)), EB.out]
          have EPH := Lib.hid EP
          clear EP ESH EB
          have HL2 := Lib.hid hl2
          clear hB2 hl2
          go_wp2
          go_roundw
          case rel => exact ⟨i + 1, ⟨some ⟨g2, 0, none⟩, i + 1 + 1, cap2⟩, ⟨some ⟨g1, 0, none⟩, bs.length + 1, cap1⟩, by have := HI.out; omega, by go_num, rfl, rfl, by rw [EPH.out]; simp only; rw [HL2.out], by rw [EPH.out]; simp only; rw [HL2.out], by rw [EPH.out]; exact S4.out.sub (by simp)⟩
          case measure => simp [intOf]; have := HI.out; omega
        · have k5 : decide (0 < z4) = false := decide_eq_false k4
          by_cases hbs : bs = []
          · have EC : z % 4 > 0 ∨ bs = [] := .inr hbs
            subst hbs
            have pl0 := pl
            go_upto_region 9 with fail
            clear p0 p1 p2 p3 pl
            have hgp : w.heap.size < wr.heap.size := pl0
            have s1 := SH.out
            clear SH
            change St w (hC wr.heap.size [.int .u32 (10 + (i : Int)), .int .u16 7, .int .i64 0] :: _) (wr.alloc (.cells #[.int .u32 (10 + (i : Int)), .int .u16 7, .int .i64 0] 34)) at s1
            generalize (wr.alloc (.cells #[.int .u32 (10 + (i : Int)), .int .u16 7, .int .i64 0] 34)) = w2 at *
            generalize wr.heap.size = gh at *
            have SH := Lib.hid s1
            clear s1 pl0
            have ne1 : ¬ gh = w.heap.size := by omega
            have ne2 : ¬ w.heap.size = gh := by omega
            have ne3 : ¬ gh = bz := by have := HBZ.out; omega
            have ne4 : ¬ bz = gh := by have := HBZ.out; omega
            have P := SH.out.cs (b := w.heap.size) (vs := [.slice q0 m0 k0, .slice q1 m1 k1, .bool true, .slice (some ⟨bz, oz, none⟩) len kz]) (.tail _ (.tail _ (.tail _ (.head _))))
            have p0 := P.cell 0 _ rfl
            have p1 := P.cell 1 _ rfl
            have p2 := P.cell 2 _ rfl
            have p3 := P.cell 3 _ rfl
            have pl := P.lt
            have Q := SH.out.cs (b := gh) (vs := [.int .u32 (10 + (i : Int)), .int .u16 7, .int .i64 0]) (.head _)
            have h0 := Q.cell 0 _ rfl
            have h1 := Q.cell 1 _ rfl
            have h2 := Q.cell 2 _ rfl
            have hf := Q.free 2 _ rfl
            have hll := Q.lt
            have zc := (ZC.out _ SH.out.below).1
            have zl := (ZC.out _ SH.out.below).2
            clear P Q
            have EB := Lib.hid (show plB ([] : List Sp) i z = ([] : List Sp) ++ [⟨mm, ff, 50 + (i : Int), 5 + ho, 3⟩] by unfold plB; rw [if_pos EC, hmm, hff, hho])
            clear EC
            obtain ⟨i0, hi0, hz0, hz1, hz2⟩ := info_parts info_spec
            have RW := Lib.hid (fun o => (SH.out.alloc o).drew.rowW (c := csp) (z := 5) (T := 38) (u := ⟨va, 0, vc⟩) (L := ([] : List Sp)) (by simp) rfl rfl)
            have PU := Lib.hid (fun o g1 cap1 w9 hown hgrow hat => St.pushW (w' := w9) (g := g1) (cap := cap1) (x := (⟨mm, ff, 50 + (i : Int), 5 + ho, 3⟩ : Sp)) [_] _ (SH.out.alloc o).drew rfl hown hgrow hat)
            go_upto_region 10 with fail
            have mkS : Hid (∀ (H : List Hl) w', St w (H ++ [hC w.heap.size [.slice q0 m0 k0, .slice q1 m1 k1, .bool true, .slice (some ⟨bz, oz, none⟩) len kz]]) w' → w'.cell? ⟨w.heap.size, 3, none⟩ = some (.slice (some ⟨bz, oz, none⟩) len kz) ∧ w'.cell? ⟨bz, oz + i, none⟩ = some (.int .u8 z)) := fun H w' s => ⟨(s.cs (b := w.heap.size) (vs := [.slice q0 m0 k0, .slice q1 m1 k1, .bool true, .slice (some ⟨bz, oz, none⟩) len kz]) (by simp)).cell 3 _ rfl, (ZC.out _ s.below).1⟩
            have S0 := Lib.hid (mkS.out [_, _, _] _ SH.out.drew)
            have S1 := Lib.hid (fun o => mkS.out [_, _, _] _ (SH.out.alloc o).drew)
            refine wp_region_held_drew (S := (fun w' => w'.cell? ⟨w.heap.size, 3, none⟩ = some (.slice (some ⟨bz, oz, none⟩) len kz) ∧ w'.cell? ⟨bz, oz + i, none⟩ = some (.int .u8 z))) (by kernel_rfl) S0.out (fun hHeld => ?_)
            refine wpAnyH_take (i := 0) (v := ?_) rfl (by kernel_rfl) (by kernel_rfl) (by kernel_rfl) (fun _ _ _ h => h) (Or.inl ⟨by rfl, ?_⟩) (by assumption) ?_; rotate_left 1; (focus (intro w hSw; (try dsimp only at hSw); go_simp; (try with_reducible rfl))); (try simp only [Act.put, List.setIfInBounds_toArray, List.set_cons_zero, List.set_cons_succ])
            refine wpAnyH_take (i := 1) (v := ?_) rfl (by kernel_rfl) (by kernel_rfl) (by kernel_rfl) (fun _ _ _ h => h) (Or.inl ⟨by rfl, ?_⟩) (by assumption) ?_; rotate_left 1; (focus (intro w hSw; (try dsimp only at hSw); go_simp; (try with_reducible rfl))); (try simp only [Act.put, List.setIfInBounds_toArray, List.set_cons_zero, List.set_cons_succ])
            refine wpAnyH_take (i := 2) (v := ?_) rfl (by kernel_rfl) (by kernel_rfl) (by kernel_rfl) (fun _ _ _ h => h) (Or.inl ⟨by rfl, ?_⟩) (by assumption) ?_; rotate_left 1; (focus (intro w hSw; (try dsimp only at hSw); go_simp; (try with_reducible rfl))); (try simp only [Act.put, List.setIfInBounds_toArray, List.set_cons_zero, List.set_cons_succ])
            refine wpAnyH_take (i := 3) (v := ?_) rfl (by kernel_rfl) (by kernel_rfl) (by kernel_rfl) (fun _ _ _ h => h) (Or.inl ⟨by rfl, ?_⟩) (by assumption) ?_; rotate_left 1; (focus (intro w hSw; (try dsimp only at hSw); go_simp; (try with_reducible rfl))); (try simp only [Act.put, List.setIfInBounds_toArray, List.set_cons_zero, List.set_cons_succ])
            refine wpAnyH_take (i := 4) (v := ?_) rfl (by kernel_rfl) (by kernel_rfl) (by kernel_rfl) (fun _ _ _ h => h) (Or.inl ⟨by rfl, ?_⟩) (by assumption) ?_; rotate_left 1; (focus (intro w hSw; (try dsimp only at hSw); go_simp; (try with_reducible rfl))); (try simp only [Act.put, List.setIfInBounds_toArray, List.set_cons_zero, List.set_cons_succ])
            refine wpAnyH_take (i := 5) (v := ?_) rfl (by kernel_rfl) (by kernel_rfl) (by kernel_rfl) (fun _ _ _ h => h) (Or.inl ⟨by rfl, ?_⟩) (by assumption) ?_; rotate_left 1; (focus (intro w hSw; (try dsimp only at hSw); go_simp; (try with_reducible rfl))); (try simp only [Act.put, List.setIfInBounds_toArray, List.set_cons_zero, List.set_cons_succ])
            refine wpAnyH_take (i := 6) (v := ?_) rfl (by kernel_rfl) (by kernel_rfl) (by kernel_rfl) (fun _ _ _ h => h) (Or.inl ⟨by rfl, ?_⟩) (by assumption) ?_; rotate_left 1; (focus (intro w hSw; (try dsimp only at hSw); go_simp; (try with_reducible rfl))); (try simp only [Act.put, List.setIfInBounds_toArray, List.set_cons_zero, List.set_cons_succ])
            refine wpAnyH_take (i := 7) (v := ?_) rfl (by kernel_rfl) (by kernel_rfl) (by kernel_rfl) (fun _ _ _ h => h) (Or.inl ⟨by rfl, ?_⟩) (by assumption) ?_; rotate_left 1; (focus (intro w hSw; (try dsimp only at hSw); go_simp; (try with_reducible rfl))); (try simp only [Act.put, List.setIfInBounds_toArray, List.set_cons_zero, List.set_cons_succ])
            refine wpAnyH_take (i := 8) (v := ?_) rfl (by kernel_rfl) (by kernel_rfl) (by kernel_rfl) (fun _ _ _ h => h) (Or.inl ⟨by rfl, ?_⟩) (by assumption) ?_; rotate_left 1; (focus (intro w hSw; (try dsimp only at hSw); go_simp; (try with_reducible rfl))); (try simp only [Act.put, List.setIfInBounds_toArray, List.set_cons_zero, List.set_cons_succ])
            refine wpAnyH_take (i := 9) (v := ?_) rfl (by kernel_rfl) (by kernel_rfl) (by kernel_rfl) (fun _ _ _ h => h) (Or.inl ⟨by rfl, ?_⟩) (by assumption) ?_; rotate_left 1; (focus (intro w hSw; (try dsimp only at hSw); go_simp; (try with_reducible rfl))); (try simp only [Act.put, List.setIfInBounds_toArray, List.set_cons_zero, List.set_cons_succ])
            refine wpAnyH_take (i := 10) (v := ?_) rfl (by kernel_rfl) (by kernel_rfl) (by kernel_rfl) (fun _ _ _ h => h) (Or.inl ⟨by rfl, ?_⟩) (by assumption) ?_; rotate_left 1; (focus (intro w hSw; (try dsimp only at hSw); go_simp; (try with_reducible rfl))); (try simp only [Act.put, List.setIfInBounds_toArray, List.set_cons_zero, List.set_cons_succ])
            refine wpAnyH_take (i := 11) (v := ?_) rfl (by kernel_rfl) (by kernel_rfl) (by kernel_rfl) (fun _ _ _ h => h) (Or.inl ⟨by rfl, ?_⟩) (by assumption) ?_; rotate_left 1; (focus (intro w hSw; (try dsimp only at hSw); go_simp; (try with_reducible rfl))); (try simp only [Act.put, List.setIfInBounds_toArray, List.set_cons_zero, List.set_cons_succ])
            refine wpAnyH_take (i := 12) (v := ?_) rfl (by kernel_rfl) (by kernel_rfl) (by kernel_rfl) (fun _ _ _ h => h) (Or.inl ⟨by rfl, ?_⟩) (by assumption) ?_; rotate_left 1; (focus (intro w hSw; (try dsimp only at hSw); go_simp; (try with_reducible rfl))); (try simp only [Act.put, List.setIfInBounds_toArray, List.set_cons_zero, List.set_cons_succ])
            refine wpAnyH_take (i := 13) (v := ?_) rfl (by kernel_rfl) (by kernel_rfl) (by kernel_rfl) (fun _ _ _ h => h) (Or.inl ⟨by rfl, ?_⟩) (by assumption) ?_; rotate_left 1; (focus (intro w hSw; (try dsimp only at hSw); go_simp; (try with_reducible rfl))); (try simp only [Act.put, List.setIfInBounds_toArray, List.set_cons_zero, List.set_cons_succ])
            refine wpAnyH_take (i := 14) (v := ?_) rfl (by kernel_rfl) (by kernel_rfl) (by kernel_rfl) (fun _ _ _ h => h) (Or.inl ⟨by rfl, ?_⟩) (by assumption) ?_; rotate_left 1; (focus (intro w hSw; (try dsimp only at hSw); go_simp; (try with_reducible rfl))); (try simp only [Act.put, List.setIfInBounds_toArray, List.set_cons_zero, List.set_cons_succ])
            refine wpAnyH_take (i := 15) (v := ?_) rfl (by kernel_rfl) (by kernel_rfl) (by kernel_rfl) (fun _ _ _ h => h) (Or.inl ⟨by rfl, ?_⟩) (by assumption) ?_; rotate_left 1; (focus (intro w hSw; (try dsimp only at hSw); go_simp; (try with_reducible rfl))); (try simp only [Act.put, List.setIfInBounds_toArray, List.set_cons_zero, List.set_cons_succ])
            refine wpAnyH_take (i := 16) (v := ?_) rfl (by kernel_rfl) (by kernel_rfl) (by kernel_rfl) (fun _ _ _ h => h) (Or.inl ⟨by rfl, ?_⟩) (by assumption) ?_; rotate_left 1; (focus (intro w hSw; (try dsimp only at hSw); go_simp; (try with_reducible rfl))); (try simp only [Act.put, List.setIfInBounds_toArray, List.set_cons_zero, List.set_cons_succ])
            refine wpAnyH_take (i := 17) (v := ?_) rfl (by kernel_rfl) (by kernel_rfl) (by kernel_rfl) (fun _ _ _ h => h) (Or.inl ⟨by rfl, ?_⟩) (by assumption) ?_; rotate_left 1; (focus (intro w hSw; (try dsimp only at hSw); go_simp; (try with_reducible rfl))); (try simp only [Act.put, List.setIfInBounds_toArray, List.set_cons_zero, List.set_cons_succ])
            refine wpAnyH_take (i := 18) (v := ?_) rfl (by kernel_rfl) (by kernel_rfl) (by kernel_rfl) (fun _ _ _ h => h) (Or.inl ⟨by rfl, ?_⟩) (by assumption) ?_; rotate_left 1; (focus (intro w hSw; (try dsimp only at hSw); go_simp; (try with_reducible rfl))); (try simp only [Act.put, List.setIfInBounds_toArray, List.set_cons_zero, List.set_cons_succ])
            refine wpAnyH_take (i := 19) (v := ?_) rfl (by kernel_rfl) (by kernel_rfl) (by kernel_rfl) (fun _ _ _ h => h) (Or.inl ⟨by rfl, ?_⟩) (by assumption) ?_; rotate_left 1; (focus (intro w hSw; (try dsimp only at hSw); go_simp; (try with_reducible rfl))); (try simp only [Act.put, List.setIfInBounds_toArray, List.set_cons_zero, List.set_cons_succ])
            refine wpAnyH_take (i := 20) (v := ?_) rfl (by kernel_rfl) (by kernel_rfl) (by kernel_rfl) (fun _ _ _ h => h) (Or.inl ⟨by rfl, ?_⟩) (by assumption) ?_; rotate_left 1; (focus (intro w hSw; (try dsimp only at hSw); go_simp; (try with_reducible rfl))); (try simp only [Act.put, List.setIfInBounds_toArray, List.set_cons_zero, List.set_cons_succ])
            refine wpAnyH_take (i := 21) (v := ?_) rfl (by kernel_rfl) (by kernel_rfl) (by kernel_rfl) (fun _ _ _ h => h) (Or.inl ⟨by rfl, ?_⟩) (by assumption) ?_; rotate_left 1; (focus (intro w hSw; (try dsimp only at hSw); go_simp; (try with_reducible rfl))); (try simp only [Act.put, List.setIfInBounds_toArray, List.set_cons_zero, List.set_cons_succ])
            refine wpAnyH_take (i := 22) (v := ?_) rfl (by kernel_rfl) (by kernel_rfl) (by kernel_rfl) (fun _ _ _ h => h) (Or.inl ⟨by rfl, ?_⟩) (by assumption) ?_; rotate_left 1; (focus (intro w hSw; (try dsimp only at hSw); go_simp; (try with_reducible rfl))); (try simp only [Act.put, List.setIfInBounds_toArray, List.set_cons_zero, List.set_cons_succ])
            refine wpAnyH_take (i := 23) (v := ?_) rfl (by kernel_rfl) (by kernel_rfl) (by kernel_rfl) (fun _ _ _ h => h) (Or.inl ⟨by rfl, ?_⟩) (by assumption) ?_; rotate_left 1; (focus (intro w hSw; (try dsimp only at hSw); go_simp; (try with_reducible rfl))); (try simp only [Act.put, List.setIfInBounds_toArray, List.set_cons_zero, List.set_cons_succ])
            refine wpAnyH_take (i := 24) (v := ?_) rfl (by kernel_rfl) (by kernel_rfl) (by kernel_rfl) (fun _ _ _ h => h) (Or.inl ⟨by rfl, ?_⟩) (by assumption) ?_; rotate_left 1; (focus (intro w hSw; (try dsimp only at hSw); go_simp; (try with_reducible rfl))); (try simp only [Act.put, List.setIfInBounds_toArray, List.set_cons_zero, List.set_cons_succ])
            refine wpAnyH_take (i := 25) (v := ?_) rfl (by kernel_rfl) (by kernel_rfl) (by kernel_rfl) (fun _ _ _ h => h) (Or.inl ⟨by rfl, ?_⟩) (by assumption) ?_; rotate_left 1; (focus (intro w hSw; (try dsimp only at hSw); go_simp; (try with_reducible rfl))); (try simp only [Act.put, List.setIfInBounds_toArray, List.set_cons_zero, List.set_cons_succ])
            refine wpAnyH_take (i := 26) (v := ?_) rfl (by kernel_rfl) (by kernel_rfl) (by kernel_rfl) (fun _ _ _ h => h) (Or.inl ⟨by rfl, ?_⟩) (by assumption) ?_; rotate_left 1; (focus (intro w hSw; (try dsimp only at hSw); go_simp; (try with_reducible rfl))); (try simp only [Act.put, List.setIfInBounds_toArray, List.set_cons_zero, List.set_cons_succ])
            refine wpAnyH_take (i := 27) (v := ?_) rfl (by kernel_rfl) (by kernel_rfl) (by kernel_rfl) (fun _ _ _ h => h) (Or.inl ⟨by rfl, ?_⟩) (by assumption) ?_; rotate_left 1; (focus (intro w hSw; (try dsimp only at hSw); go_simp; (try with_reducible rfl))); (try simp only [Act.put, List.setIfInBounds_toArray, List.set_cons_zero, List.set_cons_succ])
            refine wpAnyH_take (i := 28) (v := ?_) rfl (by kernel_rfl) (by kernel_rfl) (by kernel_rfl) (fun _ _ _ h => h) (Or.inl ⟨by rfl, ?_⟩) (by assumption) ?_; rotate_left 1; (focus (intro w hSw; (try dsimp only at hSw); go_simp; (try with_reducible rfl))); (try simp only [Act.put, List.setIfInBounds_toArray, List.set_cons_zero, List.set_cons_succ])
            refine wpAnyH_take (i := 29) (v := ?_) rfl (by kernel_rfl) (by kernel_rfl) (by kernel_rfl) (fun _ _ _ h => h) (Or.inl ⟨by rfl, ?_⟩) (by assumption) ?_; rotate_left 1; (focus (intro w hSw; (try dsimp only at hSw); go_simp; (try with_reducible rfl))); (try simp only [Act.put, List.setIfInBounds_toArray, List.set_cons_zero, List.set_cons_succ])
            refine wpAnyH_ready (rs := [30]) (by kernel_rfl) (by simp) ?_
            refine AllReadyH.cons rfl (fun K hK => ?_) AllReadyH.nil
            go_simp
            refine hK.out _ _ (S1.out _) (fun hHeld => ?_); clear hK K
            refine wpAnyH_ready (rs := [31]) (by kernel_rfl) (by simp) ?_
            refine AllReadyH.cons rfl (fun K hK => ?_) AllReadyH.nil
            refine step_append_lies _ (by rfl) _ _ _ (by rfl) 0 38 i0 _ 5 40 Try.underlying39 hi0 hz0 hz1 hz2 rfl (by omega) (.slice va 0 vc) 0 (([] : List Sp).map csp).flatten (by rfl) (RW.out _) ⟨_, 0, none⟩ 1 1 (csp ⟨mm, ff, 50 + (i : Int), 5 + ho, 3⟩) (by rfl) (by rfl) (World.news_of_block (cs := (csp ⟨mm, ff, 50 + (i : Int), 5 + ho, 3⟩).toArray) (t := 38) (fr := (0, 0)) (heap_alloc_new _ _)) (csp_enc.one _) (by omega) (by unfold maxLen; omega) (by omega) (Nat.zero_le _) _ rfl ?_; intro g1 cap1 w9 hown hgrow hat hlt9; have S9 := Lib.hid (PU.out _ g1 cap1 w9 hown hgrow (hat.imp id (fun h => by rw [h]; simp))); clear hown hgrow hat
            refine hK.out _ _ (mkS.out [_, _, _] _ S9.out) (fun hHeld => ?_); clear hK K
            refine wpAnyH_take (i := 32) (v := ?_) rfl (by kernel_rfl) (by kernel_rfl) (by kernel_rfl) (fun _ _ _ h => h) (Or.inl ⟨by rfl, ?_⟩) (by assumption) ?_; rotate_left 1; (focus (intro w hSw; (try dsimp only at hSw); go_simp; (try with_reducible rfl))); (try simp only [Act.put, List.setIfInBounds_toArray, List.set_cons_zero, List.set_cons_succ])
            refine wpAnyH_done (by kernel_rfl) ?_ _
            clear mkS S0 S1
            clear p0 p1 p2 p3 pl h0 h1 h2 hf hll zc zl
            clear RW PU SH
            have SH := S9
            clear S9
            generalize hB2 : ([] : List Sp) ++ [(⟨mm, ff, 50 + (i : Int), 5 + ho, 3⟩ : Sp)] = b2 at *
            have hl2 : b2.length = 0 + 1 := by rw [← hB2]; simp
            have P := SH.out.cs (b := w.heap.size) (vs := [.slice q0 m0 k0, .slice q1 m1 k1, .bool true, .slice (some ⟨bz, oz, none⟩) len kz]) (.tail _ (.tail _ (.tail _ (.head _))))
            have p0 := P.cell 0 _ rfl
            have p1 := P.cell 1 _ rfl
            have p2 := P.cell 2 _ rfl
            have p3 := P.cell 3 _ rfl
            have pl := P.lt
            have Q := SH.out.cs (b := gh) (vs := [.int .u32 (10 + (i : Int)), .int .u16 7, .int .i64 0]) (.head _)
            have h0 := Q.cell 0 _ rfl
            have h1 := Q.cell 1 _ rfl
            have h2 := Q.cell 2 _ rfl
            have hf := Q.free 2 _ rfl
            have hll := Q.lt
            have zc := (ZC.out _ SH.out.below).1
            have zl := (ZC.out _ SH.out.below).2
            clear P Q
            have zg : decide (240 < z) = false := decide_eq_false (by omega)
            go_upto_region 14 with fail
            have s3 := SH.out.setc [] _ 2 (.int .i64 1) (by simp)
            replace s3 : St w (hC gh [.int .u32 (10 + (i : Int)), .int .u16 7, .int .i64 1] :: _) (w9.setCell ⟨gh, 2, none⟩ (.int .i64 1)) := s3
            clear p0 p1 p2 p3 pl h0 h1 h2 hf hll zc zl
            generalize (w9.setCell ⟨gh, 2, none⟩ (.int .i64 1)) = w3 at *
            have S3 := Lib.hid s3
            clear s3 SH
            have P := S3.out.cs (b := w.heap.size) (vs := [.slice q0 m0 k0, .slice q1 m1 k1, .bool true, .slice (some ⟨bz, oz, none⟩) len kz]) (.tail _ (.tail _ (.tail _ (.head _))))
            have p0 := P.cell 0 _ rfl
            have p1 := P.cell 1 _ rfl
            have p2 := P.cell 2 _ rfl
            have p3 := P.cell 3 _ rfl
            have pl := P.lt
            have Q := S3.out.cs (b := gh) (vs := [.int .u32 (10 + (i : Int)), .int .u16 7, .int .i64 1]) (.head _)
            have h0 := Q.cell 0 _ rfl
            have h1 := Q.cell 1 _ rfl
            have h2 := Q.cell 2 _ rfl
            have hf := Q.free 2 _ rfl
            have hll := Q.lt
            have zc := (ZC.out _ S3.out.below).1
            have zl := (ZC.out _ S3.out.below).2
            clear P Q
            obtain ⟨j0, hj0, hy0, hy1, hy2⟩ := info_parts info_host
            have OW := Lib.hid (fun o => (S3.out.alloc o).rowW (c := cho) (z := 3) (T := 34) (u := ⟨ua, i + 1, uc⟩) (L := hs) (by simp) rfl hhl)
            go_wp2_with (at_builtin; refine wpList_append_lies _ rfl (.tmp 88) (.tmp 90) 35 rfl 0 34 j0 _ 3 16 Try.underlying35 hj0 hy0 hy1 hy2 rfl (by omega) (.slice ua (i + 1) uc) (i + 1) (hs.map cho).flatten rfl (OW.out _) ⟨_, 0, none⟩ 1 1 (cho ⟨10 + (i : Int), 7, 1⟩) rfl rfl (World.news_of_block (cs := (cho ⟨10 + (i : Int), 7, 1⟩).toArray) (t := 34) (fr := (0, 0)) (heap_alloc_new _ _)) (cho_enc.one _) (by omega) ?c5_2 ?c5_3 ?c5_4 _ rfl ?_)
            case c5_2 => unfold maxLen; omega
            case c5_3 => omega
            (try case c5_4 => exact Nat.zero_le _)
            intro g2 cap2 w10 hown hgrow hat hlt10
            have S4 := Lib.hid (St.pushW (x := (⟨10 + (i : Int), 7, 1⟩ : Ho)) [_, _] _ (S3.out.alloc (.cells (cho ⟨10 + (i : Int), 7, 1⟩).toArray 34)) hhl.symm hown hgrow (hat.imp id (fun h => by rw [h]; simp)))
            have HH := Lib.hid hhl
            clear hown hgrow hat OW S3
            clear p0 p1 p2 p3 pl h0 h1 h2 hf hll zc zl
            have EP : plS zs (i + 1) = (hs ++ [(⟨10 + (i : Int), 7, 1⟩ : Ho)], b2) := by rw [ESH.out, (show plH (plB ([] : List Sp) i z) i z = ⟨10 + (i : Int), 7, 1⟩ by rw [EB.out]; unfold plH; rw [if_neg (by omega : ¬ z > 240)]; first | done | (simp; done) | (simp; omega)), EB.out]
            have EPH := Lib.hid EP
            clear EP ESH EB
            have HL2 := Lib.hid hl2
            clear hB2 hl2
            go_wp2
            go_roundw
            case rel => exact ⟨i + 1, ⟨some ⟨g2, 0, none⟩, i + 1 + 1, cap2⟩, ⟨some ⟨g1, 0, none⟩, 0 + 1, cap1⟩, by have := HI.out; omega, by go_num, rfl, rfl, by rw [EPH.out]; simp only; rw [HL2.out], by rw [EPH.out]; simp only; rw [HL2.out], by rw [EPH.out]; exact S4.out.sub (by simp)⟩
            case measure => simp [intOf]; have := HI.out; omega
          · have EC : ¬ (z % 4 > 0 ∨ bs = []) := by rintro (h | h); omega; exact hbs h
            have k6 : 0 < bs.length := List.length_pos_iff.2 hbs
            have k7 : decide ((bs.length : Int) = 0) = false := decide_eq_false (by omega)
            clear hbs
            have pl0 := pl
            go_upto_region 9 with fail
            clear p0 p1 p2 p3 pl
            have hgp : w.heap.size < wr.heap.size := pl0
            have s1 := SH.out
            clear SH
            change St w (hC wr.heap.size [.int .u32 (10 + (i : Int)), .int .u16 7, .int .i64 0] :: _) (wr.alloc (.cells #[.int .u32 (10 + (i : Int)), .int .u16 7, .int .i64 0] 34)) at s1
            generalize (wr.alloc (.cells #[.int .u32 (10 + (i : Int)), .int .u16 7, .int .i64 0] 34)) = w2 at *
            generalize wr.heap.size = gh at *
            have SH := Lib.hid s1
            clear s1 pl0
            have ne1 : ¬ gh = w.heap.size := by omega
            have ne2 : ¬ w.heap.size = gh := by omega
            have ne3 : ¬ gh = bz := by have := HBZ.out; omega
            have ne4 : ¬ bz = gh := by have := HBZ.out; omega
            have P := SH.out.cs (b := w.heap.size) (vs := [.slice q0 m0 k0, .slice q1 m1 k1, .bool true, .slice (some ⟨bz, oz, none⟩) len kz]) (.tail _ (.tail _ (.tail _ (.head _))))
            have p0 := P.cell 0 _ rfl
            have p1 := P.cell 1 _ rfl
            have p2 := P.cell 2 _ rfl
            have p3 := P.cell 3 _ rfl
            have pl := P.lt
            have Q := SH.out.cs (b := gh) (vs := [.int .u32 (10 + (i : Int)), .int .u16 7, .int .i64 0]) (.head _)
            have h0 := Q.cell 0 _ rfl
            have h1 := Q.cell 1 _ rfl
            have h2 := Q.cell 2 _ rfl
            have hf := Q.free 2 _ rfl
            have hll := Q.lt
            have zc := (ZC.out _ SH.out.below).1
            have zl := (ZC.out _ SH.out.below).2
            clear P Q
            have EB := Lib.hid (show plB bs i z = bs by unfold plB; rw [if_neg EC])
            clear EC
            have zg : decide (240 < z) = false := decide_eq_false (by omega)
            go_upto_region 14 with fail
            have s3 := SH.out.setc [] _ 2 (.int .i64 (bs.length : Int)) (by simp)
            replace s3 : St w (hC gh [.int .u32 (10 + (i : Int)), .int .u16 7, .int .i64 (bs.length : Int)] :: _) (w2.setCell ⟨gh, 2, none⟩ (.int .i64 (bs.length : Int))) := s3
            clear p0 p1 p2 p3 pl h0 h1 h2 hf hll zc zl
            generalize (w2.setCell ⟨gh, 2, none⟩ (.int .i64 (bs.length : Int))) = w3 at *
            have S3 := Lib.hid s3
            clear s3 SH
            have P := S3.out.cs (b := w.heap.size) (vs := [.slice q0 m0 k0, .slice q1 m1 k1, .bool true, .slice (some ⟨bz, oz, none⟩) len kz]) (.tail _ (.tail _ (.tail _ (.head _))))
            have p0 := P.cell 0 _ rfl
            have p1 := P.cell 1 _ rfl
            have p2 := P.cell 2 _ rfl
            have p3 := P.cell 3 _ rfl
            have pl := P.lt
            have Q := S3.out.cs (b := gh) (vs := [.int .u32 (10 + (i : Int)), .int .u16 7, .int .i64 (bs.length : Int)]) (.head _)
            have h0 := Q.cell 0 _ rfl
            have h1 := Q.cell 1 _ rfl
            have h2 := Q.cell 2 _ rfl
            have hf := Q.free 2 _ rfl
            have hll := Q.lt
            have zc := (ZC.out _ S3.out.below).1
            have zl := (ZC.out _ S3.out.below).2
            clear P Q
            obtain ⟨j0, hj0, hy0, hy1, hy2⟩ := info_parts info_host
            have OW := Lib.hid (fun o => (S3.out.alloc o).rowW (c := cho) (z := 3) (T := 34) (u := ⟨ua, i + 1, uc⟩) (L := hs) (by simp) rfl hhl)
            go_wp2_with (at_builtin; refine wpList_append_lies _ rfl (.tmp 88) (.tmp 90) 35 rfl 0 34 j0 _ 3 16 Try.underlying35 hj0 hy0 hy1 hy2 rfl (by omega) (.slice ua (i + 1) uc) (i + 1) (hs.map cho).flatten rfl (OW.out _) ⟨_, 0, none⟩ 1 1 (cho ⟨10 + (i : Int), 7, (bs.length : Int)⟩) rfl rfl (World.news_of_block (cs := (cho ⟨10 + (i : Int), 7, (bs.length : Int)⟩).toArray) (t := 34) (fr := (0, 0)) (heap_alloc_new _ _)) (cho_enc.one _) (by omega) ?c6_2 ?c6_3 ?c6_4 _ rfl ?_)
            case c6_2 => unfold maxLen; omega
            case c6_3 => omega
            (try case c6_4 => exact Nat.zero_le _)
            intro g2 cap2 w10 hown hgrow hat hlt10
            have S4 := Lib.hid (St.pushW (x := (⟨10 + (i : Int), 7, (bs.length : Int)⟩ : Ho)) [_, _] _ (S3.out.alloc (.cells (cho ⟨10 + (i : Int), 7, (bs.length : Int)⟩).toArray 34)) hhl.symm hown hgrow (hat.imp id (fun h => by rw [h]; simp)))
            have HH := Lib.hid hhl
            clear hown hgrow hat OW S3
            clear p0 p1 p2 p3 pl h0 h1 h2 hf hll zc zl
            have EP : plS zs (i + 1) = (hs ++ [(⟨10 + (i : Int), 7, (bs.length : Int)⟩ : Ho)], bs) := by rw [ESH.out, (show plH (plB bs i z) i z = ⟨10 + (i : Int), 7, (bs.length : Int)⟩ by rw [EB.out]; unfold plH; rw [if_neg (by omega : ¬ z > 240)]; first | done | (simp; done) | (simp; omega)), EB.out]
            have EPH := Lib.hid EP
            clear EP ESH EB
            go_wp2
            go_roundw
            case rel => exact ⟨i + 1, ⟨some ⟨g2, 0, none⟩, i + 1 + 1, cap2⟩, ⟨va, bs.length, vc⟩, by have := HI.out; omega, by go_num, rfl, rfl, by rw [EPH.out], by rw [EPH.out], by rw [EPH.out]; exact S4.out.sub (by simp)⟩
            case measure => simp [intOf]; have := HI.out; omega
    · obtain rfl : i = k := by omega
      have l1 : decide ((i : Int) < (len : Int)) = decide (i < len) := by simp
      have hl := OKP.out i
      have hhl := hl.hl
      have SA := Lib.hid s
      clear s hl
      by_cases hll : i < len
      · have l2 : decide ((i : Int) < (len : Int)) = true := decide_eq_true (by omega)
        have l3 : decide ((i : Int) < 5) = false := decide_eq_false (by omega)
        clear l1
        go_wp2
        refine bodyPost_ret (v := .tuple #[.slice ua (i + 1) uc, .slice va (plS zs i).2.length vc]) (by simp [results, Try.results16, go_sem, *]) rfl ?_
        exact ⟨⟨ua, i + 1, uc⟩, ⟨va, (plS zs i).2.length, vc⟩, by rw [hhl], hhl.symm, rfl, SA.out.sub (by simp)⟩
      · have l2 : decide ((i : Int) < (len : Int)) = false := decide_eq_false (by omega)
        clear l1
        go_wp2
        refine bodyPost_ret (v := .tuple #[.slice ua (i + 1) uc, .slice va (plS zs i).2.length vc]) (by simp [results, Try.results16, go_sem, *]) rfl ?_
        exact ⟨⟨ua, i + 1, uc⟩, ⟨va, (plS zs i).2.length, vc⟩, by rw [hhl], hhl.symm, rfl, SA.out.sub (by simp)⟩
end Go.Proofs.Ytdpgmdkclaahdaa.Ne
