/- Next of nobody; the reference's Next. -/
import Derived.Test.YtheipflmkjiimaaRiNext
namespace Go.Proofs.Ytheipflmkjiimaa
open Go.Sort Go.RowKit Go.BigFrame
set_option linter.unusedVariables false
set_option linter.unusedSimpArgs false

theorem next_none (g : Nat) (s : Int) (v : Sl) (L : List Int) (a : Option Addr) (cap : Nat) (w : World) (h : Rs g s v L w) :
    Calls Try.prog 15 #[.pointer (some ⟨g, 0, none⟩), .slice a 0 cap] w fun e w' => e = .returned (.tuple #[.int .i64 0, .bool false]) ∧ w = w' := by
  clear h
  go_enter Try.func15, Try.ntmps15
  go_wp2
  refine wp_scope_jumps 0 (fun _ _ => False) (fun _ _ => 0) rfl ?_ (fun _ _ h => h.elim)
  go_wp2
  simp only [Exit.jump]
  refine bodyPost_ret (v := (.tuple #[.int .i64 0, .bool false])) (by simp [results, Try.results15, go_sem, *]) rfl ?_
  exact ⟨rfl, rfl⟩
theorem ref_none (g : Nat) (s : Int) (v : Sl) (L : List Int) (a : Option Addr) (cap : Nat) (w : World) (h : Rs g s v L w) :
    Calls Try.prog 16 #[.pointer (some ⟨g, 0, none⟩), .slice a 0 cap] w fun e w' => e = .returned (.tuple #[.int .i64 0, .bool false]) ∧ w = w' := by
  clear h
  go_enter Try.func16, Try.ntmps16
  go_wp2
  refine bodyPost_ret (v := (.tuple #[.int .i64 0, .bool false])) (by simp [results, Try.results16, go_sem, *]) rfl ?_
  exact ⟨rfl, rfl⟩
theorem ring_next (g : Nat) (s : Int) (v : Sl) (L : List Int) (a : Option Addr) (cap : Nat) (l : List Int) (hl : l.length ≤ 1000) (hcap : l.length ≤ cap) (w : World) (h : Rs g s v L w) (hr : Rd .i64 w w.heap.size a l) (hne : 0 < l.length → ¬ blk a g) :
    Calls Try.prog 15 #[.pointer (some ⟨g, 0, none⟩), .slice a l.length cap] w fun e w' => e = .returned (.tuple #[.int .i64 (idR s L l), .bool (okR l)]) ∧ AftR g v (stR s L l) (leftR s L l) w w' := by
  by_cases h0 : 0 < l.length
  · rw [okR_iff.2 h0]
    exact next_some g s v L a cap l h0 hl hcap w h hr (hne h0)
  · have h1 : l.length = 0 := by omega
    have h2 : okR l = false := by unfold okR; rw [h1]; rfl
    unfold idR stR leftR
    rw [h2, h1]
    exact (next_none g s v L a cap w h).mono fun e w' ⟨he, hw⟩ => ⟨he, by subst hw; exact h.same (Below.refl _ _)⟩

section
variable {g : Nat} {s s1 : Int} {v v1 : Sl} {L l L1 : List Int} {w w1 w2 : World}
theorem getD_at {L1 : List Int} {j : Nat} (hj : j < L1.length) : L1.drop j = L1.getD j 0 :: L1.drop (j + 1) := by
  rw [List.drop_eq_getElem_cons hj]
  simp [List.getD_eq_getElem?_getD, hj]
theorem popR_skip {l : List Int} : ∀ {L : List Int} (j : Nat), (∀ y ∈ L.take j, y ∉ l) → popR l L = popR l (L.drop j)
  | L, 0, _ => rfl
  | [], j + 1, _ => rfl
  | x :: r, j + 1, h => by
    have hx : x ∉ l := h x (by simp)
    rw [List.drop_succ_cons, ← popR_skip j (fun y hy => h y (by simp [hy]))]
    simp [popR, hx]
theorem Rd.drop_ {k : IntKind} {w : World} {B b o : Nat} {zs : List Int} (h : Rd k w B (some ⟨b, o, none⟩) zs) (j : Nat) : Rd k w B (some ⟨b, o + j, none⟩) (zs.drop j) := fun hp => by
  have hj : j < zs.length := by simp at hp; omega
  obtain ⟨b', off, he, hB, hc⟩ := h (by omega)
  injection he with he
  injection he with h1 h2
  subst h1 h2
  refine ⟨b, o + j, rfl, hB, fun i hi => ?_⟩
  have := hc (j + i) (by simp at hi; omega)
  rw [Nat.add_assoc, this]
  simp [List.getD_eq_getElem?_getD]
theorem NxS.doneAt {b o n c n' c' j : Nat} {ad : Addr} (hl : 0 < l.length) (h : NxS g s v L l w s1 ⟨some ⟨b, o, none⟩, n, c⟩ L1 w1) (hj : j < L1.length) (hno : ∀ y ∈ L1.take j, y ∉ l) (had : (if c = j + 1 then ⟨b, o, none⟩ else ⟨b, o + (j + 1), none⟩ : Addr) = ad) (hn : n' + (j + 1) = n) (hc : c' + (j + 1) = c) (hx : isIn (L1.getD j 0) l = true) :
    L1.getD j 0 = idR s L l ∧ AftR g v (stR s L l) (leftR s L l) w (w1.setCell ⟨g, 1, none⟩ (.slice (some ad) n' c')) := by
  have hb : ad.block = b := by rw [← had]; split <;> rfl
  have hnl : n = L1.length := h.rs.n
  have hcl : n ≤ c := h.rs.cap
  have hk : ∀ k, blk (some ad) k → k = b := by
    rintro k ⟨ad', e, rfl⟩
    injection e with e
    rw [← e, hb]
  have hs := h.rs.small
  have e := h.todo
  have e2 : nextL s1 L1 l = (L1.drop j, s1) := by
    unfold nextL
    have hm : popR l (L1.getD j 0 :: L1.drop (j + 1)) = L1.getD j 0 :: L1.drop (j + 1) := if_pos (isIn_iff.1 hx)
    rw [popR_skip j hno, getD_at hj, hm]
  rw [e2] at e
  rw [next_id s L l hl, next_st s L l hl, next_left s L l hl, ← e]
  have hd : (L1.drop j).tail = L1.drop (j + 1) := by rw [getD_at hj]; rfl
  have hh : (L1.drop j).headD 0 = L1.getD j 0 := by rw [getD_at hj]; rfl
  simp only
  rw [hd, hh]
  refine ⟨rfl, ⟨some ad, n', c'⟩, h.rs.put (v' := ⟨some ad, n', c'⟩) ?_ (by show n' = _; rw [List.length_drop]; omega) (by show n' ≤ c'; omega) (fun e => by cases e) (fun k hk2 => ?_) (fun hk2 => ?_) (by rw [List.length_drop]; omega), h.touch.set (a := ⟨g, 1, none⟩) (fun _ => rfl) _, fun k hk2 => h.own k ?_⟩
  · by_cases h1 : c = j + 1
    · have : L1.drop (j + 1) = [] := List.drop_eq_nil_of_le (by omega)
      rw [this]
      exact Rd.nil _ _ _ _
    · rw [if_neg h1] at had
      subst had
      exact h.rs.rd.drop_ (j + 1)
  · rw [hk k hk2]; exact h.rs.lo b blk_some
  · have e := hk g hk2
    exact h.rs.ne (by rw [e]; exact blk_some)
  · rcases hk2 with hk2 | hk2
    · exact .inl hk2
    · rw [hk k hk2]; exact .inr blk_some
theorem NxS.mixedA {x : Int} {r m : List Int} {A : Option Addr} {c : Nat} {s2 : Int} (hl : l.length ≤ 1000) (h : NxS g s v L l w s1 v1 L1 w1) (hno : ∀ y ∈ L1, y ∉ l) (hb : Below w1.heap.size w1 w2) (hm : mixL s1 l = (m, s2)) (hlc : l.length ≤ c) (hans : Ans w1.heap.size w2 A l.length m) (hx : m = x :: r) (hxl : x ∈ l) :
    NxS g s v L l w s2 ⟨A, l.length, c⟩ (x :: r) ((w2.setCell ⟨g, 1, none⟩ (.slice A l.length c)).setCell ⟨g, 0, none⟩ (.int .u64 s2)) := by
  subst hx
  obtain ⟨hlen, hrd, hlo⟩ := hans
  obtain ⟨b, off, e, hb2, _⟩ := hrd (by simp)
  subst e
  have hb1 : w1.heap.size ≤ b := hlo _ rfl
  have gl := h.rs.box.lt
  have r2 := h.rs.keep hb
  have r3 : Rs g s1 ⟨some ⟨b, off, none⟩, l.length, c⟩ (x :: r) (w2.setCell ⟨g, 1, none⟩ (.slice (some ⟨b, off, none⟩) l.length c)) := r2.put (v' := ⟨some ⟨b, off, none⟩, l.length, c⟩) hrd hlen.symm hlc (fun e => by cases e) (fun k hk => by rw [blk_inj hk]; exact hb2) (fun hk => by have := blk_inj hk; omega) (by omega)
  have hp : popR l L1 = [] := by
    rw [popR_skip L1.length (fun y hy => hno y (List.mem_of_mem_take hy)), List.drop_eq_nil_of_le (Nat.le_refl _)]; rfl
  refine ⟨r3.stream s2, ?_, ?_, ?_⟩
  · exact ((h.touch.trans (Touch.of_below (fun b => b = g) hb) (fun _ _ h => h)).set (a := ⟨g, 1, none⟩) (fun _ => rfl) _).set (a := ⟨g, 0, none⟩) (fun _ => rfl) _
  · rintro k (rfl | hk)
    · exact .inl (.inl rfl)
    · rw [blk_inj hk]
      exact .inr (Nat.le_trans h.touch.size hb1)
  · have e : nextL s1 L1 l = mixL s1 l := by unfold nextL; rw [hp]
    rw [← h.todo, e, hm, nextL_in hxl]
end
def RnJ (g : Nat) (s : Int) (v : Sl) (L l : List Int) (w : World) (rv : Value) (wr : World) : Prop := ∃ (k : Nat) (s1 : Int) (v1 : Sl) (L1 : List Int), rv = .int .i64 (k : Nat) ∧ k < 2 ∧ NxS g s v L l w s1 v1 L1 wr ∧ (k = 1 → ∃ x r, L1 = x :: r ∧ x ∈ l)
def RiJ (L1 l : List Int) (w1 : World) (iv : Value) (wr : World) : Prop := ∃ j : Nat, j ≤ L1.length ∧ iv = .int .i64 j ∧ (∀ y ∈ L1.take j, y ∉ l) ∧ w1 = wr
set_option maxHeartbeats 3200000 in
set_option maxRecDepth 100000 in
theorem ref_some (g : Nat) (s : Int) (v : Sl) (L : List Int) (a : Option Addr) (cap : Nat) (l : List Int) (hl0 : 0 < l.length) (hl : l.length ≤ 1000) (hcap : l.length ≤ cap) (w : World) (h : Rs g s v L w) (hr : Rd .i64 w w.heap.size a l) (hne : Hid (¬ blk a g)) (hnil : Hid (a = none → l.length = 0 ∧ cap = 0)) :
    Calls Try.prog 16 #[.pointer (some ⟨g, 0, none⟩), .slice a l.length cap] w fun e w' => e = .returned (.tuple #[.int .i64 (idR s L l), .bool true]) ∧ AftR g v (stR s L l) (leftR s L l) w w' := by
  have H0 := Lib.hid (NxS.start (l := l) h)
  have HR := Lib.hid hr
  have hle : ¬ (l.length : Int) = 0 := by omega
  have hle2 : ((l.length : Int) == 0) = false := by rw [beq_eq_false_iff_ne]; exact hle
  clear h hr
  go_enter Try.func16, Try.ntmps16
  go_wp2_with fail
  go_loopw [6] (fun rv wr => RnJ g s v L l w rv wr) (fun rv _ => 2 - (intOf rv).toNat)
  case atStart => exact ⟨0, _, _, _, rfl, by omega, H0.out, fun h => by omega⟩
  case round =>
    obtain ⟨k, s1, v1, L1, rfl, hk, hs, hk1⟩ := hrel
    clear H0
    have HS := Lib.hid hs
    have HK := Lib.hid hk1
    have hk2 : (k : Int) < 2 := by omega
    have hk0 : (0 : Int) ≤ (k : Int) := by omega
    clear hs hk1
    generalize wr = w1 at *
    have gl := HS.out.rs.box.lt
    have x0 := HS.out.rs.box.cell 0 _ rfl
    have x1 := HS.out.rs.box.cell 1 _ rfl
    have f0 := HS.out.rs.box.free 0 _ rfl
    have f1 := HS.out.rs.box.free 1 _ rfl
    have hn1 := HS.out.rs.n
    have hsm := HS.out.rs.small
    have hc1 := HS.out.rs.cap
    obtain ⟨va, vn, vc⟩ := v1
    simp only at hn1 x0 x1 hc1
    subst hn1
    obtain ⟨kk, hkk⟩ : ∃ kk, L1.length = kk := ⟨_, rfl⟩
    rw [hkk] at x1 hsm hc1
    replace hkk := Lib.hid hkk
    go_wp2_with fail
    go_loopw [7] (fun iv wr => RiJ L1 l w1 iv wr) (fun iv _ => kk - (intOf iv).toNat)
    case atStart => exact ⟨0, Nat.zero_le _, rfl, by simp, rfl⟩
    case round =>
      obtain ⟨j, hj, rfl, hno, rfl⟩ := hrel
      have hj0 : (0 : Int) ≤ j := by omega
      have HN := Lib.hid hno
      rw [hkk.out] at hj
      clear hno
      by_cases hlt : j < kk
      · have hlt' : (j : Int) < kk := by omega
        obtain ⟨b, o, hbo, hB, hcx⟩ := HS.out.rs.rd (by rw [hkk.out]; omega)
        simp only at hbo
        subst hbo
        have cx := hcx j (by rw [hkk.out]; exact hlt)
        have hr1 := Rd.touch HR.out HS.out.touch (fun b hb e => hne.out (by rw [← e]; exact hb))
        obtain ⟨x, hx⟩ : ∃ x, L1.getD j 0 = x := ⟨_, rfl⟩
        rw [hx] at cx
        have K := in_any a cap l (by omega) x _ hr1
        obtain ⟨q, hq⟩ : ∃ q, isIn x l = q := ⟨_, rfl⟩
        rw [hq] at K
        have HQ := Lib.hid hq
        have HX := Lib.hid hx
        clear hcx hr1 hq hx
        go_wp2_with fail
        refine K.mono ?_; rintro e w4 ⟨rfl, rfl⟩
        clear K
        cases q
        · have HN2 : Hid (∀ y ∈ L1.take (j + 1), y ∉ l) := by
            intro y hy
            rcases (mem_take (by rw [hkk.out]; exact hlt) y).1 hy with h1 | h1
            · exact HN.out y h1
            · rw [h1, HX.out]; exact isIn_not.1 HQ.out
          have hj1 : Hid (j + 1 ≤ L1.length) := by show _ ≤ _; rw [hkk.out]; exact hlt
          clear HN HQ HX
          go_wp2
          go_roundw
          case rel => exact ⟨j + 1, hj1.out, by go_num, HN2.out, rfl⟩
          case measure => simp [intOf]; omega
        · obtain ⟨ad, had⟩ : ∃ ad, (if vc = j + 1 then ⟨b, o, none⟩ else ⟨b, o + (j + 1), none⟩ : Addr) = ad := ⟨_, rfl⟩
          have hif : (if vc = j + 1 then some (⟨b, o, none⟩ : Addr) else some ⟨b, o + (j + 1), none⟩) = some ad := by rw [← had]; split <;> rfl
          have hq1 : (j : Int) + 1 ≤ (kk : Int) := by omega
          have hq2 : (kk : Int) ≤ (vc : Int) := by omega
          have hq3 : (0 : Int) ≤ (j : Int) + 1 := by omega
          have hkk2 := hkk
          have HS3 := HS
          have F := Lib.hid (HS3.out.doneAt hl0 (by rw [hkk.out]; exact hlt) HN.out had (n' := L1.length - (j + 1)) (c' := vc - (j + 1)) (by rw [hkk.out]; omega) (by omega) (by rw [HX.out]; exact HQ.out))
          rw [hkk.out, HX.out] at F
          have hx : Hid (x = idR s L l) := F.out.1
          clear HN HQ HX had HS3
          go_wp2_with fail
          refine bodyPost_ret (v := (.tuple #[.int .i64 x, .bool true])) (by simp [results, Try.results16, go_sem, *]) rfl ?_
          exact ⟨by rw [hx.out], F.out.2⟩
      · obtain rfl : j = kk := by omega
        have hge : ¬ (j : Int) < (j : Int) := by omega
        have HN2 : Hid (∀ y ∈ L1, y ∉ l) := by
          have := HN.out
          rwa [List.take_of_length_le (by rw [hkk.out]; exact Nat.le_refl _)] at this
        have hk3 : k = 0 := by
          rcases Nat.lt_or_ge k 1 with h1 | h1
          · omega
          · obtain ⟨x, r, e, hx⟩ := HK.out (by omega)
            exact absurd hx (HN2.out x (by rw [e]; simp))
        subst hk3
        have hr1 := Rd.touch HR.out HS.out.touch (fun b hb e => hne.out (by rw [← e]; exact hb))
        have K := rmix_ans s1 a l.length cap l (by omega) hcap hnil.out rfl _ hr1
        obtain ⟨⟨m, s2⟩, hm⟩ : ∃ q, mixL s1 l = q := ⟨_, rfl⟩
        rw [hm] at K
        simp only at K
        have FM : Hid (∀ (A : Option Addr) (c : Nat) w2, l.length ≤ c → Ans w1.heap.size w2 A l.length m → Below w1.heap.size w1 w2 → RnJ g s v L l w (.int .i64 1) ((w2.setCell ⟨g, 1, none⟩ (.slice A l.length c)).setCell ⟨g, 0, none⟩ (.int .u64 s2))) := fun A c w2 hlc hans hb => by
          obtain ⟨x, r, s', h1, h2, -⟩ := nextL_cases s1 [] l hl0
          rw [nextL_nil, hm] at h1
          injection h1 with h1 h3
          exact ⟨1, _, _, _, rfl, by omega, HS.out.mixedA hl HN2.out hb hm hlc hans h1 h2, fun _ => ⟨x, r, rfl, h2⟩⟩
        have HX := Lib.hid HS.out.rs.box
        clear hr1 hm HN HN2 x0 x1 f0 f1 HK
        have hq : L1.length = L1.length := rfl
        rw [hkk.out] at HX
        clear hq HS
        have x0 := HX.out.cell 0 _ rfl
        have x1 := HX.out.cell 1 _ rfl
        have f0 := HX.out.free 0 _ rfl
        have f1 := HX.out.free 1 _ rfl
        go_wp2_with fail
        refine K.mono ?_; rintro e w2 ⟨A, c, rfl, hlc, hans, hb⟩
        have F := Lib.hid (FM.out A c w2 hlc hans hb)
        have HX2 := Lib.hid (HX.out.keep hb)
        clear K FM hlc hans hb HX x0 x1 f0 f1 gl
        have x0 := HX2.out.cell 0 _ rfl
        have x1 := HX2.out.cell 1 _ rfl
        have f0 := HX2.out.free 0 _ rfl
        have f1 := HX2.out.free 1 _ rfl
        have gl := HX2.out.lt
        go_wp2_with fail
        go_roundw
        case rel => exact F.out
        case measure => simp [intOf]
theorem ref_next (g : Nat) (s : Int) (v : Sl) (L : List Int) (a : Option Addr) (cap : Nat) (l : List Int) (hl : l.length ≤ 1000) (hcap : l.length ≤ cap) (hnil : a = none → l.length = 0 ∧ cap = 0) (w : World) (h : Rs g s v L w) (hr : Rd .i64 w w.heap.size a l) (hne : 0 < l.length → ¬ blk a g) :
    Calls Try.prog 16 #[.pointer (some ⟨g, 0, none⟩), .slice a l.length cap] w fun e w' => e = .returned (.tuple #[.int .i64 (idR s L l), .bool (okR l)]) ∧ AftR g v (stR s L l) (leftR s L l) w w' := by
  by_cases h0 : 0 < l.length
  · rw [okR_iff.2 h0]
    exact ref_some g s v L a cap l h0 hl hcap w h hr (hne h0) hnil
  · have h1 : l.length = 0 := by omega
    have h2 : okR l = false := by unfold okR; rw [h1]; rfl
    unfold idR stR leftR
    rw [h2, h1]
    exact (ref_none g s v L a cap w h).mono fun e w' ⟨he, hw⟩ => ⟨he, by subst hw; exact h.same (Below.refl _ _)⟩
end Go.Proofs.Ytheipflmkjiimaa
