/- Plain mathematics of NetWrong: what a plan is; which plans make a net, which make none. -/
import Derived.Test.YtdpgmdkclaahdaaNeEx
namespace Go.Proofs.Ytdpgmdkclaahdaa.Ne
open Go.Sort Go.RowKit Go.BigFrame
set_option linter.unusedVariables false
set_option linter.unusedSimpArgs false

def plB (bs : List Sp) (i : Nat) (z : Int) : List Sp := if z % 4 > 0 ∨ bs = [] then bs ++ [⟨z / 4 % 3, z / 12 % 3, 50 + (i : Int), 5 + z % 20, 3⟩] else bs
def plH (bs : List Sp) (i : Nat) (z : Int) : Ho := ⟨10 + (i : Int), 7, if z > 240 then 0 else (bs.length : Int)⟩
/-- behind the first so many bytes -/
def plS (zs : List Int) : Nat → List Ho × List Sp
  | 0 => ([⟨1, 7, 0⟩], [])
  | i + 1 => ((plS zs i).1 ++ [plH (plB (plS zs i).2 i (zs.getD i 0)) i (zs.getD i 0)], plB (plS zs i).2 i (zs.getD i 0))
structure OkP (i : Nat) (hs : List Ho) (sp : List Sp) : Prop where
  hl : hs.length = i + 1
  sl : sp.length ≤ i
  h0 : ∀ h ∈ hs, Bg.noneA h.i h.p = false ∧ 0 ≤ h.b ∧ h.b ≤ sp.length ∧ (h.i = 1 ∨ (10 ≤ h.i ∧ h.i < 10 + (i : Int)))
  hd : hs.Pairwise fun x y => x.i ≠ y.i
  s0 : ∀ s ∈ sp, Nb.badN s.m s.f s.ip s.hold s.room = false ∧ 0 ≤ s.hold ∧ 50 ≤ s.ip ∧ s.ip < 50 + (i : Int)
  sd : sp.Pairwise fun x y => x.ip ≠ y.ip
theorem okB {i : Nat} {bs : List Sp} {z : Int} (hz : 0 ≤ z ∧ z < 256) (h0 : ∀ s ∈ bs, Nb.badN s.m s.f s.ip s.hold s.room = false ∧ 0 ≤ s.hold ∧ 50 ≤ s.ip ∧ s.ip < 50 + (i : Int)) (hd : bs.Pairwise fun x y => x.ip ≠ y.ip) :
    (∀ s ∈ plB bs i z, Nb.badN s.m s.f s.ip s.hold s.room = false ∧ 0 ≤ s.hold ∧ 50 ≤ s.ip ∧ s.ip < 50 + ((i + 1 : Nat) : Int)) ∧ ((plB bs i z).Pairwise fun x y => x.ip ≠ y.ip) ∧ (plB bs i z).length ≤ bs.length + 1 ∧ bs.length ≤ (plB bs i z).length := by
  unfold plB
  split
  · refine ⟨fun s hs => ?_, ?_, by simp, by simp⟩
    · rcases List.mem_append.1 hs with hs | hs
      · have := h0 s hs
        exact ⟨this.1, this.2.1, this.2.2.1, by have := this.2.2.2; omega⟩
      · obtain rfl := List.mem_singleton.1 hs
        refine ⟨?_, by show 0 ≤ 5 + z % 20; omega, by show 50 ≤ 50 + (i : Int); omega, by show 50 + (i : Int) < _; omega⟩
        unfold Nb.badN Nb.rightT Nb.kiB
        simp; omega
    · rw [List.pairwise_append]
      refine ⟨hd, by simp, fun a ha b hb => ?_⟩
      obtain rfl := List.mem_singleton.1 hb
      have := (h0 a ha).2.2.2
      show a.ip ≠ 50 + (i : Int)
      omega
  · exact ⟨fun s hs => by have := h0 s hs; exact ⟨this.1, this.2.1, this.2.2.1, by have := this.2.2.2; omega⟩, hd, by omega, by omega⟩
theorem plOk {zs : List Int} (hz : ∀ z ∈ zs, 0 ≤ z ∧ z < 256) : ∀ i, OkP i (plS zs i).1 (plS zs i).2
  | 0 => ⟨rfl, Nat.le_refl _, fun h hh => by obtain rfl := List.mem_singleton.1 hh; exact ⟨rfl, Int.le_refl _, Int.le_refl _, .inl rfl⟩, by simp [plS], by simp [plS], by simp [plS]⟩
  | i + 1 => by
    have ih := plOk hz i
    have hz' : 0 ≤ zs.getD i 0 ∧ zs.getD i 0 < 256 := by
      rw [List.getD_eq_getElem?_getD]
      cases h : zs[i]? with
      | none => exact ⟨by decide, by decide⟩
      | some z => exact hz z (List.mem_of_getElem? h)
    obtain ⟨k1, k2, k3, k4⟩ := okB (i := i) hz' ih.s0 ih.sd
    refine ⟨by simp [plS, ih.hl], ?_, fun h hh => ?_, ?_, k1, k2⟩
    · show (plB (plS zs i).2 i (zs.getD i 0)).length ≤ i + 1
      have := ih.sl; omega
    · rcases List.mem_append.1 (show h ∈ (plS zs i).1 ++ [_] from hh) with hh | hh
      · obtain ⟨q1, q2, q3, q4⟩ := ih.h0 h hh
        refine ⟨q1, q2, ?_, by omega⟩
        show h.b ≤ ((plB (plS zs i).2 i (zs.getD i 0)).length : Int)
        omega
      · obtain rfl := List.mem_singleton.1 hh
        refine ⟨?_, ?_, ?_, .inr ⟨by show 10 ≤ 10 + (i : Int); omega, by show 10 + (i : Int) < _; omega⟩⟩
        · unfold Bg.noneA plH; simp; omega
        · unfold plH; simp only; split <;> omega
        · show (plH _ _ _).b ≤ ((plB (plS zs i).2 i (zs.getD i 0)).length : Int)
          unfold plH; simp only; split <;> omega
    · show ((plS zs i).1 ++ [_]).Pairwise _
      rw [List.pairwise_append]
      refine ⟨ih.hd, by simp, fun a ha b hb => ?_⟩
      obtain rfl := List.mem_singleton.1 hb
      have := (ih.h0 a ha).2.2.2
      show a.i ≠ 10 + (i : Int)
      omega
theorem allH_yes (k : Int) : ∀ (pre l : List Ho), (∀ h ∈ l, oneH k h = true) → (pre ++ l).Pairwise (fun x y => x.i ≠ y.i) → allH k pre l = true
  | pre, [], _, _ => rfl
  | pre, h :: l, h1, h2 => by
    have e1 := h1 h (by simp)
    have e2 : freshH pre h = true := by
      unfold freshH
      rw [Bool.not_eq_true', List.any_eq_false]
      intro x hx
      have := (List.pairwise_append.1 h2).2.2 x hx h (by simp)
      simp [this]
    show (oneH k h && freshH pre h && allH k (pre ++ [h]) l) = true
    rw [e1, e2, allH_yes k (pre ++ [h]) l (fun x hx => h1 x (by simp [hx])) (by simpa using h2)]; rfl
theorem allH_no (k : Int) : ∀ (pre l : List Ho), (∃ h ∈ l, oneH k h = false) → allH k pre l = false
  | pre, [], h => by obtain ⟨x, hx, _⟩ := h; cases hx
  | pre, h :: l, hx => by
    show (oneH k h && freshH pre h && allH k (pre ++ [h]) l) = false
    obtain ⟨x, hx, h2⟩ := hx
    rcases List.mem_cons.1 hx with rfl | hx
    · rw [h2]; rfl
    · rw [allH_no k (pre ++ [h]) l ⟨x, hx, h2⟩, Bool.and_false]
theorem allH_dup (k : Int) (x : Ho) : ∀ (pre l : List Ho), x ∈ pre ++ l → allH k pre (l ++ [x]) = false
  | pre, [], h => by
    show (oneH k x && freshH pre x && true) = false
    have : freshH pre x = false := by
      unfold freshH
      rw [Bool.not_eq_false', List.any_eq_true]
      exact ⟨x, by simpa using h, by simp⟩
    rw [this]; simp
  | pre, h :: l, hx => by
    show (oneH k h && freshH pre h && allH k (pre ++ [h]) (l ++ [x])) = false
    rw [allH_dup k x (pre ++ [h]) l (by simpa using hx), Bool.and_false]
theorem addS_yes (hs : List Ho) : ∀ (bs : List Nb.Bx) (sp : List Sp), (∀ s ∈ sp, Nb.badN s.m s.f s.ip s.hold s.room = false ∧ hostsP hs s.ip = false ∧ ∀ b ∈ bs, b.ip ≠ s.ip) → sp.Pairwise (fun x y => x.ip ≠ y.ip) → ∃ r, addS hs bs sp = some r
  | bs, [], _, _ => ⟨bs, rfl⟩
  | bs, s :: l, h, hd => by
    obtain ⟨h1, h2, h3⟩ := h s (by simp)
    have e : badS hs bs s = false := by
      unfold badS
      rw [h1, h2]
      have : boxesP bs s.ip = false := by
        unfold boxesP; rw [List.any_eq_false]; intro b hb; simp [h3 b hb]
      rw [this]; rfl
    show ∃ r, (if badS hs bs s then none else addS hs (bs ++ [bxOf s]) l) = some r
    rw [e, if_neg (by simp)]
    refine addS_yes hs _ l (fun x hx => ?_) (List.pairwise_cons.1 hd).2
    obtain ⟨q1, q2, q3⟩ := h x (by simp [hx])
    refine ⟨q1, q2, fun b hb => ?_⟩
    rcases List.mem_append.1 hb with hb | hb
    · exact q3 b hb
    · obtain rfl := List.mem_singleton.1 hb
      exact (List.pairwise_cons.1 hd).1 x hx
theorem addS_no (hs : List Ho) (s : Sp) (r : List Sp) (h : ∀ bs, addS hs bs (s :: r) = none) : ∀ (bs : List Nb.Bx) (sp : List Sp), addS hs bs (sp ++ s :: r) = none
  | bs, [] => h bs
  | bs, x :: l => by
    show (if badS hs bs x then none else addS hs (bs ++ [bxOf x]) (l ++ s :: r)) = none
    split
    · rfl
    · exact addS_no hs s r h _ l
theorem plNew {i : Nat} {hs : List Ho} {sp : List Sp} (h : OkP i hs sp) (hi : i ≤ 5) : ∃ n, newN hs sp 9 = some n := by
  have hr : rightH hs sp.length = true := by
    unfold rightH
    rw [h.hl, decide_eq_true (by omega : 1 ≤ i + 1), decide_eq_true (by omega : i + 1 ≤ 32), allH_yes _ [] hs (fun x hx => ?_) (by simpa using h.hd)]; rfl
    obtain ⟨h1, h2, h3, _⟩ := h.h0 x hx
    unfold oneH; rw [h1, decide_eq_true h2, decide_eq_true h3]; rfl
  obtain ⟨r, hr2⟩ := addS_yes hs [] sp (fun s hs' => by
    obtain ⟨q1, q2, q3, q4⟩ := h.s0 s hs'
    refine ⟨q1, ?_, by simp⟩
    unfold hostsP; rw [List.any_eq_false]
    intro x hx
    have := (h.h0 x hx).2.2.2
    simp; omega) h.sd
  refine ⟨⟨hs, r, 9, []⟩, ?_⟩
  unfold newN
  have hsl := h.sl
  rw [hr, decide_eq_false (by omega : ¬ 16 < sp.length), hr2]; rfl
theorem newN_hosts {hs : List Ho} {sp : List Sp} {room : Int} (h : allH sp.length [] hs = false) : newN hs sp room = none := by
  unfold newN rightH
  rw [h]; simp
theorem newN_boxes {hs : List Ho} {sp : List Sp} {room : Int} (h : addS hs [] sp = none) : newN hs sp room = none := by
  unfold newN
  split
  · rfl
  · rw [h]; rfl
/-- the eight wrongs -/
theorem wrong0 {sp : List Sp} {b : Int} {l : List Ho} : newN (⟨0, 0, b⟩ :: l) sp 9 = none := newN_hosts (allH_no _ _ _ ⟨⟨0, 0, b⟩, .head _, rfl⟩)
theorem wrong1 {sp : List Sp} {x : Ho} {l : List Ho} : newN ((x :: l) ++ [x]) sp 9 = none := newN_hosts (allH_dup _ x [] (x :: l) (by simp))
theorem wrong2 {sp : List Sp} {a p : Int} {l : List Ho} : newN (⟨a, p, (sp.length : Int) + 1⟩ :: l) sp 9 = none := newN_hosts (allH_no _ _ _ ⟨⟨a, p, (sp.length : Int) + 1⟩, .head _, by unfold oneH; simp only; rw [decide_eq_false (by omega : ¬ ((sp.length : Int) + 1 ≤ sp.length)), Bool.and_false]⟩)
theorem wrong3 {sp : List Sp} {a p : Int} {l : List Ho} : newN (⟨a, p, -1⟩ :: l) sp 9 = none := newN_hosts (allH_no _ _ _ ⟨⟨a, p, -1⟩, .head _, by unfold oneH; simp⟩)
theorem wrong4 {sp : List Sp} {x : Ho} {l : List Ho} : newN (x :: l) (sp ++ [⟨0, 0, x.i, 1, 1⟩]) 9 = none := newN_boxes (addS_no _ _ [] (fun bs => by
  show (if badS (x :: l) bs ⟨0, 0, x.i, 1, 1⟩ then none else _) = none
  rw [if_pos]
  unfold badS hostsP; simp) _ _)
theorem wrong5 {sp : List Sp} {hs : List Ho} : newN hs (sp ++ [⟨0, 0, 77, 0, 1⟩]) 9 = none := newN_boxes (addS_no _ _ [] (fun bs => by
  show (if badS hs bs ⟨0, 0, 77, 0, 1⟩ then none else _) = none
  rw [if_pos]
  unfold badS; rfl) _ _)
theorem wrong6 {sp : List Sp} {hs : List Ho} : newN hs (sp ++ [⟨0, 0, 77, 1, 1⟩, ⟨0, 0, 77, 1, 1⟩]) 9 = none := newN_boxes (addS_no _ _ [⟨0, 0, 77, 1, 1⟩] (fun bs => by
  show (if badS hs bs ⟨0, 0, 77, 1, 1⟩ then none else (if badS hs (bs ++ [bxOf ⟨0, 0, 77, 1, 1⟩]) ⟨0, 0, 77, 1, 1⟩ then none else _)) = none
  split
  · rfl
  · rw [if_pos]
    unfold badS boxesP bxOf
    simp) _ _)
theorem wrong7 {sp : List Sp} {hs : List Ho} : newN hs sp 0 = none := by unfold newN; rfl
end Go.Proofs.Ytdpgmdkclaahdaa.Ne
