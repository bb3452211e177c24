/- The contract of digits: a loop made of goto, and a way out forward. -/
import Derived.Test.YtdihpiggknhojaaDoorAddrGet
import Derived.ScopeJumps
namespace Go.Proofs.YtdihpiggknhojaaDoor
open Go.RowKit
set_option linter.unusedVariables false
set_option linter.unusedSimpArgs false

/-- jumps to several labels -/
def jumpsTo (J : Nat → Act → World → Prop) (Q : Exit → Act → World → Prop) : Exit → Act → World → Prop
  | .goto l, a, w => J l a w
  | e, a, w => Q e a w
theorem wp_scope_many {P : Program} {c : Code} {a : Act} {w : World} {Q : Exit → Act → World → Prop} (J : Nat → Act → World → Prop) (μ : Nat → Act → World → Nat) (R : Nat → Code) (hf : ∀ l a w, J l a w → findLabel c l = some (R l))
    (first : c.wp P (jumpsTo J Q) a w)
    (pass : ∀ l a w, J l a w → (R l).wp P (jumpsTo (fun l' a' w' => J l' a' w' ∧ μ l' a' w' < μ l a w) Q) a w) : (Code.scope c).wp P Q a w := by
  intro b k cs
  have hg : ∀ l a w, J l a w → gotoIn l (.inScope c :: k) = some (.code (R l) :: .inScope c :: k) := fun l a w h => by simp [gotoIn, hf l a w h]
  have key : ∀ n l a w, μ l a w = n → J l a w → ∃ e a' w', Q e a' w' ∧ Arrives P (lone (b.at a (.code (R l) :: .inScope c :: k)) cs w) b k cs e a' w' := by
    intro n
    induction n using Nat.strongRecOn with
    | _ n ih =>
      intro l a w hn hJ
      obtain ⟨e, a₁, w₁, hq, harr⟩ := pass l a w hJ b (.inScope c :: k) cs
      cases e with
      | normal => exact ⟨.normal, a₁, w₁, hq, Steps.trans harr (.one step_inScope)⟩
      | exit id => exact ⟨.exit id, a₁, w₁, hq, fun k' hk => harr k' (by simp [exitTo, hk])⟩
      | goto l' =>
        obtain ⟨hJ', hlt⟩ := hq
        obtain ⟨e₂, a₂, w₂, hq₂, harr₂⟩ := ih _ (by omega) l' a₁ w₁ rfl hJ'
        exact ⟨e₂, a₂, w₂, hq₂, .of_steps (harr _ (hg l' a₁ w₁ hJ')) harr₂⟩
      | ret => exact ⟨_, a₁, w₁, hq, harr⟩
      | panic ch => exact ⟨_, a₁, w₁, hq, harr⟩
      | outgrown => exact ⟨_, a₁, w₁, hq, harr⟩
  obtain ⟨e, a₁, w₁, hq, harr⟩ := first b (.inScope c :: k) cs
  cases e with
  | normal => exact ⟨.normal, a₁, w₁, hq, .head step_scope (Steps.trans harr (.one step_inScope))⟩
  | exit id => exact ⟨.exit id, a₁, w₁, hq, fun k' hk => .head step_scope (harr k' (by simp [exitTo, hk]))⟩
  | goto l' =>
    obtain ⟨e₂, a₂, w₂, hq₂, harr₂⟩ := key _ l' a₁ w₁ rfl hq
    exact ⟨e₂, a₂, w₂, hq₂, .of_steps (.head step_scope (harr _ (hg l' a₁ w₁ hq))) harr₂⟩
  | ret => exact ⟨_, a₁, w₁, hq, .of_steps (.one step_scope) harr⟩
  | panic ch => exact ⟨_, a₁, w₁, hq, .of_steps (.one step_scope) harr⟩
  | outgrown => exact ⟨_, a₁, w₁, hq, .of_steps (.one step_scope) harr⟩

/-- jumps to two labels: the first is come to again and again, the second once -/
def jump2 (l1 : Nat) (J1 : Act → World → Prop) (l0 : Nat) (J0 : Act → World → Prop) (Q : Exit → Act → World → Prop) : Exit → Act → World → Prop
  | .goto l, a, w => (l = l1 ∧ J1 a w) ∨ (l = l0 ∧ J0 a w)
  | e, a, w => Q e a w
theorem wp_scope_two {P : Program} {c rest1 rest0 : Code} {a : Act} {w : World} {Q : Exit → Act → World → Prop} (l1 l0 : Nat) (h10 : l1 ≠ l0) (J1 J0 : Act → World → Prop) (μ : Act → World → Nat) (hf1 : findLabel c l1 = some rest1) (hf0 : findLabel c l0 = some rest0)
    (first : c.wp P (jump2 l1 J1 l0 J0 Q) a w)
    (pass1 : ∀ a w, J1 a w → rest1.wp P (jump2 l1 (fun a' w' => J1 a' w' ∧ μ a' w' < μ a w) l0 J0 Q) a w)
    (pass0 : ∀ a w, J0 a w → rest0.wp P (Exit.noGoto Q) a w) : (Code.scope c).wp P Q a w := by
  refine wp_scope_many (fun l a w => (l = l1 ∧ J1 a w) ∨ (l = l0 ∧ J0 a w)) (fun l a w => if l = l1 then μ a w + 1 else 0) (fun l => if l = l1 then rest1 else rest0) ?_ ?_ ?_
  · rintro l a w (⟨rfl, _⟩ | ⟨rfl, _⟩)
    · simp [hf1]
    · rw [if_neg (Ne.symm h10)]; exact hf0
  · refine Code.wp_mono (fun e a1 w1 h => ?_) first
    cases e <;> exact h
  · rintro l a w (⟨rfl, hJ⟩ | ⟨rfl, hJ⟩)
    · simp only [if_pos]
      refine Code.wp_mono (fun e a1 w1 h => ?_) (pass1 a w hJ)
      cases e with
      | goto l' =>
        rcases h with ⟨rfl, h1, h2⟩ | ⟨rfl, h1⟩
        · exact ⟨.inl ⟨rfl, h1⟩, by simp; exact h2⟩
        · exact ⟨.inr ⟨rfl, h1⟩, by rw [if_neg (Ne.symm h10)]; omega⟩
      | _ => exact h
    · rw [if_neg (Ne.symm h10)]
      refine Code.wp_mono (fun e a1 w1 h => ?_) (pass0 a w hJ)
      cases e with
      | goto l' => exact h.elim
      | _ => exact h

theorem ba_get0 (P : ByteArray) (i : Nat) (h : i < P.size) (h2 : i < P.data.toList.length) : P[i]'h = P.data.toList[i]'h2 := by simp; rfl
theorem drop_get (s : ByteArray) (p : Nat) (h : p < s.size) : s.data.toList.drop p = s[p] :: s.data.toList.drop (p + 1) := by
  rw [List.drop_eq_getElem_cons (by rw [ba_len]; exact h)]
  rw [ba_get0 s p h (by rw [ba_len]; exact h)]
/-- what digits answers -/
def digV (s : ByteArray) : Option (Nat × Nat) → Value
  | none => .tuple #[.int .u32 0, .string ⟨#[]⟩, .bool false]
  | some (n, p) => .tuple #[.int .u32 n, .string (s.extract p s.size), .bool true]
/-- what is read at the end -/
def dend (s : ByteArray) : Option (Nat × Nat) → Option (Nat × Nat)
  | none => none
  | some (n, p) => if p = 0 ∨ (1 < p ∧ s.data.toList.head? = some 48) then none else some (n, p)
theorem dgs_dend (most : Nat) (s : ByteArray) : dgs most s.data.toList = dend s (dloop most s.data.toList 0 0) := by
  unfold dgs dend
  cases dloop most s.data.toList 0 0 with
  | none => rfl
  | some x => obtain ⟨n, p⟩ := x; rfl
/-- what the frame holds at a jump -/
def DFrame (s : ByteArray) (most vn vp : Int) (t : Array Value) : Prop :=
  ∃ (u4 u5 u6 u9 u10 u11 u12 u13 u14 u15 u16 u17 u18 u19 u20 u21 u22 u23 u24 u25 u26 u27 u28 u29 u30 u31 u32 u33 u34 u35 u36 u37 u38 u39 u40 u41 u42 u43 u44 u45 u46 u47 u48 u49 u50 u51 u52 : Value), t = #[.string s, .int .u32 most, undef, undef, u4, u5, u6, .int .u32 vn, .int .i64 vp, u9, u10, u11, u12, u13, u14, u15, u16, u17, u18, u19, u20, u21, u22, u23, u24, u25, u26, u27, u28, u29, u30, u31, u32, u33, u34, u35, u36, u37, u38, u39, u40, u41, u42, u43, u44, u45, u46, u47, u48, u49, u50, u51, u52]
def DJ1 (s : ByteArray) (most : Nat) (R : Option (Nat × Nat)) (w : World) (a' : Act) (w' : World) : Prop :=
  ∃ (n p : Nat) (vn vp : Int), vn = n ∧ vp = p ∧ p ≤ s.size ∧ n ≤ most ∧ a'.defers = [] ∧ DFrame s most vn vp a'.tmps ∧ w = w' ∧ dloop most (s.data.toList.drop p) n p = R
def DJ0 (s : ByteArray) (most : Nat) (R : Option (Nat × Nat)) (w : World) (a' : Act) (w' : World) : Prop :=
  ∃ (n p : Nat) (vn vp : Int), vn = n ∧ vp = p ∧ p ≤ s.size ∧ n ≤ most ∧ a'.defers = [] ∧ DFrame s most vn vp a'.tmps ∧ w = w' ∧ R = some (n, p)
def DM (s : ByteArray) (a' : Act) (w' : World) : Nat := s.size - (intOf (a'.tmps.getD 8 undef)).toNat

theorem dl_end {s : ByteArray} {most n p : Nat} {R : Option (Nat × Nat)} (h : dloop most (s.data.toList.drop p) n p = R) (hp : p = s.size) : R = some (n, p) := by
  subst h hp
  rw [List.drop_of_length_le (by rw [ba_len]; exact Nat.le_refl _)]
  rfl
theorem dl_stop {s : ByteArray} {most n p : Nat} {R : Option (Nat × Nat)} (h : dloop most (s.data.toList.drop p) n p = R) (hp : p < s.size) (hc : s[p].toNat < 48 ∨ 57 < s[p].toNat) : R = some (n, p) := by
  subst h
  rw [drop_get s p hp, dloop, if_neg]
  rw [isD_iff]; omega
theorem dl_go {s : ByteArray} {most n p d : Nat} {R : Option (Nat × Nat)} (h : dloop most (s.data.toList.drop p) n p = R) (hp : p < s.size) (h1 : s[p].toNat = 48 + d) (h2 : d ≤ 9) (hm : n * 10 + d ≤ most) :
    dloop most (s.data.toList.drop (p + 1)) (n * 10 + d) (p + 1) = R := by
  rw [drop_get s p hp, dloop, if_pos ((isD_iff _).2 (by omega)), if_pos (by omega)] at h
  rwa [show s[p].toNat - 48 = d by omega] at h
theorem dl_over {s : ByteArray} {most n p d : Nat} {R : Option (Nat × Nat)} (h : dloop most (s.data.toList.drop p) n p = R) (hp : p < s.size) (h1 : s[p].toNat = 48 + d) (h2 : d ≤ 9) (hm : most < n * 10 + d) : R = none := by
  rw [drop_get s p hp, dloop, if_pos ((isD_iff _).2 (by omega)), if_neg (by omega)] at h
  exact h.symm

set_option maxRecDepth 100000 in
set_option maxHeartbeats 1600000 in
theorem dig_any (s : ByteArray) (most : Nat) (hm : most ≤ 65535) (hs : s.size ≤ 9223372036854775807) (w : World) :
    Calls Tryd.prog 34 #[.string s, .int .u32 most] w fun e w' => e = .returned (digV s (dgs most s.data.toList)) ∧ Below w.heap.size w w' := by
  rw [dgs_dend]
  obtain ⟨R, hR⟩ : ∃ R, dloop most s.data.toList 0 0 = R := ⟨_, rfl⟩
  rw [hR]
  have HR : Hid (dloop most (s.data.toList.drop 0) 0 0 = R) := hR
  clear hR
  go_enter Tryd.func34, Tryd.ntmps34
  go_wp2
  refine wp_scope_two 1 0 (by omega) (DJ1 s most R w) (DJ0 s most R w) (DM s) rfl rfl ?_ ?_ ?_
  · go_wp2_with fail
    go_step3
    by_cases hps : 0 = s.size
    · have HE := Lib.hid (dl_end HR.out hps)
      have hps2 : (0 : Int) = s.size := by omega
      clear hps
      go_wp2
      go_step3
      go_wp2
      exact .inr ⟨rfl, 0, 0, _, _, rfl, rfl, (Nat.zero_le _), (Nat.zero_le _), rfl, ⟨_, _, _, _, _, _, _, _, _, _, _, _, _, _, _, _, _, _, _, _, _, _, _, _, _, _, _, _, _, _, _, _, _, _, _, _, _, _, _, _, _, _, _, _, _, _, _, rfl⟩, rfl, HE.out⟩
    · have hlt : 0 < s.size := by omega
      have hps2 : ¬ (0 : Int) = s.size := by omega
      have hc : s[0].toNat < 256 := s[0].toNat_lt
      by_cases c1 : s[0].toNat < 48
      · have HE := Lib.hid (dl_stop HR.out hlt (.inl c1))
        have c1i : (s[0].toNat : Int) < 48 := by omega
        go_wp2
        go_step3
        go_wp2
        exact .inr ⟨rfl, 0, 0, _, _, rfl, rfl, (Nat.zero_le _), (Nat.zero_le _), rfl, ⟨_, _, _, _, _, _, _, _, _, _, _, _, _, _, _, _, _, _, _, _, _, _, _, _, _, _, _, _, _, _, _, _, _, _, _, _, _, _, _, _, _, _, _, _, _, _, _, rfl⟩, rfl, HE.out⟩
      · have c1i : ¬ (s[0].toNat : Int) < 48 := by omega
        by_cases c2 : 57 < s[0].toNat
        · have HE := Lib.hid (dl_stop HR.out hlt (.inr c2))
          have c2i : (57 : Int) < s[0].toNat := by omega
          go_wp2
          go_step3
          go_wp2
          exact .inr ⟨rfl, 0, 0, _, _, rfl, rfl, (Nat.zero_le _), (Nat.zero_le _), rfl, ⟨_, _, _, _, _, _, _, _, _, _, _, _, _, _, _, _, _, _, _, _, _, _, _, _, _, _, _, _, _, _, _, _, _, _, _, _, _, _, _, _, _, _, _, _, _, _, _, rfl⟩, rfl, HE.out⟩
        · have c2i : ¬ (57 : Int) < s[0].toNat := by omega
          obtain ⟨d, hd48⟩ : ∃ d, s[0].toNat = 48 + d := ⟨s[0].toNat - 48, by omega⟩
          have hd9 : d ≤ 9 := by omega
          have e48 : (s[0].toNat : Int) - 48 = (d : Int) := by omega
          have HD := Lib.hid hd48
          by_cases c3 : 0 * 10 + d ≤ most
          · have HE := Lib.hid (dl_go HR.out hlt hd48 hd9 c3)
            have c3i : (d : Int) ≤ most := by omega
            clear hd48
            go_wp2
            go_step3
            go_wp2
            refine .inl ⟨rfl, 0 * 10 + d, 0 + 1, _, _, ?_, ?_, by omega, c3, rfl, ⟨_, _, _, _, _, _, _, _, _, _, _, _, _, _, _, _, _, _, _, _, _, _, _, _, _, _, _, _, _, _, _, _, _, _, _, _, _, _, _, _, _, _, _, _, _, _, _, rfl⟩, rfl, HE.out⟩ <;> (simp; done)
          · have HE := Lib.hid (dl_over HR.out hlt hd48 hd9 (by omega))
            have c3i : ¬ (d : Int) ≤ most := by omega
            clear hd48
            go_wp2
            simp only [jump2]
            refine bodyPost_ret (v := .tuple #[.int .u32 0, .string ⟨#[]⟩, .bool false]) (by simp [results, Tryd.results34, go_sem, *]) rfl ⟨?_, by first | exact Below.refl _ _ | exact (Below.refl _ _).drew⟩
            rw [HE.out]
            rfl
  · rintro ⟨t1, d1⟩ w1 ⟨n, p, vn, vp, rfl, rfl, hp, hn, hd, ⟨u4, u5, u6, u9, u10, u11, u12, u13, u14, u15, u16, u17, u18, u19, u20, u21, u22, u23, u24, u25, u26, u27, u28, u29, u30, u31, u32, u33, u34, u35, u36, u37, u38, u39, u40, u41, u42, u43, u44, u45, u46, u47, u48, u49, u50, u51, u52, ht⟩, rfl, hR⟩
    obtain rfl : d1 = [] := hd
    obtain rfl : t1 = _ := ht
    have HR := Lib.hid hR
    clear hR
    by_cases hps : p = s.size
    · subst hps
      have HE := Lib.hid (dl_end HR.out rfl)
      go_wp2
      go_step3
      go_wp2
      exact .inr ⟨rfl, n, s.size, _, _, rfl, rfl, hp, hn, rfl, ⟨_, _, _, _, _, _, _, _, _, _, _, _, _, _, _, _, _, _, _, _, _, _, _, _, _, _, _, _, _, _, _, _, _, _, _, _, _, _, _, _, _, _, _, _, _, _, _, rfl⟩, rfl, HE.out⟩
    · have hlt : p < s.size := by omega
      have hps2 : ¬ (p : Int) = s.size := by omega
      have hc : s[p].toNat < 256 := s[p].toNat_lt
      by_cases c1 : s[p].toNat < 48
      · have HE := Lib.hid (dl_stop HR.out hlt (.inl c1))
        have c1i : (s[p].toNat : Int) < 48 := by omega
        go_wp2
        go_step3
        go_wp2
        exact .inr ⟨rfl, n, p, _, _, rfl, rfl, hp, hn, rfl, ⟨_, _, _, _, _, _, _, _, _, _, _, _, _, _, _, _, _, _, _, _, _, _, _, _, _, _, _, _, _, _, _, _, _, _, _, _, _, _, _, _, _, _, _, _, _, _, _, rfl⟩, rfl, HE.out⟩
      · have c1i : ¬ (s[p].toNat : Int) < 48 := by omega
        by_cases c2 : 57 < s[p].toNat
        · have HE := Lib.hid (dl_stop HR.out hlt (.inr c2))
          have c2i : (57 : Int) < s[p].toNat := by omega
          go_wp2
          go_step3
          go_wp2
          exact .inr ⟨rfl, n, p, _, _, rfl, rfl, hp, hn, rfl, ⟨_, _, _, _, _, _, _, _, _, _, _, _, _, _, _, _, _, _, _, _, _, _, _, _, _, _, _, _, _, _, _, _, _, _, _, _, _, _, _, _, _, _, _, _, _, _, _, rfl⟩, rfl, HE.out⟩
        · have c2i : ¬ (57 : Int) < s[p].toNat := by omega
          obtain ⟨d, hd48⟩ : ∃ d, s[p].toNat = 48 + d := ⟨s[p].toNat - 48, by omega⟩
          have hd9 : d ≤ 9 := by omega
          have e48 : (s[p].toNat : Int) - 48 = (d : Int) := by omega
          have HD := Lib.hid hd48
          by_cases c3 : n * 10 + d ≤ most
          · have HE := Lib.hid (dl_go HR.out hlt hd48 hd9 c3)
            have c3i : (n : Int) * 10 + (d : Int) ≤ most := by omega
            clear hd48
            go_wp2
            go_step3
            go_wp2
            refine .inl ⟨rfl, ⟨n * 10 + d, p + 1, _, _, ?_, ?_, by omega, c3, rfl, ⟨_, _, _, _, _, _, _, _, _, _, _, _, _, _, _, _, _, _, _, _, _, _, _, _, _, _, _, _, _, _, _, _, _, _, _, _, _, _, _, _, _, _, _, _, _, _, _, rfl⟩, rfl, HE.out⟩, ?_⟩
            · simp
            · simp
            · simp [DM, intOf]; omega
          · have HE := Lib.hid (dl_over HR.out hlt hd48 hd9 (by omega))
            have c3i : ¬ (n : Int) * 10 + (d : Int) ≤ most := by omega
            clear hd48
            go_wp2
            simp only [jump2]
            refine bodyPost_ret (v := .tuple #[.int .u32 0, .string ⟨#[]⟩, .bool false]) (by simp [results, Tryd.results34, go_sem, *]) rfl ⟨?_, by first | exact Below.refl _ _ | exact (Below.refl _ _).drew⟩
            rw [HE.out]
            rfl
  · rintro ⟨t1, d1⟩ w1 ⟨n, p, vn, vp, rfl, rfl, hp, hn, hd, ⟨u4, u5, u6, u9, u10, u11, u12, u13, u14, u15, u16, u17, u18, u19, u20, u21, u22, u23, u24, u25, u26, u27, u28, u29, u30, u31, u32, u33, u34, u35, u36, u37, u38, u39, u40, u41, u42, u43, u44, u45, u46, u47, u48, u49, u50, u51, u52, ht⟩, rfl, hR⟩
    obtain rfl : d1 = [] := hd
    obtain rfl : t1 = _ := ht
    have HE := Lib.hid hR
    clear hR
    have hpi : (p : Int) ≤ s.size := by omega
    have hp00 : (0 : Int) ≤ p := by omega
    by_cases hp0 : p = 0
    · subst hp0
      have HF : Hid (dend s R = none) := by show _ = _; rw [HE.out]; simp [dend]
      go_wp2
      rw [Exit.noGoto_ret]
      refine bodyPost_ret (v := .tuple #[.int .u32 0, .string ⟨#[]⟩, .bool false]) (by simp [results, Tryd.results34, go_sem, *]) rfl ⟨?_, by first | exact Below.refl _ _ | exact (Below.refl _ _).drew⟩
      rw [HF.out]
      rfl
    · have hp0i : ¬ (p : Int) = 0 := by omega
      by_cases hp1 : 1 < p
      · have hp1i : (1 : Int) < p := by omega
        have hlt : 0 < s.size := by omega
        have hc : s[0].toNat < 256 := s[0].toNat_lt
        by_cases h48 : s[0].toNat = 48
        · have HF : Hid (dend s R = none) := by
            show _ = _
            have h0 : s.data.toList.head? = some 48 := by
              have := drop_get s 0 hlt
              rw [List.drop_zero] at this
              rw [this]
              exact congrArg some (UInt8.toNat_inj.1 h48)
            rw [HE.out]; simp [dend, hp1, h0]
          have h48i : (s[0].toNat : Int) = 48 := by omega
          go_wp2
          rw [Exit.noGoto_ret]
          refine bodyPost_ret (v := .tuple #[.int .u32 0, .string ⟨#[]⟩, .bool false]) (by simp [results, Tryd.results34, go_sem, *]) rfl ⟨?_, by first | exact Below.refl _ _ | exact (Below.refl _ _).drew⟩
          rw [HF.out]
          rfl
        · have HF : Hid (dend s R = some (n, p)) := by
            show _ = _
            have h0 : s.data.toList.head? ≠ some 48 := by
              have := drop_get s 0 hlt
              rw [List.drop_zero] at this
              rw [this]
              intro e
              injection e with e
              exact h48 (congrArg UInt8.toNat e)
            rw [HE.out]; simp [dend, hp0, h0]
          have h48i : ((s[0].toNat : Int) == 48) = false := by rw [beq_eq_false_iff_ne]; omega
          have hp0b : ((p : Int) == 0) = false := by rw [beq_eq_false_iff_ne]; omega
          go_wp2
          go_region
          all_goals go_wp2
          all_goals rw [Exit.noGoto_ret]
          all_goals refine bodyPost_ret (v := .tuple #[.int .u32 n, .string (s.extract p s.size), .bool true]) (by simp [results, Tryd.results34, go_sem, *]) rfl ⟨?_, by first | exact Below.refl _ _ | exact (Below.refl _ _).drew⟩
          all_goals rw [HF.out]
          all_goals rfl
      · have hp1i : ¬ (1 : Int) < p := by omega
        have HF : Hid (dend s R = some (n, p)) := by show _ = _; rw [HE.out]; simp [dend, hp0, hp1]
        go_wp2
        go_region
        all_goals go_wp2
        all_goals rw [Exit.noGoto_ret]
        all_goals refine bodyPost_ret (v := .tuple #[.int .u32 n, .string (s.extract p s.size), .bool true]) (by simp [results, Tryd.results34, go_sem, *]) rfl ⟨?_, by first | exact Below.refl _ _ | exact (Below.refl _ _).drew⟩
        all_goals rw [HF.out]
        all_goals rfl
end Go.Proofs.YtdihpiggknhojaaDoor
