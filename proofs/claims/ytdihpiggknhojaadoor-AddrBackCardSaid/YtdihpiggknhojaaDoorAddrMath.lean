/- Plain mathematics of chapter 3: numbers in digits, the text of an address, what is read of a text. No program is read here. -/
import Derived.Test.YtdihpiggknhojaaDoorPackMath
import Derived.Lib.ItoaNum
import Derived.Lib.ItoaMem
namespace Go.Proofs.YtdihpiggknhojaaDoor
set_option linter.unusedVariables false
set_option linter.unusedSimpArgs false

def dd (n : Nat) : List UInt8 := Lib.decDigits n
theorem dd_one {n : Nat} (h : n < 10) : dd n = [UInt8.ofNat (48 + n)] := Lib.decDigits_one h
theorem dd_more {n : Nat} (h : ¬ n < 10) : dd n = dd (n / 10) ++ [UInt8.ofNat (48 + n % 10)] := by unfold dd; rw [Lib.decDigits, dif_neg h]
theorem dig_nat {d : Nat} (h : d < 10) : (UInt8.ofNat (48 + d)).toNat = 48 + d := by simp; omega
theorem dd_ne (n : Nat) : dd n ≠ [] := by
  by_cases h : n < 10
  · rw [dd_one h]; simp
  · rw [dd_more h]; simp
theorem dd_pos (n : Nat) : 1 ≤ (dd n).length := by
  have := dd_ne n
  cases h : dd n with
  | nil => exact absurd h this
  | cons x l => simp
theorem dd_all (n : Nat) : ∀ c ∈ dd n, 48 ≤ c.toNat ∧ c.toNat ≤ 57 := by
  induction n using Nat.strongRecOn with
  | _ n ih =>
    by_cases h : n < 10
    · rw [dd_one h]; intro c hc; simp only [List.mem_singleton] at hc; subst hc; rw [dig_nat h]; omega
    · rw [dd_more h]; intro c hc
      rcases List.mem_append.1 hc with hc | hc
      · exact ih (n / 10) (by omega) c hc
      · simp only [List.mem_singleton] at hc; subst hc; rw [dig_nat (by omega)]; omega
theorem head_app {l r : List UInt8} (h : l ≠ []) : (l ++ r).head? = l.head? := by
  cases l with
  | nil => exact absurd rfl h
  | cons x y => rfl
theorem dd_head (n : Nat) (h1 : 1 ≤ n) : (dd n).head? ≠ some 48 := by
  induction n using Nat.strongRecOn with
  | _ n ih =>
    by_cases h : n < 10
    · rw [dd_one h]
      intro e
      have e2 := congrArg (fun o : Option UInt8 => o.map UInt8.toNat) e
      simp only [List.head?_cons, Option.map_some, dig_nat h] at e2
      have : 48 + n = 48 := by simpa using e2
      omega
    · rw [dd_more h, head_app (dd_ne _)]
      exact ih (n / 10) (by omega) (by omega)
theorem dd_len3 (n : Nat) (h : n < 1000) : (dd n).length ≤ 3 := by
  by_cases h1 : n < 10
  · rw [dd_one h1]; simp
  · rw [dd_more h1]
    by_cases h2 : n / 10 < 10
    · rw [dd_one h2]; simp
    · rw [dd_more h2, dd_one (by omega)]; simp
theorem dd_len5 (n : Nat) (h : n < 100000) : (dd n).length ≤ 5 := by
  by_cases h1 : n < 10
  · rw [dd_one h1]; simp
  · rw [dd_more h1]
    by_cases h2 : n / 10 < 10
    · rw [dd_one h2]; simp
    · rw [dd_more h2]
      have := dd_len3 (n / 10 / 10) (by omega)
      simp; omega

/-- is it a digit? -/
def isD (c : UInt8) : Bool := decide (48 ≤ c.toNat) && decide (c.toNat ≤ 57)
theorem isD_iff (c : UInt8) : isD c = true ↔ 48 ≤ c.toNat ∧ c.toNat ≤ 57 := by simp [isD]
/-- digits' loop: the number, how many bytes; none where it is too great -/
def dloop (most : Nat) : List UInt8 → Nat → Nat → Option (Nat × Nat)
  | [], n, p => some (n, p)
  | c :: r, n, p => if isD c then (if n * 10 + (c.toNat - 48) ≤ most then dloop most r (n * 10 + (c.toNat - 48)) (p + 1) else none) else some (n, p)
/-- the number that l begins with, how many bytes it has -/
def dgs (most : Nat) (l : List UInt8) : Option (Nat × Nat) :=
  match dloop most l 0 0 with
  | none => none
  | some (n, p) => if p = 0 ∨ (1 < p ∧ l.head? = some 48) then none else some (n, p)

/-- no digit stands first -/
def noD (l : List UInt8) : Prop := ∀ c r, l = c :: r → isD c = false
theorem noD_nil : noD [] := fun _ _ h => by cases h
theorem noD_cons {c : UInt8} {r : List UInt8} (h : isD c = false) : noD (c :: r) := fun _ _ e => by injection e with e1 e2; subst e1; exact h
theorem dloop_stop (most : Nat) (l : List UInt8) (n p : Nat) (h : noD l) : dloop most l n p = some (n, p) := by
  cases l with
  | nil => rfl
  | cons c r => simp [dloop, h c r rfl]
theorem dloop_dd (most m : Nat) (hm : m ≤ most) : ∀ rest, dloop most (dd m ++ rest) 0 0 = dloop most rest m (dd m).length := by
  induction m using Nat.strongRecOn with
  | _ m ih =>
    intro rest
    by_cases h : m < 10
    · have e := dig_nat h
      rw [dd_one h]
      show dloop most (UInt8.ofNat (48 + m) :: rest) 0 0 = _
      have hd : isD (UInt8.ofNat (48 + m)) = true := (isD_iff _).2 (by rw [e]; omega)
      rw [dloop, if_pos hd, e, if_pos (by omega)]
      simp
    · have e := dig_nat (show m % 10 < 10 by omega)
      rw [dd_more h, List.append_assoc, ih (m / 10) (by omega) (by omega)]
      show dloop most (UInt8.ofNat (48 + m % 10) :: rest) _ _ = _
      have hd : isD (UInt8.ofNat (48 + m % 10)) = true := (isD_iff _).2 (by rw [e]; omega)
      rw [dloop, if_pos hd, e, if_pos (by omega)]
      have e2 : m / 10 * 10 + (48 + m % 10 - 48) = m := by omega
      rw [e2]
      simp
theorem dgs_dd (most m : Nat) (rest : List UInt8) (hm : m ≤ most) (hr : noD rest) : dgs most (dd m ++ rest) = some (m, (dd m).length) := by
  unfold dgs
  rw [dloop_dd most m hm, dloop_stop _ _ _ _ hr]
  have hp := dd_pos m
  have : ¬ ((dd m).length = 0 ∨ 1 < (dd m).length ∧ (dd m ++ rest).head? = some 48) := by
    rintro (h | ⟨h1, h2⟩)
    · omega
    · rw [head_app (dd_ne _)] at h2
      by_cases hz : m < 10
      · rw [dd_one hz] at h1; simp at h1
      · exact dd_head m (by omega) h2
  simp only [if_neg this]

/-- the number of digits, one behind the other -/
def val (a : Nat) (l : List UInt8) : Nat := l.foldl (fun n c => n * 10 + (c.toNat - 48)) a
theorem val_snoc (a : Nat) (l : List UInt8) (c : UInt8) : val a (l ++ [c]) = val a l * 10 + (c.toNat - 48) := by simp [val]
theorem val_ge (l : List UInt8) : ∀ a, a ≤ val a l := by
  induction l with
  | nil => intro a; exact Nat.le_refl _
  | cons c l ih => intro a; exact Nat.le_trans (by omega) (ih (a * 10 + (c.toNat - 48)))
theorem dloop_some (most : Nat) (l : List UInt8) : ∀ n p n' p', n ≤ most → dloop most l n p = some (n', p') → ∃ k, k ≤ l.length ∧ p' = p + k ∧ n' = val n (l.take k) ∧ n' ≤ most ∧ (∀ c ∈ l.take k, isD c = true) ∧ noD (l.drop k) := by
  induction l with
  | nil =>
    intro n p n' p' hn h
    injection h with h; injection h with h1 h2; subst h1 h2
    exact ⟨0, Nat.le_refl _, rfl, rfl, hn, by simp, noD_nil⟩
  | cons c r ih =>
    intro n p n' p' hn h
    by_cases hc : isD c = true
    · rw [dloop, if_pos hc] at h
      by_cases hm : n * 10 + (c.toNat - 48) ≤ most
      · rw [if_pos hm] at h
        obtain ⟨k, h1, h2, h3, h4, h5, h6⟩ := ih _ _ _ _ hm h
        refine ⟨k + 1, by simp; omega, by omega, by simpa [val] using h3, h4, ?_, by simpa using h6⟩
        intro d hd
        rw [List.take_succ_cons] at hd
        rcases List.mem_cons.1 hd with rfl | hd
        · exact hc
        · exact h5 d hd
      · rw [if_neg hm] at h; cases h
    · rw [dloop, if_neg hc] at h
      injection h with h; injection h with h1 h2; subst h1 h2
      exact ⟨0, Nat.zero_le _, rfl, rfl, hn, by simp, noD_cons (by simpa using hc)⟩
theorem ofNat_back (c : UInt8) (h : 48 ≤ c.toNat) : UInt8.ofNat (48 + (c.toNat - 48)) = c := by
  rw [show 48 + (c.toNat - 48) = c.toNat by omega]
  exact UInt8.ofNat_toNat
/-- digits without a needless zero are the number's -/
theorem dd_val (l : List UInt8) (hne : l ≠ []) (hd : ∀ c ∈ l, isD c = true) (hz : l.length = 1 ∨ l.head? ≠ some 48) : dd (val 0 l) = l ∧ (l.head? ≠ some 48 → 1 ≤ val 0 l) := by
  suffices H : ∀ k (l : List UInt8), l.length = k + 1 → (∀ c ∈ l, isD c = true) → (l.length = 1 ∨ l.head? ≠ some 48) → dd (val 0 l) = l ∧ (l.head? ≠ some 48 → 1 ≤ val 0 l) by
    cases hl : l.length with
    | zero => exact absurd (List.length_eq_zero_iff.1 hl) hne
    | succ k => exact H k l hl hd hz
  intro k
  induction k with
  | zero =>
    intro l hl hd _
    match l, hl with
    | [c], _ =>
      have h := (isD_iff c).1 (hd c (by simp))
      have e : val 0 [c] = c.toNat - 48 := by simp [val]
      rw [e]
      refine ⟨?_, ?_⟩
      · rw [dd_one (by omega), ofNat_back c h.1]
      · intro hh
        have : c ≠ 48 := fun e => hh (by rw [e]; rfl)
        have h3 : c.toNat ≠ 48 := fun e => this (UInt8.toNat_inj.1 e)
        omega
  | succ k ih =>
    intro l hl hd hz
    have hz' : l.head? ≠ some 48 := hz.resolve_left (by omega)
    obtain ⟨l', c, rfl⟩ : ∃ l' c, l = l' ++ [c] := by
      have hne : l ≠ [] := by intro e; rw [e] at hl; simp at hl
      exact ⟨l.dropLast, l.getLast hne, (List.dropLast_concat_getLast hne).symm⟩
    have hl' : l'.length = k + 1 := by simp at hl; exact hl
    have hne' : l' ≠ [] := by intro e; rw [e] at hl'; simp at hl'
    have hh : l'.head? ≠ some 48 := by rwa [head_app hne'] at hz'
    obtain ⟨i1, i2⟩ := ih l' hl' (fun d hd' => hd d (by simp [hd'])) (.inr hh)
    have i3 := i2 hh
    have h := (isD_iff c).1 (hd c (by simp))
    rw [val_snoc]
    refine ⟨?_, fun _ => by omega⟩
    rw [dd_more (by omega), show (val 0 l' * 10 + (c.toNat - 48)) / 10 = val 0 l' by omega, i1, show (val 0 l' * 10 + (c.toNat - 48)) % 10 = c.toNat - 48 by omega, ofNat_back c h.1]
theorem head_take (l : List UInt8) (k : Nat) (h : 1 ≤ k) : (l.take k).head? = l.head? := by
  cases l with
  | nil => simp
  | cons c r => obtain ⟨j, rfl⟩ : ∃ j, k = j + 1 := ⟨k - 1, by omega⟩; simp
theorem dgs_some {most : Nat} {l : List UInt8} {n p : Nat} (h : dgs most l = some (n, p)) : l = dd n ++ l.drop p ∧ p = (dd n).length ∧ n ≤ most ∧ noD (l.drop p) ∧ p ≤ l.length := by
  unfold dgs at h
  cases hl : dloop most l 0 0 with
  | none => rw [hl] at h; cases h
  | some x =>
    obtain ⟨n1, p1⟩ := x
    rw [hl] at h
    simp only at h
    obtain ⟨k, h1, h2, h3, h4, h5, h6⟩ := dloop_some most l 0 0 n1 p1 (Nat.zero_le _) hl
    by_cases hc : p1 = 0 ∨ (1 < p1 ∧ l.head? = some 48)
    · rw [if_pos hc] at h; cases h
    · rw [if_neg hc] at h
      injection h with h; injection h with e1 e2; subst e1 e2
      have hk : k = p1 := by omega
      subst hk
      have hlen : (l.take k).length = k := by rw [List.length_take]; omega
      have hz : (l.take k).length = 1 ∨ (l.take k).head? ≠ some 48 := by
        by_cases hk1 : k = 1
        · left; omega
        · right; intro e; rw [head_take l k (by omega)] at e; exact hc (.inr ⟨by omega, e⟩)
      have hne : l.take k ≠ [] := by intro e; rw [e] at hlen; simp at hlen; omega
      obtain ⟨d1, _⟩ := dd_val (l.take k) hne h5 hz
      rw [← h3] at d1
      refine ⟨by rw [d1, List.take_append_drop], by rw [d1, hlen], h4, h6, h1⟩

/-- a number, and the mark behind it -/
def step1 (mk : UInt8) (l : List UInt8) : Option (Nat × List UInt8) :=
  match dgs 255 l with
  | none => none
  | some (n, p) => if (l.drop p).head? = some mk then some (n, l.drop (p + 1)) else none
theorem step1_dd (mk : UInt8) (n : Nat) (r : List UInt8) (hn : n ≤ 255) (hmk : isD mk = false) : step1 mk (dd n ++ mk :: r) = some (n, r) := by
  unfold step1
  rw [dgs_dd 255 n _ hn (noD_cons hmk)]
  have e1 : (dd n ++ mk :: r).drop (dd n).length = mk :: r := by simp
  have e2 : (dd n ++ mk :: r).drop ((dd n).length + 1) = r := by rw [← List.drop_drop, e1]; rfl
  simp only [e1, e2, List.head?_cons, if_pos]
theorem step1_some {mk : UInt8} {l r : List UInt8} {n : Nat} (h : step1 mk l = some (n, r)) : l = dd n ++ mk :: r ∧ n ≤ 255 := by
  unfold step1 at h
  cases hg : dgs 255 l with
  | none => rw [hg] at h; cases h
  | some x =>
    obtain ⟨n1, p⟩ := x
    rw [hg] at h
    simp only at h
    by_cases hc : (l.drop p).head? = some mk
    · rw [if_pos hc] at h
      injection h with h; injection h with e1 e2; subst e1 e2
      obtain ⟨h1, h2, h3, _, _⟩ := dgs_some hg
      refine ⟨?_, h3⟩
      have e : l.drop p = mk :: l.drop (p + 1) := by
        rw [← List.drop_drop]
        cases hd : l.drop p with
        | nil => rw [hd] at hc; cases hc
        | cons x y => rw [hd] at hc; injection hc with hc; subst hc; simp
      rw [← e]; exact h1
    · rw [if_neg hc] at h; cases h

/-- what is read with k marks to come -/
def rdF : Nat → Nat → List UInt8 → Option (Nat × Nat)
  | 0, ip, l => match dgs 65535 l with
    | none => none
    | some (n, p) => if l.drop p = [] then some (ip, n) else none
  | k + 1, ip, l => match step1 (if k = 0 then 58 else 46) l with
    | none => none
    | some (n, r) => rdF k (ip * 256 + n) r
def rdL (l : List UInt8) : Option (Nat × Nat) := rdF 4 0 l
def txtL (ip port : Nat) : List UInt8 := dd (ip / 16777216) ++ 46 :: (dd (ip / 65536 % 256) ++ 46 :: (dd (ip / 256 % 256) ++ 46 :: (dd (ip % 256) ++ 58 :: dd port)))
theorem rd_txt (ip port : Nat) (h1 : ip < 4294967296) (h2 : port < 65536) : rdL (txtL ip port) = some (ip, port) := by
  unfold rdL txtL
  have d46 : isD 46 = false := by decide
  have d58 : isD 58 = false := by decide
  rw [rdF, if_neg (by omega), step1_dd 46 _ _ (by omega) d46]
  simp only
  rw [rdF, if_neg (by omega), step1_dd 46 _ _ (by omega) d46]
  simp only
  rw [rdF, if_neg (by omega), step1_dd 46 _ _ (by omega) d46]
  simp only
  rw [rdF, if_pos rfl, step1_dd 58 _ _ (by omega) d58]
  simp only
  have e := dgs_dd 65535 port [] (by omega) noD_nil
  rw [List.append_nil] at e
  rw [rdF, e]
  simp only [List.drop_length, if_pos]
  have : ((0 * 256 + ip / 16777216) * 256 + ip / 65536 % 256) * 256 + ip / 256 % 256 = ip / 256 := by omega
  have e2 : ip / 256 * 256 + ip % 256 = ip := Nat.div_add_mod' ip 256
  simp only [this, e2, if_true]
theorem txt_rd {l : List UInt8} {ip port : Nat} (h : rdL l = some (ip, port)) : l = txtL ip port ∧ ip < 4294967296 ∧ port < 65536 := by
  unfold rdL at h
  rw [rdF, if_neg (by omega)] at h
  cases s1 : step1 46 l with
  | none => rw [s1] at h; cases h
  | some x1 =>
    obtain ⟨a, l1⟩ := x1
    rw [s1] at h; simp only at h
    rw [rdF, if_neg (by omega)] at h
    cases s2 : step1 46 l1 with
    | none => rw [s2] at h; cases h
    | some x2 =>
      obtain ⟨b, l2⟩ := x2
      rw [s2] at h; simp only at h
      rw [rdF, if_neg (by omega)] at h
      cases s3 : step1 46 l2 with
      | none => rw [s3] at h; cases h
      | some x3 =>
        obtain ⟨c, l3⟩ := x3
        rw [s3] at h; simp only at h
        rw [rdF, if_pos rfl] at h
        cases s4 : step1 58 l3 with
        | none => rw [s4] at h; cases h
        | some x4 =>
          obtain ⟨d, l4⟩ := x4
          rw [s4] at h; simp only at h
          rw [rdF] at h
          cases s5 : dgs 65535 l4 with
          | none => rw [s5] at h; cases h
          | some x5 =>
            obtain ⟨n, p⟩ := x5
            rw [s5] at h; simp only at h
            by_cases hp : l4.drop p = []
            · rw [if_pos hp] at h
              injection h with h; injection h with e1 e2
              obtain ⟨q1, b1⟩ := step1_some s1
              obtain ⟨q2, b2⟩ := step1_some s2
              obtain ⟨q3, b3⟩ := step1_some s3
              obtain ⟨q4, b4⟩ := step1_some s4
              obtain ⟨q5, _, b5, _, _⟩ := dgs_some s5
              rw [hp, List.append_nil] at q5
              subst e2
              refine ⟨?_, by omega, by omega⟩
              unfold txtL
              rw [show ip / 16777216 = a by omega, show ip / 65536 % 256 = b by omega, show ip / 256 % 256 = c by omega, show ip % 256 = d by omega, ← q5, ← q4, ← q3, ← q2, ← q1]
            · rw [if_neg hp] at h; cases h
theorem txtL_len (ip port : Nat) (h1 : ip < 4294967296) (h2 : port < 65536) : (txtL ip port).length ≤ 21 ∧ 9 ≤ (txtL ip port).length := by
  have a := dd_len3 (ip / 16777216) (by omega)
  have b := dd_len3 (ip / 65536 % 256) (by omega)
  have c := dd_len3 (ip / 256 % 256) (by omega)
  have d := dd_len3 (ip % 256) (by omega)
  have e := dd_len5 port (by omega)
  have a' := dd_pos (ip / 16777216)
  have b' := dd_pos (ip / 65536 % 256)
  have c' := dd_pos (ip / 256 % 256)
  have d' := dd_pos (ip % 256)
  have e' := dd_pos port
  simp [txtL]; omega
theorem txtL_inj {ip port ip' port' : Nat} (h1 : ip < 4294967296) (h2 : port < 65536) (h3 : ip' < 4294967296) (h4 : port' < 65536) (h : txtL ip port = txtL ip' port') : ip = ip' ∧ port = port' := by
  have a := rd_txt ip port h1 h2
  rw [h, rd_txt ip' port' h3 h4] at a
  injection a with a; injection a with a b
  exact ⟨a.symm, b.symm⟩

/-- the document's way: all numbers between the marks -/
def pl2 (ps : List Nat) (v : Nat) : List UInt8 → List Nat
  | [] => ps ++ [v]
  | c :: r => if c = 46 ∨ c = 58 then pl2 (ps ++ [v]) 0 r else pl2 ps ((v * 10 + c.toNat % 16) % 18446744073709551616) r
theorem pl2_dd (ps : List Nat) (m : Nat) (hm : m < 18446744073709551616) : ∀ rest, pl2 ps 0 (dd m ++ rest) = pl2 ps m rest := by
  induction m using Nat.strongRecOn with
  | _ m ih =>
    intro rest
    have key : ∀ (d : Nat), d < 10 → ¬ (UInt8.ofNat (48 + d) = 46 ∨ UInt8.ofNat (48 + d) = 58) := by
      intro d hd
      have e := dig_nat hd
      rintro (h | h)
      · rw [h] at e; have : (46 : UInt8).toNat = 46 := rfl; omega
      · rw [h] at e; have : (58 : UInt8).toNat = 58 := rfl; omega
    by_cases h : m < 10
    · have e := dig_nat h
      rw [dd_one h]
      show pl2 ps 0 (UInt8.ofNat (48 + m) :: rest) = _
      rw [pl2, if_neg (key m h), e]
      congr 1
      omega
    · have e := dig_nat (show m % 10 < 10 by omega)
      rw [dd_more h, List.append_assoc, ih (m / 10) (by omega) (by omega)]
      show pl2 ps (m / 10) (UInt8.ofNat (48 + m % 10) :: rest) = _
      rw [pl2, if_neg (key _ (by omega)), e]
      congr 1
      omega
theorem pl2_mk (ps : List Nat) (v : Nat) (mk : UInt8) (h : mk = 46 ∨ mk = 58) (r : List UInt8) : pl2 ps v (mk :: r) = pl2 (ps ++ [v]) 0 r := by rw [pl2, if_pos h]
theorem pl2_txt (ip port : Nat) (h1 : ip < 4294967296) (h2 : port < 65536) : pl2 [] 0 (txtL ip port) = [ip / 16777216, ip / 65536 % 256, ip / 256 % 256, ip % 256, port] := by
  unfold txtL
  rw [pl2_dd _ _ (by omega), pl2_mk _ _ _ (.inl rfl), pl2_dd _ _ (by omega), pl2_mk _ _ _ (.inl rfl), pl2_dd _ _ (by omega), pl2_mk _ _ _ (.inl rfl), pl2_dd _ _ (by omega), pl2_mk _ _ _ (.inr rfl)]
  have e := pl2_dd ([] ++ [ip / 16777216] ++ [ip / 65536 % 256] ++ [ip / 256 % 256] ++ [ip % 256]) port (by omega) []
  rw [List.append_nil] at e
  rw [e]
  rfl
theorem pl2_len (l : List UInt8) : ∀ ps v, (pl2 ps v l).length ≤ ps.length + 1 + l.length := by
  induction l with
  | nil => intro ps v; simp [pl2]
  | cons c r ih =>
    intro ps v
    rw [pl2]
    split
    · have := ih (ps ++ [v]) 0; simp at this ⊢; omega
    · have := ih ps ((v * 10 + c.toNat % 16) % 18446744073709551616); simp at this ⊢; omega

/-- the bytes of a text that is read -/
theorem txtL_count (ip port : Nat) : (txtL ip port).count 58 = 1 := by
  have h : ∀ n, (dd n).count 58 = 0 := by
    intro n
    rw [List.count_eq_zero]
    intro hc
    have := dd_all n 58 hc
    have e : (58 : UInt8).toNat = 58 := rfl
    omega
  have e1 : ((46 : UInt8) == 58) = false := by decide
  have e2 : ((58 : UInt8) == 58) = true := by decide
  simp [txtL, List.count_append, List.count_cons, h, e1]
theorem txtL_mem (ip port : Nat) : ∀ c ∈ txtL ip port, 46 ≤ c.toNat ∧ c.toNat ≤ 58 := by
  have h := dd_all
  have e1 : (46 : UInt8).toNat = 46 := rfl
  have e2 : (58 : UInt8).toNat = 58 := rfl
  intro c hc
  unfold txtL at hc
  simp only [List.mem_append, List.mem_cons] at hc
  rcases hc with hc | rfl | hc | rfl | hc | rfl | hc | rfl | hc
  all_goals (first | (have := h _ c hc; omega) | omega)
theorem rdL_count {l : List UInt8} (h : l.count 58 ≠ 1) : rdL l = none := by
  cases hr : rdL l with
  | none => rfl
  | some x => obtain ⟨a, b⟩ := x; obtain ⟨e, _⟩ := txt_rd hr; subst e; exact absurd (txtL_count a b) h
theorem rdL_mem {l : List UInt8} (c : UInt8) (hc : c ∈ l) (h : c.toNat < 46) : rdL l = none := by
  cases hr : rdL l with
  | none => rfl
  | some x => obtain ⟨a, b⟩ := x; obtain ⟨e, _⟩ := txt_rd hr; subst e; have := txtL_mem a b c hc; omega
theorem rdL_long {l : List UInt8} (h : 21 < l.length) : rdL l = none := by
  cases hr : rdL l with
  | none => rfl
  | some x => obtain ⟨a, b⟩ := x; obtain ⟨e, h1, h2⟩ := txt_rd hr; subst e; have := txtL_len a b h1 h2; omega
theorem rdL_zero (ip port : Nat) : rdL (48 :: txtL ip port) = none := by
  cases hr : rdL (48 :: txtL ip port) with
  | none => rfl
  | some x =>
    exfalso
    obtain ⟨a, b⟩ := x
    obtain ⟨e, _⟩ := txt_rd hr
    have h0 : (dd (a / 16777216)).head? = some 48 := by
      have := congrArg List.head? e
      have h3 : (txtL a b).head? = (dd (a / 16777216)).head? := by unfold txtL; rw [head_app (dd_ne _)]
      rw [← h3, ← this]; rfl
    have hz : a / 16777216 = 0 := by
      rcases Nat.eq_zero_or_pos (a / 16777216) with h | h
      · exact h
      · exact absurd h0 (dd_head _ h)
    unfold txtL at e
    rw [hz, show dd 0 = [48] from by rw [dd_one (by omega)]; rfl] at e
    have e2 := List.tail_eq_of_cons_eq e
    have h1 := congrArg List.head? e2
    rw [head_app (dd_ne _)] at h1
    have h2 : (46 : UInt8) ∈ dd (ip / 16777216) := List.mem_of_head? (by rw [h1]; rfl)
    have := dd_all _ _ h2
    have e1 : (46 : UInt8).toNat = 46 := rfl
    omega

/-- the text as a string -/
def ddB (n : Nat) : ByteArray := ⟨(dd n).toArray⟩
def atx (ip port : Nat) : ByteArray := ⟨(txtL ip port).toArray⟩
theorem atx_data (ip port : Nat) : (atx ip port).data.toList = txtL ip port := rfl
theorem atx_size (ip port : Nat) (h1 : ip < 4294967296) (h2 : port < 65536) : (atx ip port).size ≤ 21 ∧ 9 ≤ (atx ip port).size := by
  rw [← ba_len, atx_data]; exact txtL_len ip port h1 h2
theorem atx_inj {ip port ip' port' : Nat} (h1 : ip < 4294967296) (h2 : port < 65536) (h3 : ip' < 4294967296) (h4 : port' < 65536) (h : atx ip port = atx ip' port') : ip = ip' ∧ port = port' :=
  txtL_inj h1 h2 h3 h4 (by rw [← atx_data, h, atx_data])
theorem atx_back {s : ByteArray} {ip port : Nat} (h : rdL s.data.toList = some (ip, port)) : s = atx ip port ∧ ip < 4294967296 ∧ port < 65536 := by
  obtain ⟨e, h1, h2⟩ := txt_rd h
  exact ⟨ba_ext _ _ (by rw [atx_data, e]), h1, h2⟩
theorem atx_none {s : ByteArray} {ip port : Nat} (h : rdL s.data.toList = none) (h1 : ip < 4294967296) (h2 : port < 65536) : atx ip port ≠ s := by
  intro e
  rw [← e, atx_data, rd_txt ip port h1 h2] at h
  cases h
end Go.Proofs.YtdihpiggknhojaaDoor
