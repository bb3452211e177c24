/- The queue's small calls, both programs: New, Times, Len. -/
import Derived.Test.YthebcaielbnhjaaQuDelF
import Derived.Test.YthebcaielbnhjaaQuLays
namespace Go.Proofs.Ythebcaielbnhjaa
open Go.Shelf Go.Sort Go.RowKit Go.BigFrame
set_option linter.unusedVariables false
set_option linter.unusedSimpArgs false

def roomI (room : Int) : Bool := decide (1 ≤ room) && decide (room ≤ 64)
theorem room_iff {room : Int} : roomI room = true ↔ 1 ≤ room ∧ room ≤ 64 := by unfold roomI; simp
theorem ok_nil (room : Nat) : OkS room [] := ⟨List.Pairwise.nil, List.nodup_nil, by simp, by simp⟩
def NewQ (k : Bool) (room : Int) (w : World) (p : Value) (w' : World) : Prop :=
  (roomI room = false ∧ p = .pointer none ∧ w' = w) ∨ (roomI room = true ∧ p = .pointer (some ⟨w.heap.size, 0, none⟩) ∧ Qs k w.heap.size room.toNat ⟨none, 0, 0⟩ [] w' ∧ Below w.heap.size w w')
theorem qs_new (k : Bool) (room : Int) (h : roomI room = true) (w : World) (T : TypeId) : Qs k w.heap.size room.toNat ⟨none, 0, 0⟩ [] (w.alloc (.cells (qc k room.toNat ⟨none, 0, 0⟩).toArray T)) := by
  rw [room_iff] at h
  refine ⟨Cs.new w _ T, ⟨[], erow_nil, ?_⟩, by simp [Sl.v, Value.ownBlock], by omega, by omega, ok_nil _⟩
  cases k
  · rfl
  · exact List.Perm.refl _
theorem new_any (room : Int) (w : World) : Calls Try.prog 10 #[.int .i64 room] w (fun e w' => ∃ p, e = .returned (.tuple #[p, .int .i64 (if roomI room = true then 0 else 1)]) ∧ NewQ true room w p w') := by
  by_cases h : roomI room = true
  · have F := qs_new true room h w 76
    have HR := Lib.hid h
    rw [if_pos h]
    rw [room_iff] at h
    obtain ⟨h1, h2⟩ := h
    obtain ⟨n, rfl⟩ : ∃ n : Nat, room = n := ⟨room.toNat, by omega⟩
    have n1 : ¬ (n : Int) < 1 := by omega
    have n2 : ¬ 64 < (n : Int) := by omega
    have FF : Hid (NewQ true n w (.pointer (some ⟨w.heap.size, 0, none⟩)) (w.alloc (.cells #[.int .i64 (n : Int), .slice none 0 0] 76))) := .inr ⟨HR.out, rfl, F, (Below.refl _ _).alloc (Nat.le_refl _) _⟩
    clear F
    go_enter Try.func10, Try.ntmps10
    go_wp2
    refine bodyPost_ret (v := .tuple #[.pointer (some ⟨w.heap.size, 0, none⟩), .int .i64 0]) (by simp [results, Try.results10, go_sem]) rfl ?_
    exact ⟨_, rfl, FF.out⟩
  · have h' : roomI room = false := by simpa using h
    rw [if_neg h]
    have FF : Hid (NewQ true room w (.pointer none) w) := .inl ⟨h', rfl, rfl⟩
    rw [room_iff] at h
    by_cases h1 : room < 1
    · go_enter Try.func10, Try.ntmps10
      go_wp2
      refine bodyPost_ret (v := .tuple #[.pointer none, .int .i64 1]) (by simp [results, Try.results10, go_sem]) rfl ?_
      exact ⟨_, rfl, FF.out⟩
    · have h2 : 64 < room := by omega
      go_enter Try.func10, Try.ntmps10
      go_wp2
      refine bodyPost_ret (v := .tuple #[.pointer none, .int .i64 1]) (by simp [results, Try.results10, go_sem]) rfl ?_
      exact ⟨_, rfl, FF.out⟩
theorem rnew_any (room : Int) (w : World) : Calls Try.prog 11 #[.int .i64 room] w (fun e w' => ∃ p, e = .returned p ∧ NewQ false room w p w') := by
  by_cases h : roomI room = true
  · have F := qs_new false room h w 58
    have HR := Lib.hid h
    rw [room_iff] at h
    obtain ⟨h1, h2⟩ := h
    obtain ⟨n, rfl⟩ : ∃ n : Nat, room = n := ⟨room.toNat, by omega⟩
    have n1 : ¬ (n : Int) < 1 := by omega
    have n2 : ¬ 64 < (n : Int) := by omega
    have FF : Hid (NewQ false n w (.pointer (some ⟨w.heap.size, 0, none⟩)) (w.alloc (.cells #[.slice none 0 0, .int .i64 (n : Int)] 58))) := .inr ⟨HR.out, rfl, F, (Below.refl _ _).alloc (Nat.le_refl _) _⟩
    clear F
    go_enter Try.func11, Try.ntmps11
    go_wp2
    go_ret
    exact ⟨_, rfl, FF.out⟩
  · have h' : roomI room = false := by simpa using h
    have FF : Hid (NewQ false room w (.pointer none) w) := .inl ⟨h', rfl, rfl⟩
    rw [room_iff] at h
    by_cases h1 : room < 1
    · go_enter Try.func11, Try.ntmps11
      go_wp2
      go_ret
      exact ⟨_, rfl, FF.out⟩
    · have h2 : 64 < room := by omega
      go_enter Try.func11, Try.ntmps11
      go_wp2
      go_ret
      exact ⟨_, rfl, FF.out⟩
theorem len_any (g room : Nat) (v : Sl) (S : List Im) (w : World) (h : Qs true g room v S w) :
    Calls Try.prog 22 #[.pointer (some ⟨g, 0, none⟩)] w fun e w' => e = .returned (.int .i64 (S.length : Nat)) ∧ w' = w := by
  have hn := h.n
  obtain ⟨a, n, c⟩ := v
  simp only at hn
  subst hn
  have x1 := h.box.cell 1 _ rfl
  have gl := h.box.lt
  clear h
  go_enter Try.func22, Try.ntmps22
  go_wp2
  go_ret
  exact ⟨rfl, rfl⟩
/-! how often -/
def timesN (n : Int) : Nat := 3 * Lib.bitLen (max n 1).toNat
theorem bitLen_le64 (x : Nat) (h : x < 9223372036854775808) : Lib.bitLen x ≤ 63 := Lib.bitLen_le x 63 (by decide) (by show x < 2 ^ 63; omega)
theorem times_any (n : Int) (h : n ≤ 9223372036854775807) (w : World) : Calls Try.prog 12 #[.int .i64 n] w fun e w' => e = .returned (.int .i64 (timesN n : Nat)) ∧ w' = w := by
  obtain ⟨m, hm⟩ : ∃ m : Nat, max n 1 = (m : Int) := ⟨(max n 1).toNat, by omega⟩
  have hm1 : 1 ≤ m := by omega
  have hm2 : m ≤ 9223372036854775807 := by omega
  have hb := bitLen_le64 m (by omega)
  have L := fun w => Any.bits_Len bitsLay (m : Int) w (by omega) (by omega)
  rw [Int.toNat_natCast] at L
  change ∀ w, Calls Try.prog 25 _ _ _ at L
  have HT : Hid (timesN n = 3 * Lib.bitLen m) := by show timesN n = _; unfold timesN; rw [hm, Int.toNat_natCast]
  have hm' : max 1 n = (m : Int) := by rw [Int.max_comm]; exact hm
  have c1 := IntWalk.u64_in (m : Int) ⟨by omega, by omega⟩
  generalize timesN n = t at *
  generalize Lib.bitLen m = b at *
  have c2 := IntWalk.i64_in (3 * (b : Int)) ⟨by omega, by omega⟩
  clear h
  go_enter Try.func12, Try.ntmps12
  go_wp2_with fail
  refine (L _).mono ?_; rintro e w1 ⟨rfl, rfl⟩
  go_wp2
  go_ret
  exact ⟨by rw [HT.out]; rfl, rfl⟩
def TmJ (n : Int) (mv kv : Value) : Prop := ∃ (m : Int) (k : Nat), mv = .int .i64 m ∧ kv = .int .i64 (k : Nat) ∧ m ≤ 9223372036854775807 ∧ k ≤ 64 ∧ k + Lib.bitLen (max m 1).toNat = 1 + Lib.bitLen (max n 1).toNat
theorem rtimes_any (n : Int) (h : n ≤ 9223372036854775807) (w : World) : Calls Try.prog 13 #[.int .i64 n] w fun e w' => e = .returned (.int .i64 (timesN n : Nat)) ∧ w' = w := by
  have hb1 : Lib.bitLen 1 = 1 := by decide
  go_enter Try.func13, Try.ntmps13
  go_wp2
  go_loop [0, 3] (fun mv kv => TmJ n mv kv) (fun mv _ => (intOf mv).toNat)
  case atStart => exact ⟨n, 1, rfl, rfl, h, by decide, rfl⟩
  case round =>
    obtain ⟨m, k, rfl, rfl, hm, hk, he⟩ := hrel
    by_cases h1 : 1 < m
    · obtain ⟨M, rfl⟩ : ∃ M : Nat, m = M := ⟨m.toNat, by omega⟩
      have e0 : (max (M : Int) 1).toNat = M := by omega
      rw [e0, Lib.bitLen_half M (by omega) (by show M < 2 ^ 64; omega)] at he
      have hb := bitLen_le64 (max n 1).toNat (by omega)
      have e1 : (M : Int).tdiv 2 = ((M / 2 : Nat) : Int) := by rw [Int.tdiv_eq_ediv_of_nonneg (by omega)]; rfl
      have e2 : (M : Int) / 2 = ((M / 2 : Nat) : Int) := rfl
      have e3 : (max ((M / 2 : Nat) : Int) 1).toNat = M / 2 := by omega
      have HE : Hid (k + 1 + Lib.bitLen (max ((M / 2 : Nat) : Int) 1).toNat = 1 + Lib.bitLen (max n 1).toNat) := by show _ = _; rw [e3]; omega
      have hlt : M / 2 < M := by omega
      have hk2 : k + 1 ≤ 64 := by omega
      have hM2 : ((M / 2 : Nat) : Int) ≤ 9223372036854775807 := by omega
      have c1 := IntWalk.i64_in ((M / 2 : Nat) : Int) ⟨by omega, by omega⟩
      clear he hb e0 e2 e3 hb1
      generalize M / 2 = H at *
      go_wp2
      go_round
      case rel => exact ⟨(H : Int), k + 1, rfl, by go_num, hM2, hk2, HE.out⟩
      case measure => simp [intOf]; omega
    · have e0 : (max m 1).toNat = 1 := by omega
      rw [e0, hb1] at he
      have HT : Hid (timesN n = 3 * k) := by show timesN n = _; unfold timesN; omega
      clear he e0 hb1
      have c2 := IntWalk.i64_in (3 * (k : Int)) ⟨by omega, by omega⟩
      go_wp2
      go_ret
      exact ⟨by rw [HT.out]; rfl, rfl⟩
end Go.Proofs.Ythebcaielbnhjaa
