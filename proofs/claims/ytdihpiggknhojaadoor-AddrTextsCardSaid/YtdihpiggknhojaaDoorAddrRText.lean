/- The contract of the reference's Text. -/
import Derived.Test.YtdihpiggknhojaaDoorAddrPut
namespace Go.Proofs.YtdihpiggknhojaaDoor
open Go.RowKit
set_option linter.unusedVariables false
set_option linter.unusedSimpArgs false

theorem rdig_at (a : Int) (n : Nat) (D : ByteArray) (h : a = n) (hn : n < 65536) (hD : ddB n = D) (w : World) :
    Calls Tryd.prog 30 #[.int .u64 a] w fun e w' => e = .returned (.string D) ∧ Below w.heap.size w w' := by
  subst h hD
  exact rdig_any n hn w
theorem ddB_size (n : Nat) (h : n < 100000) : (ddB n).size ≤ 5 := by
  have h1 := dd_len5 n h
  have h2 := ba_len (ddB n)
  have : (ddB n).data.toList = dd n := rfl
  rw [this] at h2; omega
theorem atx_parts (ip port : Nat) : atx ip port = ddB (ip / 16777216) ++ ⟨#[46]⟩ ++ ddB (ip / 65536 % 256) ++ ⟨#[46]⟩ ++ ddB (ip / 256 % 256) ++ ⟨#[46]⟩ ++ ddB (ip % 256) ++ ⟨#[58]⟩ ++ ddB port :=
  ba_ext _ _ (by simp [ba_append, atx_data, txtL, ddB])

theorem one_size (c : UInt8) : (⟨#[c]⟩ : ByteArray).size = 1 := rfl
theorem cat_rule {a b e : ByteArray} (he : a ++ b = e) (h : a.size + b.size ≤ 1000) : ∀ w, (Op.stringOp .add a b).run Tryd.prog w = .ok (.string e) w := fun w => by
  subst he
  exact run_string_add_sum w a b (by omega)

set_option maxHeartbeats 800000 in
theorem rtext_any (ip port : Nat) (h1 : ip < 4294967296) (h2 : port < 65536) (w : World) :
    Calls Tryd.prog 12 #[.agg #[.int .u32 ip, .int .u16 port]] w fun e w' => e = .returned (.string (atx ip port)) ∧ Below w.heap.size w w' := by
  have hwi := IntWalk.u64_in (ip : Int) ⟨by omega, by omega⟩
  have hwp := IntWalk.u64_in (port : Int) ⟨by omega, by omega⟩
  have HT := atx_parts ip port
  obtain ⟨a1, ha1⟩ : ∃ a, (ip : Int) / 16777216 = a := ⟨_, rfl⟩
  obtain ⟨D1, e1⟩ : ∃ D, ddB (ip / 16777216) = D := ⟨_, rfl⟩
  have z1 := ddB_size (ip / 16777216) (by omega); rw [e1] at z1 HT
  have N1 : Hid (∀ w, Calls Tryd.prog 30 #[.int .u64 a1] w fun e w' => e = .returned (.string D1) ∧ Below w.heap.size w w') := fun w => rdig_at _ (ip / 16777216) _ (by omega) (by omega) e1 w
  obtain ⟨a2, ha2⟩ : ∃ a, ((ip : Int) / 65536).tmod 256 = a := ⟨_, rfl⟩
  have ta2 := (tmod_pos ((ip : Int) / 65536) 256 (by omega)).symm.trans ha2
  obtain ⟨D2, e2⟩ : ∃ D, ddB (ip / 65536 % 256) = D := ⟨_, rfl⟩
  have z2 := ddB_size (ip / 65536 % 256) (by omega); rw [e2] at z2 HT
  have N2 : Hid (∀ w, Calls Tryd.prog 30 #[.int .u64 a2] w fun e w' => e = .returned (.string D2) ∧ Below w.heap.size w w') := fun w => rdig_at _ (ip / 65536 % 256) _ (by omega) (by omega) e2 w
  obtain ⟨a3, ha3⟩ : ∃ a, ((ip : Int) / 256).tmod 256 = a := ⟨_, rfl⟩
  have ta3 := (tmod_pos ((ip : Int) / 256) 256 (by omega)).symm.trans ha3
  obtain ⟨D3, e3⟩ : ∃ D, ddB (ip / 256 % 256) = D := ⟨_, rfl⟩
  have z3 := ddB_size (ip / 256 % 256) (by omega); rw [e3] at z3 HT
  have N3 : Hid (∀ w, Calls Tryd.prog 30 #[.int .u64 a3] w fun e w' => e = .returned (.string D3) ∧ Below w.heap.size w w') := fun w => rdig_at _ (ip / 256 % 256) _ (by omega) (by omega) e3 w
  obtain ⟨a4, ha4⟩ : ∃ a, (ip : Int).tmod 256 = a := ⟨_, rfl⟩
  have ta4 := (tmod_pos ((ip : Int)) 256 (by omega)).symm.trans ha4
  obtain ⟨D4, e4⟩ : ∃ D, ddB (ip % 256) = D := ⟨_, rfl⟩
  have z4 := ddB_size (ip % 256) (by omega); rw [e4] at z4 HT
  have N4 : Hid (∀ w, Calls Tryd.prog 30 #[.int .u64 a4] w fun e w' => e = .returned (.string D4) ∧ Below w.heap.size w w') := fun w => rdig_at _ (ip % 256) _ (by omega) (by omega) e4 w
  obtain ⟨D5, e5⟩ : ∃ D, ddB (port) = D := ⟨_, rfl⟩
  have z5 := ddB_size (port) (by omega); rw [e5] at z5 HT
  have N5 : Hid (∀ w, Calls Tryd.prog 30 #[.int .u64 port] w fun e w' => e = .returned (.string D5) ∧ Below w.heap.size w w') := fun w => rdig_at _ (port) _ (by omega) (by omega) e5 w
  obtain ⟨E1, q1⟩ : ∃ E, D1 ++ ⟨#[46]⟩ = E := ⟨_, rfl⟩
  have s1 : E1.size ≤ 6 := by have hq := congrArg ByteArray.size q1; simp only [ByteArray.size_append, one_size] at hq; omega
  have R1 := cat_rule q1 (by simp only [one_size]; omega)
  rw [q1] at HT
  obtain ⟨E2, q2⟩ : ∃ E, E1 ++ D2 = E := ⟨_, rfl⟩
  have s2 : E2.size ≤ 11 := by have hq := congrArg ByteArray.size q2; simp only [ByteArray.size_append, one_size] at hq; omega
  have R2 := cat_rule q2 (by omega)
  rw [q2] at HT
  obtain ⟨E3, q3⟩ : ∃ E, E2 ++ ⟨#[46]⟩ = E := ⟨_, rfl⟩
  have s3 : E3.size ≤ 12 := by have hq := congrArg ByteArray.size q3; simp only [ByteArray.size_append, one_size] at hq; omega
  have R3 := cat_rule q3 (by simp only [one_size]; omega)
  rw [q3] at HT
  obtain ⟨E4, q4⟩ : ∃ E, E3 ++ D3 = E := ⟨_, rfl⟩
  have s4 : E4.size ≤ 17 := by have hq := congrArg ByteArray.size q4; simp only [ByteArray.size_append, one_size] at hq; omega
  have R4 := cat_rule q4 (by omega)
  rw [q4] at HT
  obtain ⟨E5, q5⟩ : ∃ E, E4 ++ ⟨#[46]⟩ = E := ⟨_, rfl⟩
  have s5 : E5.size ≤ 18 := by have hq := congrArg ByteArray.size q5; simp only [ByteArray.size_append, one_size] at hq; omega
  have R5 := cat_rule q5 (by simp only [one_size]; omega)
  rw [q5] at HT
  obtain ⟨E6, q6⟩ : ∃ E, E5 ++ D4 = E := ⟨_, rfl⟩
  have s6 : E6.size ≤ 23 := by have hq := congrArg ByteArray.size q6; simp only [ByteArray.size_append, one_size] at hq; omega
  have R6 := cat_rule q6 (by omega)
  rw [q6] at HT
  obtain ⟨E7, q7⟩ : ∃ E, E6 ++ ⟨#[58]⟩ = E := ⟨_, rfl⟩
  have s7 : E7.size ≤ 24 := by have hq := congrArg ByteArray.size q7; simp only [ByteArray.size_append, one_size] at hq; omega
  have R7 := cat_rule q7 (by simp only [one_size]; omega)
  rw [q7] at HT
  obtain ⟨E8, q8⟩ : ∃ E, E7 ++ D5 = E := ⟨_, rfl⟩
  have s8 : E8.size ≤ 29 := by have hq := congrArg ByteArray.size q8; simp only [ByteArray.size_append, one_size] at hq; omega
  have R8 := cat_rule q8 (by omega)
  rw [q8] at HT
  clear ta2 ta3 ta4 q1 q2 q3 q4 q5 q6 q7 q8 s1 s2 s3 s4 s5 s6 s7 s8 z1 e1 z2 e2 z3 e3 z4 e4 z5 e5
  rw [HT]
  clear HT
  go_enter Tryd.func12, Tryd.ntmps12
  have X := Two.new w (.int .u32 ip) (.int .u16 port) 27
  have hB := (Below.refl w.heap.size w).alloc (Nat.le_refl _) (.cells #[.int .u32 ip, .int .u16 port] 27)
  go_upto_region 2 with fail
  generalize (w.alloc (.cells #[.int .u32 ip, .int .u16 port] 27)) = wb at *
  have QB : Bel wb wb := Bel.refl _
  have mkS : Hid (∀ w', Bel wb w' → w'.cell? ⟨w.heap.size, 1, none⟩ = some (.int .u16 port) ∧ Bel wb w') := fun w' h => ⟨(X.keep h.out).c1, h⟩
  obtain ⟨_, x1, _, _⟩ := X
  go_region_held3 (fun w' => w'.cell? ⟨w.heap.size, 1, none⟩ = some (.int .u16 port) ∧ Bel wb w')
    (first | exact mkS.out _ QB | exact mkS.out _ QB.drew)
    (first | (go_at_call_of 30 (Value.int .u64 a1); refine (N1.out _).mono ?_; rintro e wx ⟨rfl, hb⟩; have QB := Bel.call (by first | exact QB | exact QB.drew) hb) | (go_at_call_of 30 (Value.int .u64 a2); refine (N2.out _).mono ?_; rintro e wx ⟨rfl, hb⟩; have QB := Bel.call (by first | exact QB | exact QB.drew) hb) | (go_at_call_of 30 (Value.int .u64 a3); refine (N3.out _).mono ?_; rintro e wx ⟨rfl, hb⟩; have QB := Bel.call (by first | exact QB | exact QB.drew) hb) | (go_at_call_of 30 (Value.int .u64 a4); refine (N4.out _).mono ?_; rintro e wx ⟨rfl, hb⟩; have QB := Bel.call (by first | exact QB | exact QB.drew) hb) | (go_at_call_of 30 (Value.int .u64 (port : Int)); refine (N5.out _).mono ?_; rintro e wx ⟨rfl, hb⟩; have QB := Bel.call (by first | exact QB | exact QB.drew) hb))
  all_goals go_wp2
  all_goals go_ret
  all_goals exact ⟨rfl, hB.trans (QB.out.mono hB.size)⟩
end Go.Proofs.YtdihpiggknhojaaDoor
