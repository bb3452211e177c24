/- Contracts of chapter 2's Number: the bytes of a number (both programs). -/
import Derived.Test.YtmhlnlippfaclaaDoorRows
import Derived.Test.YtmhlnlippfaclaaDoorPackMath
import Derived.Test.YtmhlnlippfaclaaDoorKit
import Derived.WalkKit
import Derived.ProofKit
import Derived.WalkLawsBesides
import Derived.WalkSpells
import Derived.Below
import Derived.Outline
import Derived.WalkMore
import Derived.Laws.MakeOwn
import Derived.Laws.IdiomStrings
import Derived.Lib.Hide
namespace Go.Proofs.YtmhlnlippfaclaaDoor
open Go.RowKit
set_option linter.unusedVariables false
set_option linter.unusedSimpArgs false

theorem info_u8 : (Tryd.prog.info? 5).map (fun i => (i.zero, i.size, i.bytes)) = some (some (.int .u8 0), 1, 1) := by kernel_rfl

theorem hasSize_yes (z : Int) (h1 : 1 ≤ z) (h8 : z ≤ 8) (w : World) : Calls Tryd.prog 19 #[.int .i64 z] w fun e w' => e = .returned (.bool true) ∧ w = w' := by
  go_enter Tryd.func19, Tryd.ntmps19
  go_wp2
  go_ret
  exact ⟨rfl, rfl⟩
theorem hasSize_no (z : Int) (h : ¬ (1 ≤ z ∧ z ≤ 8)) (w : World) : Calls Tryd.prog 19 #[.int .i64 z] w fun e w' => e = .returned (.bool false) ∧ w = w' := by
  by_cases h1 : 1 ≤ z
  · have h8 : ¬ z ≤ 8 := by omega
    clear h
    go_enter Tryd.func19, Tryd.ntmps19
    go_wp2
    go_ret
    exact ⟨rfl, rfl⟩
  · clear h
    go_enter Tryd.func19, Tryd.ntmps19
    go_wp2
    go_ret
    exact ⟨rfl, rfl⟩

theorem num_no (n z : Int) (h : ¬ (1 ≤ z ∧ z ≤ 8)) (w : World) : Calls Tryd.prog 11 #[.int .u64 n, .int .i64 z] w fun e w' => e = .returned (.string ⟨#[]⟩) ∧ Below w.heap.size w w' := by
  go_enter Tryd.func11, Tryd.ntmps11
  go_wp2_with fail
  refine (hasSize_no _ h _).mono ?_; rintro e w1 ⟨rfl, rfl⟩
  clear h
  go_wp2_with fail
  go_ret
  exact ⟨rfl, Below.refl _ _⟩

/-- the row while it is filled: p places are still open -/
def putRow (n k p : Nat) : Nat → Value := fun i => if i < p then .int .u8 0 else .int .u8 (((dg n (k - p)).getD (i - p) 0).toNat : Int)
theorem putRow_top (n k : Nat) (i : Nat) (h : i < k) : putRow n k k i = .int .u8 0 := by simp [putRow, h]
theorem putRow_step (n k p : Nat) (hp : p < k) (i : Nat) : (if i = p then Value.int .u8 ((n / 256 ^ (k - (p + 1)) % 256 : Nat) : Int) else putRow n k (p + 1) i) = putRow n k p i := by
  have e : k - p = (k - (p + 1)) + 1 := by omega
  unfold putRow
  rw [e, dg]
  by_cases h1 : i = p
  · subst h1
    rw [if_pos rfl, if_neg (by omega), Nat.sub_self, List.getD_cons_zero, ofNat_toNat _ (Nat.mod_lt _ (by omega))]
  · rw [if_neg h1]
    by_cases h2 : i < p
    · rw [if_pos (by omega), if_pos h2]
    · rw [if_neg (by omega), if_neg h2, show i - p = (i - (p + 1)) + 1 from by omega, List.getD_cons_succ]
theorem div_step (n k p : Nat) (hp : p < k) : n / 256 ^ (k - (p + 1)) / 256 = n / 256 ^ (k - p) := by
  rw [show k - p = (k - (p + 1)) + 1 from by omega, Nat.pow_succ, Nat.div_div_eq_div_mul]

def NumJ (w : World) (n k : Nat) (v i : Value) (wr : World) : Prop :=
  ∃ p : Nat, p ≤ k ∧ i = .int .i64 ((p : Int) - 1) ∧ v = .int .u64 ((n / 256 ^ (k - p) : Nat) : Int) ∧ wr.rowIs w.heap.size 5 k (putRow n k p) ∧ Below w.heap.size w wr

theorem num_step {w wr : World} {n k q : Nat} (hq : q < k) (h : wr.rowIs w.heap.size 5 k (putRow n k (q + 1))) (hb : Below w.heap.size w wr) :
    NumJ w n k (.int .u64 (((n / 256 ^ (k - (q + 1)) : Nat) : Int) / 256)) (.int .i64 ((q : Int) - 1)) (wr.setCell ⟨w.heap.size, q, none⟩ (.int .u8 (((n / 256 ^ (k - (q + 1)) : Nat) : Int) % 256))) := by
  refine ⟨q, by omega, rfl, ?_, ?_, hb.setCell (Nat.le_refl _) _⟩
  · rw [← div_step n k q hq]; rfl
  · exact (h.set q _).congr fun i hi => putRow_step n k q hq i

set_option maxHeartbeats 800000 in
theorem num_yes (n k : Nat) (hn : n < 18446744073709551616) (h1 : 1 ≤ k) (h8 : k ≤ 8) (w : World) : Calls Tryd.prog 11 #[.int .u64 n, .int .i64 k] w fun e w' => e = .returned (.string (numB n k)) ∧ Below w.heap.size w w' := by
  have hmk := run_make_row' (P := Tryd.prog) 31 5 (.int .u8 0) 1 Tryd.underlying31 info_u8 rfl .i64 .i64 k (by omega) (by omega)
  go_enter Tryd.func11, Tryd.ntmps11
  go_wp2_with fail
  refine (hasSize_yes _ (by omega) (by omega) _).mono ?_; rintro e w1 ⟨rfl, rfl⟩
  go_wp2_with fail
  go_loopw [0, 6] (fun v i wr => NumJ w n k v i wr) (fun _ i _ => (intOf i + 1).toNat)
  case atStart => exact ⟨k, Nat.le_refl _, by go_num, by simp, (World.rowIs_made w (.int .u8 0) k 5).congr fun i hi => (putRow_top n k i hi).symm, (Below.refl _ _).alloc (Nat.le_refl _) _⟩
  case round =>
    obtain ⟨p, hp, rfl, rfl, hrow, hb⟩ := hrel
    have HR := Lib.hid hrow
    have HB := Lib.hid hb
    clear hrow hb hmk
    rcases Nat.eq_zero_or_pos p with h0 | h0
    · subst h0
      have hcv := run_convert_bytes_back (P := Tryd.prog) wr 31 9 5 ⟨w.heap.size, 0, none⟩ k (dg n k) Tryd.underlying31 Tryd.underlying5 Tryd.underlying9 (fun j hj => by
        rw [dg_length] at hj
        have hc := HR.out.cell hj
        have e : ((⟨w.heap.size, 0, none⟩ : Addr).add j) = ⟨w.heap.size, j, none⟩ := by
          by_cases h0 : j = 0
          · subst h0; simp [Addr.add]
          · simp [Addr.add, h0]
        rw [e, hc]
        simp [putRow, List.getD_eq_getElem?_getD, dg_length, hj])
      rw [dg_length] at hcv
      go_wp2
      go_ret
      exact ⟨rfl, HB.out⟩
    · obtain ⟨q, rfl⟩ : ∃ q, p = q + 1 := ⟨p - 1, by omega⟩
      have e1 : ((q + 1 : Nat) : Int) - 1 = q := by omega
      rw [e1]
      have hq : (q : Int) < k := by omega
      have hq0 : (0 : Int) ≤ q := by omega
      have hc : wr.cell? ⟨w.heap.size, q, none⟩ = some (putRow n k (q + 1) q) := HR.out.cell (by omega)
      have hf : wr.frozen? ⟨w.heap.size, q, none⟩ = false := HR.out.frozen _
      go_wp2
      go_roundw
      case rel => exact num_step (by omega) HR.out HB.out
      case measure => simp [intOf] <;> omega

theorem own_slice {w : World} {base : Nat} {e : TypeId} {v : Value} {n : Nat} {xs : List Value} (h : w.ownsRow base e 1 v n xs) : ∃ A c, v = .slice A n c := by
  rcases h.2 with ⟨rfl, h0⟩ | ⟨g, cap, cur, rfl, _⟩
  · subst h0; exact ⟨_, _, rfl⟩
  · exact ⟨_, _, rfl⟩
theorem dg_get (n k j : Nat) (h : j < k) : (dg n k)[j]? = some (UInt8.ofNat (n / 256 ^ (k - (j + 1)) % 256)) := by
  have hd := dg_drop n j (k - j)
  rw [show j + (k - j) = k from by omega, show k - j = (k - (j + 1)) + 1 from by omega, dg] at hd
  have := congrArg (fun l => l[0]?) hd
  simpa using this
/-- the bytes of n as numbers, from place p up -/
def hiL (n k p : Nat) : List Int := ((dg n k).take (k - p)).map fun c => (c.toNat : Int)
theorem hiL_step (n k q : Nat) (hq : q < k) : hiL n k q = hiL n k (q + 1) ++ [(n : Int) / 2 ^ (8 * q) % 256] := by
  unfold hiL
  have hl := dg_length n k
  have hg := dg_get n k (k - (q + 1)) (by omega)
  have hlt : k - (q + 1) < (dg n k).length := by omega
  rw [List.getElem?_eq_getElem hlt] at hg
  injection hg with hg
  rw [show k - q = (k - (q + 1)) + 1 from by omega, List.take_succ_eq_append_getElem hlt, hg, List.map_append, show k - (k - (q + 1) + 1) = q from by omega]
  congr 1
  simp only [List.map_cons, List.map_nil]
  have e : (2 : Int) ^ (8 * q) = ((256 ^ q : Nat) : Int) := by rw [Int.pow_mul, Int.natCast_pow]; rfl
  rw [ofNat_toNat _ (Nat.mod_lt _ (by omega)), e]
  rfl
def RnumJ (w : World) (n k : Nat) (b i : Value) (wr : World) : Prop :=
  ∃ p : Nat, p ≤ k ∧ i = .int .i64 ((p : Int) - 1) ∧ wr.ownsRow w.heap.size 5 1 b (k - p) ((hiL n k p).map (Value.int .u8)) ∧ Below w.heap.size w wr

theorem rnum_step {w wr w2 : World} {n k q : Nat} {v v2 : Value} (hq : q < k) (ho : wr.ownsRow w.heap.size 5 1 v (k - (q + 1)) ((hiL n k (q + 1)).map (Value.int .u8))) (hb : Below w.heap.size w wr) {o : Obj}
    (h2 : w2.ownsRow w.heap.size 5 1 v2 (k - (q + 1) + 1) ((hiL n k (q + 1)).map (Value.int .u8) ++ [(n : Int) / 2 ^ (8 * q) % 256].map (Value.int .u8))) (hg : (wr.alloc o).grownBy w2 v.ownBlock) : RnumJ w n k v2 (.int .i64 ((q : Int) - 1)) w2 := by
  refine ⟨q, by omega, rfl, ?_, (hb.alloc hb.size o).grown hg (by have := hb.size; simp; omega) (fun g h => (ho.lt g h).1)⟩
  rw [hiL_step n k q hq, List.map_append, show k - q = k - (q + 1) + 1 from by omega]
  exact h2

end Go.Proofs.YtmhlnlippfaclaaDoor
