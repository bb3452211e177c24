/- The program's leases: Held, Got, Lost. -/
import Derived.Test.YtdehpiaokjihjaaLsCl
namespace Go.Proofs.Ytdehpiaokjihjaa
open Go.Sort Go.RowKit Go.BigFrame
set_option linter.unusedVariables false
set_option linter.unusedSimpArgs false

def HeJ (now : Int) (k : Ls) (w : World) (sv iv : Value) (wr : World) : Prop :=
  ∃ i : Nat, i ≤ 33 ∧ iv = .int .i64 (i : Nat) ∧ ERow c64 1 3 wr sv (loH now k.rl i) ∧ Below w.heap.size w wr ∧ ∀ b, sv.ownBlock = some b → w.heap.size ≤ b
set_option maxHeartbeats 3200000 in
set_option maxRecDepth 20000 in
theorem heldL_any (now : Int) (g : Nat) (k : Ls) (w : World) (h : Es g k w) :
    Calls Try.prog 17 #[.pointer (some ⟨g, 0, none⟩), .int .u64 now] w (NewPost c64 1 3 (heldL k now) w) := by
  obtain ⟨i0, hi0, hz0, hz1, hz2⟩ := info_parts info_int
  have H := Lib.hid h
  have gl := h.lt
  have LD : Hid (∀ j v, (rowL ce k.rl).flatten[j]? = some v → w.cell? ((⟨g, 2, none⟩ : Addr).add j) = some v) := fun j v hv => by
    rw [add_at]
    exact H.out.arr j v hv
  have VP : Hid (∀ i, i < 33 → ((rowL ce k.rl).flatten.drop (i * 3)).take 3 = ce (k.rl i)) := fun i hi => row_part ce_enc k.rl hi
  have HI : (Try.prog.info? 61).map (·.size) = some (rowL ce k.rl).flatten.length := by rw [row_len ce_enc]; kernel_rfl
  generalize (rowL ce k.rl).flatten = VS at *
  clear h
  go_enter Try.func17, Try.ntmps17
  go_wp2_with (refine wpList_load_cells rfl 61 _ rfl ⟨g, 2, none⟩ rfl VS LD.out _ Try.underlying61 rfl HI ?_)
  go_loopw [5, 6, 7, 12] (fun sv iv4 pv iv wr => HeJ now k w sv iv wr) (fun _ _ _ i _ => 33 - (intOf i).toNat)
  case atStart => exact ⟨0, Nat.zero_le _, rfl, erow_nil, Below.refl _ _, fun b hb => by simp [Value.ownBlock] at hb⟩
  case round =>
    obtain ⟨i, hi, rfl, hr, hb, hov⟩ := hrel
    generalize u5 = sv at *
    have HROW := Lib.hid hr
    have HB := Lib.hid hb
    have HOV := Lib.hid hov
    clear hr hb hov
    have hi0' : (0 : Int) ≤ i := by omega
    have hml := loH_len now k.rl i
    by_cases hlt : i < 33
    · have hlt' : (i : Int) < 33 := by omega
      have VPi := VP.out i hlt
      have HI1 : Hid (i + 1 ≤ 33) := hlt
      have KY := loH_yes (now := now) (f := k.rl) (i := i)
      have KN := loH_no (now := now) (f := k.rl) (i := i)
      have K := held_any (k.rl i) now
      generalize heldB (k.rl i) now = q at *
      generalize hx : k.rl i = x at *
      clear VP hx
      obtain ⟨x1, x2, x3⟩ := x
      have B2 : Hid (Below w.heap.size w (wr.alloc (.cells #[.bool x1, .int .u64 x2, .int .u64 x3] 60))) := HB.out.alloc HB.out.size _
      have X2 : Hid (Cs wr.heap.size [.bool x1, .int .u64 x2, .int .u64 x3] (wr.alloc (.cells #[.bool x1, .int .u64 x2, .int .u64 x3] 60))) := Cs.new wr _ _
      have R1 : Hid (ERow c64 1 3 (wr.alloc (.cells #[.bool x1, .int .u64 x2, .int .u64 x3] 60)) sv (loH now k.rl i)) := erow_keep HROW.out ((Below.refl _ wr).alloc (Nat.le_refl _) _)
      clear gl LD HROW
      go_wp2_with (first | (refine wpList_index_part rfl 61 _ _ rfl VS rfl .i64 i rfl 33 3 60 Try.underlying61 hlt _ Try.underlying60 rfl (by kernel_rfl) _ VPi ?_; simp only [ce]))
      refine (K _).mono ?_; rintro e w3 ⟨rfl, b3⟩
      replace R1 := Lib.hid (erow_keep R1.out b3)
      replace B2 := Lib.hid (B2.out.trans (b3.mono B2.out.size))
      clear K X2 b3 VPi
      cases q with
      | true =>
        have EQ := Lib.hid (KY rfl)
        clear KY KN
        go_wp2_with (at_builtin; refine wpList_append_lies _ rfl (.tmp 19) (.tmp 21) 35 rfl 0 3 i0 _ 1 8 Try.underlying35 hi0 hz0 hz1 hz2 rfl (by omega) sv (loH now k.rl i).length ((loH now k.rl i).map c64).flatten rfl (erow_keep R1.out ((Below.refl _ _).alloc (Nat.le_refl _) _)) ⟨_, 0, none⟩ 1 1 (c64 (i : Int)) rfl rfl (World.news_of_block (cs := (c64 (i : Int)).toArray) (t := 3) (fr := (0, 0)) (heap_alloc_new _ _)) (c64_enc.one _) (by omega) ?c2 ?c3 ?c4 _ rfl ?_)
        case c2 => unfold maxLen; omega
        case c3 => omega
        case c4 => exact Nat.zero_le _
        intro g1 cap1 w9 hown hgrow hat hlt9
        have fin : Hid (ERow c64 1 3 w9 (.slice (some ⟨g1, 0, none⟩) ((loH now k.rl i).length + 1) cap1) (loH now k.rl (i + 1))) := by
          rw [EQ.out]; exact erow_snoc rfl hown
        have QB := B2.out.alloc B2.out.size (.cells (c64 (i : Int)).toArray 3)
        have bin := Lib.hid (QB.grown hgrow QB.size (fun k hk => HOV.out k hk))
        have hov : Hid (∀ b, (Value.slice (some ⟨g1, 0, none⟩) ((loH now k.rl i).length + 1) cap1).ownBlock = some b → w.heap.size ≤ b) := fun b hb => by
          obtain rfl : g1 = b := by injection hb
          rcases hat with h | h
          · exact HOV.out _ h
          · rw [h]; have := B2.out.size; simp; omega
        clear hown hgrow hat QB
        go_wp2
        go_roundw
        case rel => exact ⟨i + 1, HI1.out, by go_num, fin.out, bin.out, hov.out⟩
        case measure => simp [intOf]; omega
      | false =>
        have EQ := Lib.hid (KN rfl)
        clear KY KN
        go_wp2
        go_roundw
        case rel => exact ⟨i + 1, HI1.out, by go_num, by rw [EQ.out]; exact R1.out, B2.out, HOV.out⟩
        case measure => simp [intOf]; omega
    · obtain rfl : i = 33 := by omega
      obtain ⟨a, cap, hsv⟩ := erow_sl HROW.out
      subst hsv
      have F : Hid (NewE c64 1 3 (heldL k now) w ⟨a, (loH now k.rl 33).length, cap⟩ wr) := ⟨HROW.out, rfl, HOV.out⟩
      generalize (loH now k.rl 33).length = n at *
      clear LD VP gl
      go_wp2
      go_ret
      exact ⟨⟨a, n, cap⟩, rfl, F.out, HB.out⟩
theorem askB_node {k : Ls} {id : Int} (h : askB k id = true) : ∃ n : Nat, id = n ∧ 1 ≤ n ∧ n ≤ 32 := by
  unfold askB at h
  rw [Bool.and_eq_true] at h
  have hb := nodeI_iff.1 h.1
  exact ⟨id.toNat, by omega, by omega, by omega⟩
def LostPost (g : Nat) (k : Ls) (id : Int) (w : World) (e : Ending) (w' : World) : Prop := e = .returned (.bool (askB k id)) ∧ EAft g (lostD k id) w w'
set_option maxHeartbeats 1600000 in
theorem lost_any (id : Int) (g : Nat) (k : Ls) (w : World) (h : Es g k w) :
    Calls Try.prog 16 #[.pointer (some ⟨g, 0, none⟩), .int .i64 id] w (LostPost g k id w) := by
  have K := askd_any id g k w h
  have RO := lost_ok h.ok id
  unfold LostPost
  unfold lostD at RO ⊢
  cases hc : askB k id with
  | false =>
    have F := Lib.hid (h.same (Below.refl _ _))
    rw [hc] at K
    rw [if_neg (by decide)]
    clear h hc
    go_enter Try.func16, Try.ntmps16
    go_wp2_with fail
    refine K.mono ?_; rintro e w1 ⟨rfl, rfl⟩
    clear K
    go_wp2
    go_ret
    exact ⟨rfl, F.out⟩
  | true =>
    obtain ⟨n, rfl, h1, h2⟩ := askB_node hc
    rw [hc, if_pos rfl] at RO
    rw [if_pos rfl]
    simp only [Int.toNat_natCast] at RO ⊢
    have F := Lib.hid (h.put (i := n) (by omega) zR RO)
    have fr := fun o => h.free o
    have gl := h.lt
    have c0 := h.rl n (by omega) 0 _ rfl
    have c1 := h.rl n (by omega) 1 _ rfl
    have c2 := h.rl n (by omega) 2 _ rfl
    simp only [ce, zR, Nat.add_zero, World.setCells] at F c0
    have hn0 : (0 : Int) ≤ n := by omega
    have hn1 : (n : Int) < 33 := by omega
    have hn2 : n < 33 := by omega
    rw [hc] at K
    clear h hc RO
    go_enter Try.func16, Try.ntmps16
    go_wp2_with fail
    refine K.mono ?_; rintro e w1 ⟨rfl, rfl⟩
    clear K
    go_wp2
    go_ret
    exact ⟨rfl, F.out⟩
def GotPost (g : Nat) (k : Ls) (id un now : Int) (w : World) (e : Ending) (w' : World) : Prop := e = .returned (.bool (gotB k id un now)) ∧ EAft g (gotD k id un now) w w'
set_option maxHeartbeats 1600000 in
theorem got_any (id un now : Int) (hn : 0 ≤ now) (g : Nat) (k : Ls) (w : World) (h : Es g k w) :
    Calls Try.prog 15 #[.pointer (some ⟨g, 0, none⟩), .int .i64 id, .int .u64 un, .int .u64 now] w (GotPost g k id un now w) := by
  have K := askd_any id g k w h
  have RO := got_ok h.ok id un now hn
  unfold GotPost
  unfold gotD at RO ⊢
  unfold gotB at RO ⊢
  cases hc : askB k id with
  | false =>
    have F := Lib.hid (h.same (Below.refl _ _))
    rw [hc] at K
    rw [Bool.false_and, if_neg (by decide)]
    clear h hc RO
    go_enter Try.func15, Try.ntmps15
    go_wp2_with fail
    refine K.mono ?_; rintro e w1 ⟨rfl, rfl⟩
    clear K
    go_wp2
    go_ret
    exact ⟨rfl, F.out⟩
  | true =>
    rw [hc] at K RO
    rw [Bool.true_and] at RO ⊢
    by_cases hl : now < un
    · have hl2 : decide (un ≤ now) = false := decide_eq_false (by omega)
      rw [decide_eq_true hl, if_pos rfl] at RO ⊢
      obtain ⟨n, rfl, h1, h2⟩ := askB_node hc
      simp only [Int.toNat_natCast] at RO ⊢
      have F := Lib.hid (h.set (i := n) (j := 2) (by omega) (by omega) { k.rl n with un := min un 4611686018427387904 } (.int .u64 (min un 4611686018427387904)) rfl RO)
      have fr := fun o => h.free o
      have gl := h.lt
      have c2 := h.rl n (by omega) 2 _ rfl
      have hn0 : (0 : Int) ≤ n := by omega
      have hn1 : (n : Int) < 33 := by omega
      have hn2 : n < 33 := by omega
      clear h hc RO hl
      by_cases hm : un ≤ 4611686018427387904
      · have hm1 : min un 4611686018427387904 = un := by omega
        have hm2 : decide (un < 4611686018427387904) = true ∨ decide (un < 4611686018427387904) = false := by cases decide (un < 4611686018427387904) <;> simp
        rw [hm1] at F ⊢
        go_enter Try.func15, Try.ntmps15
        go_wp2_with fail
        refine K.mono ?_; rintro e w1 ⟨rfl, rfl⟩
        clear K
        go_wp2
        go_ret
        exact ⟨rfl, F.out⟩
      · have hm1 : min un 4611686018427387904 = 4611686018427387904 := by omega
        rw [hm1] at F ⊢
        go_enter Try.func15, Try.ntmps15
        go_wp2_with fail
        refine K.mono ?_; rintro e w1 ⟨rfl, rfl⟩
        clear K
        go_wp2
        go_ret
        exact ⟨rfl, F.out⟩
    · have hl2 : decide (un ≤ now) = true := decide_eq_true (by omega)
      have F := Lib.hid (h.same (Below.refl _ _))
      rw [decide_eq_false hl, if_neg (by decide)]
      clear h hc RO hl
      go_enter Try.func15, Try.ntmps15
      go_wp2_with fail
      refine K.mono ?_; rintro e w1 ⟨rfl, rfl⟩
      clear K
      go_wp2
      go_ret
      exact ⟨rfl, F.out⟩
end Go.Proofs.Ytdehpiaokjihjaa
