/- The contract of the reference's Read. -/
import Derived.Test.YtdihpiggknhojaaDoorAddrRead
import Derived.BigRegion
import Derived.Test.YtdihpiggknhojaaDoorAddrRText
namespace Go.Proofs.YtdihpiggknhojaaDoor
open Go.RowKit
set_option linter.unusedVariables false
set_option linter.unusedSimpArgs false

theorem info_u64 : (Tryd.prog.info? 56).map (fun i => (i.zero, i.size, i.bytes)) = some (some (.int .u64 0), 1, 8) := by kernel_rfl
/-- the row of numbers -/
def pv (ps : List Nat) (x : Nat) : List Value := (ps ++ [x]).map fun (z : Nat) => Value.int .u64 (z : Int)
theorem pv_snoc (ps : List Nat) (x : Nat) : pv ps x ++ [(0 : Int)].map (Value.int .u64) = pv (ps ++ [x]) 0 := by simp [pv]
theorem pv_set (ps : List Nat) (x y m : Nat) (h : m = ps.length) : (pv ps x).set m (.int .u64 (y : Int)) = pv ps y := by
  subst h
  simp [pv, List.set_append_right]
structure RrSt (w : World) (s : ByteArray) (L : List Nat) (k m : Nat) (ps : List Nat) (x : Nat) (v : Value) (wr : World) : Prop where
  todo : pl2 ps x (s.data.toList.drop k) = L
  len : ps.length = m
  lt : x < 18446744073709551616
  few : m ≤ k
  two : Two w.heap.size (.int .u32 0) (.int .u16 0) wr
  own : wr.ownsRow (w.heap.size + 1) 56 1 v (m + 1) (pv ps x)
  below : Below w.heap.size w wr
  size : w.heap.size + 1 ≤ wr.heap.size
def RrJ (w : World) (s : ByteArray) (L : List Nat) (v vi : Value) (wr : World) : Prop :=
  ∃ (k m : Nat) (ps : List Nat) (x : Nat), k ≤ s.size ∧ vi = .int .i64 k ∧ RrSt w s L k m ps x v wr

theorem own_at {w : World} {base n : Nat} {e : TypeId} {v : Value} {xs : List Value} (h : w.ownsRow base e 1 v n xs) (hn : 0 < n) : ∃ g c, v = .slice (some ⟨g, 0, none⟩) n c ∧ base ≤ g ∧ n ≤ c ∧ g < w.heap.size := by
  rcases h.2 with ⟨_, h0⟩ | ⟨g, cap, cur, hv, h1, h2, h3, h4, h5⟩
  · omega
  · refine ⟨g, cap, hv, h1, h3, ?_⟩
    rcases Nat.lt_or_ge g w.heap.size with h' | h'
    · exact h'
    · rw [Array.getElem?_eq_none h'] at h2; cases h2
theorem own_frozen {w : World} {base n g c : Nat} {e : TypeId} {xs : List Value} (h : w.ownsRow base e 1 (.slice (some ⟨g, 0, none⟩) n c) n xs) (hn : 0 < n) (i : Nat) : w.frozen? ⟨g, i, none⟩ = false := by
  rcases h.2 with ⟨hv, h0⟩ | ⟨g', cap, cur, hv, h1, h2, h3, h4, h5⟩
  · omega
  · injection hv with e1
    injection e1 with e1
    injection e1 with e1
    subst e1
    simp [World.frozen?, h2]
theorem rr_mark {w wr w2 : World} {s : ByteArray} {L : List Nat} {k m x : Nat} {ps : List Nat} {v v2 : Value} {o : Obj} (hk : k < s.size) (hc : s[k].toNat = 46 ∨ s[k].toNat = 58) (h : RrSt w s L k m ps x v wr)
    (h2 : w2.ownsRow (w.heap.size + 1) 56 1 v2 (m + 1 + 1) (pv ps x ++ [(0 : Int)].map (Value.int .u64))) (hg : (wr.alloc o).grownBy w2 v.ownBlock) : RrSt w s L (k + 1) (m + 1) (ps ++ [x]) 0 v2 w2 := by
  have hb : Below (w.heap.size + 1) (wr.alloc o) w2 := by
    refine (Below.refl _ _).grown hg (by have := h.size; simp; omega) fun j hj => ?_
    obtain ⟨g, c, hv, hg1, _⟩ := own_at h.own (by omega)
    rw [hv] at hj
    simp [Value.ownBlock] at hj
    omega
  have hb0 : Below w.heap.size wr w2 := ((Below.refl w.heap.size wr).alloc (by have := h.size; omega) o).trans (hb.mono (by omega))
  refine ⟨?_, by simp [h.len], by omega, by have := h.few; omega, ?_, by rwa [pv_snoc] at h2, h.below.trans hb0, by have := hb.size; have := h.size; simp at *; omega⟩
  · have ht := h.todo
    rw [drop_get s k hk, pl2_mk] at ht
    · exact ht
    · rcases hc with hc | hc
      · exact .inl (UInt8.toNat_inj.1 hc)
      · exact .inr (UInt8.toNat_inj.1 hc)
  · obtain ⟨c0, c1, f0, f1⟩ := h.two
    have hz := h.two.lt
    have n0 : ¬ w.heap.size = wr.heap.size := by omega
    refine ⟨?_, ?_, ?_, ?_⟩
    · rw [hb.cell (p := ⟨w.heap.size, 0, none⟩) (by show w.heap.size < _; omega)]; go_simp
    · rw [hb.cell (p := ⟨w.heap.size, 1, none⟩) (by show w.heap.size < _; omega)]; go_simp
    · rw [hb.frozen (p := ⟨w.heap.size, 0, none⟩) (by show w.heap.size < _; omega)]; go_simp
    · rw [hb.frozen (p := ⟨w.heap.size, 1, none⟩) (by show w.heap.size < _; omega)]; go_simp
theorem rr_digit {w wr : World} {s : ByteArray} {L : List Nat} {k m x y g c : Nat} {ps : List Nat} (hk : k < s.size) (hc : ¬ (s[k].toNat = 46 ∨ s[k].toNat = 58)) (h : RrSt w s L k m ps x (.slice (some ⟨g, 0, none⟩) (m + 1) c) wr) (hg : w.heap.size + 1 ≤ g)
    (hy : y = (x * 10 + s[k].toNat % 16) % 18446744073709551616) : RrSt w s L (k + 1) m ps y (.slice (some ⟨g, 0, none⟩) (m + 1) c) ((wr.setCell ⟨g, m, none⟩ (.int .u64 (y : Int))).drew) := by
  have hst := (h.own.stored m (.int .u64 (y : Int))).1
  rw [pv_set ps x y m h.len.symm] at hst
  have hb : Below w.heap.size w ((wr.setCell ⟨g, m, none⟩ (.int .u64 (y : Int))).drew) := (h.below.setCell (by show w.heap.size ≤ g; omega) _).drew
  obtain ⟨c0, c1, f0, f1⟩ := h.two
  have n0 : ¬ w.heap.size = g := by omega
  have n1 : ¬ g = w.heap.size := by omega
  refine ⟨?_, h.len, by omega, by have := h.few; omega, ⟨?_, ?_, ?_, ?_⟩, hst, hb, by have := h.size; simpa using this⟩
  · have ht := h.todo
    rw [drop_get s k hk, pl2, if_neg, ← hy] at ht
    · exact ht
    · rintro (h1 | h1)
      · exact hc (.inl (by rw [h1]; rfl))
      · exact hc (.inr (by rw [h1]; rfl))
  · show (wr.setCell ⟨g, m, none⟩ (.int .u64 (y : Int))).cell? _ = _; go_simp
  · show (wr.setCell ⟨g, m, none⟩ (.int .u64 (y : Int))).cell? _ = _; go_simp
  · show (wr.setCell ⟨g, m, none⟩ (.int .u64 (y : Int))).frozen? _ = _; go_simp
  · show (wr.setCell ⟨g, m, none⟩ (.int .u64 (y : Int))).frozen? _ = _; go_simp

/-- what five numbers come to -/
def pkA (x0 x1 x2 x3 : Nat) : Nat := (((x0 * 16777216 % 18446744073709551616 + x1 * 65536 % 18446744073709551616) % 18446744073709551616 + x2 * 256 % 18446744073709551616) % 18446744073709551616 + x3) % 18446744073709551616 % 4294967296
theorem rr_few {s : ByteArray} {ps : List Nat} {x : Nat} (hL : pl2 [] 0 (s.data.toList.drop 0) = ps ++ [x]) (h : ¬ ps.length = 4) : rdL s.data.toList = none := by
  cases hr : rdL s.data.toList with
  | none => rfl
  | some y =>
    obtain ⟨ip, port⟩ := y
    obtain ⟨e, h1, h2⟩ := txt_rd hr
    rw [List.drop_zero, e, pl2_txt ip port h1 h2] at hL
    have := congrArg List.length hL
    simp at this
    omega
theorem rr_five {s : ByteArray} {x0 x1 x2 x3 x4 : Nat} (hL : pl2 [] 0 (s.data.toList.drop 0) = [x0, x1, x2, x3, x4]) :
    (atx (pkA x0 x1 x2 x3) (x4 % 65536) = s → rdL s.data.toList = some (pkA x0 x1 x2 x3, x4 % 65536)) ∧ (atx (pkA x0 x1 x2 x3) (x4 % 65536) ≠ s → rdL s.data.toList = none) := by
  have hA : pkA x0 x1 x2 x3 < 4294967296 := Nat.mod_lt _ (by omega)
  constructor
  · intro h
    rw [← h, atx_data, rd_txt _ _ hA (Nat.mod_lt _ (by omega))]
  · intro h
    cases hr : rdL s.data.toList with
    | none => rfl
    | some y =>
      exfalso
      obtain ⟨ip, port⟩ := y
      obtain ⟨e, h1, h2⟩ := atx_back hr
      rw [List.drop_zero, e, atx_data, pl2_txt ip port h1 h2] at hL
      injection hL with e0 hL
      injection hL with e1 hL
      injection hL with e2 hL
      injection hL with e3 hL
      injection hL with e4 _
      apply h
      rw [e]
      have e5 : pkA x0 x1 x2 x3 = ip := by unfold pkA; omega
      rw [e5, show x4 % 65536 = port by omega]
theorem rr_start {w : World} {s : ByteArray} {L : List Nat} (h : pl2 [] 0 (s.data.toList.drop 0) = L) :
    RrSt w s L 0 0 [] 0 (.slice (some ⟨w.heap.size + 1, 0, none⟩) 1 1) ((w.alloc (.cells #[.int .u32 0, .int .u16 0] 27)).alloc (.cells #[.int .u64 0] 56)) := by
  refine ⟨h, rfl, by omega, Nat.le_refl _, (Two.new w _ _ _).keep ((Below.refl _ _).alloc (Nat.le_refl _) _), ⟨rfl, .inr ⟨w.heap.size + 1, 1, #[.int .u64 0], rfl, Nat.le_refl _, ?_, Nat.le_refl _, by unfold maxLen; omega, rfl, rfl⟩⟩, by (repeat (first | exact Below.refl _ _ | refine Below.drew ?_ | refine below_drewN ?_ _ | refine Below.alloc ?_ (by first | omega | (simp; done) | (simp; omega)) _ | refine Below.setCell ?_ (by first | omega | (simp; done) | (simp; omega)) _)), by simp⟩
  · have e : (w.alloc (Obj.cells #[Value.int IntKind.u32 0, Value.int IntKind.u16 0] 27)).heap.size = w.heap.size + 1 := by simp
    rw [← e]
    exact heap_alloc_new _ _
set_option maxRecDepth 100000 in
set_option maxHeartbeats 4000000 in
theorem rread_any (s : ByteArray) (hs : s.size ≤ 9223372036854775807) (w : World) :
    Calls Tryd.prog 23 #[.string s] w fun e w' => e = .returned (rdV (rdL s.data.toList)) ∧ Below w.heap.size w w' := by
  by_cases h21 : 21 < s.size
  · have hR := rdL_long (l := s.data.toList) (by rw [ba_len]; exact h21)
    rw [hR]
    clear hR
    go_enter Tryd.func23, Tryd.ntmps23
    go_wp2
    refine bodyPost_ret (v := .tuple #[.agg #[.int .u32 0, .int .u16 0], .bool false]) (by simp [results, Tryd.results23, go_sem, *]) rfl ⟨?_, ?_⟩
    · rfl
    · (repeat (first | exact Below.refl _ _ | refine Below.drew ?_ | refine below_drewN ?_ _ | refine Below.alloc ?_ (by first | omega | (simp; done) | (simp; omega)) _ | refine Below.setCell ?_ (by first | omega | (simp; done) | (simp; omega)) _))
  obtain ⟨L, hL⟩ : ∃ L, pl2 [] 0 s.data.toList = L := ⟨_, rfl⟩
  have HL : Hid (pl2 [] 0 (s.data.toList.drop 0) = L) := hL
  clear hL
  have h21 : s.size ≤ 21 := by omega
  go_enter Tryd.func23, Tryd.ntmps23
  go_wp2
  go_loopw [4, 5] (fun v i wr => RrJ w s L v i wr) (fun _ i _ => s.size - (intOf i).toNat)
  case atStart => exact ⟨0, 0, [], 0, Nat.zero_le _, rfl, rr_start HL.out⟩
  case round =>
    obtain ⟨k, m, ps, x, hk, rfl, hst⟩ := hrel
    obtain ⟨g, c, rfl, hg, hcn, hgz⟩ := own_at hst.own (by omega)
    have fr := own_frozen hst.own (by omega)
    have hmk := hst.few
    have hxlt := hst.lt
    have cm : wr.cell? ⟨g, m, none⟩ = some (.int .u64 (x : Int)) := by
      rw [World.ownsRow.cellAt hst.own m (by omega)]
      have hl := hst.len
      subst hl
      simp [pv]
    have HS := Lib.hid hst
    clear hst
    by_cases hlt : k < s.size
    · have hki : (k : Int) < s.size := by omega
      have hc256 : s[k].toNat < 256 := s[k].toNat_lt
      by_cases hc : s[k].toNat = 46 ∨ s[k].toNat = 58
      · have HC := Lib.hid hc
        rcases hc with hc | hc
        · have h46 : ((s[k].toNat : Int) == 46) = true := by rw [beq_iff_eq]; omega
          have h46b : (s[k].toNat : Int) = 46 := by omega
          clear hc
          go_wp2_with (at_builtin; refine wpList_append_rd _ rfl (.tmp 28) (.tmp 29) 62 rfl (w.heap.size + 1) 56 .u64 8 Tryd.underlying62 info_u64 _ (m + 1) (pv ps x) rfl (HS.out.own.alloc _) _ (some ⟨wr.heap.size, 0, none⟩) 1 1 [(0 : Int)] rfl rfl (Rd.of_alloc _ _ _ _ rfl) (fun h => by cases h) ?c1a ?c2a ?c3a ?_)
          case c1a => omega
          case c2a => omega
          case c3a => have := HS.out.size; simp; omega
          intro v2 w2 hown2 hg2
          have R := Lib.hid (rr_mark hlt HC.out HS.out hown2 hg2)
          clear hown2 hg2
          go_wp2
          go_roundw
          case rel => exact ⟨k + 1, m + 1, ps ++ [x], 0, by omega, by go_num, R.out⟩
          case measure => simp [intOf]; omega
        · have h46 : ((s[k].toNat : Int) == 46) = false := by rw [beq_eq_false_iff_ne]; omega
          have h58 : ((s[k].toNat : Int) == 58) = true := by rw [beq_iff_eq]; omega
          clear hc
          go_wp2_with (at_builtin; refine wpList_append_rd _ rfl (.tmp 28) (.tmp 29) 62 rfl (w.heap.size + 1) 56 .u64 8 Tryd.underlying62 info_u64 _ (m + 1) (pv ps x) rfl (HS.out.own.alloc _) _ (some ⟨wr.heap.size, 0, none⟩) 1 1 [(0 : Int)] rfl rfl (Rd.of_alloc _ _ _ _ rfl) (fun h => by cases h) ?c1b ?c2b ?c3b ?_)
          case c1b => omega
          case c2b => omega
          case c3b => have := HS.out.size; simp; omega
          intro v2 w2 hown2 hg2
          have R := Lib.hid (rr_mark hlt HC.out HS.out hown2 hg2)
          clear hown2 hg2
          go_wp2
          go_roundw
          case rel => exact ⟨k + 1, m + 1, ps ++ [x], 0, by omega, by go_num, R.out⟩
          case measure => simp [intOf]; omega
      · have h46 : ((s[k].toNat : Int) == 46) = false := by rw [beq_eq_false_iff_ne]; omega
        have h58 : ((s[k].toNat : Int) == 58) = false := by rw [beq_eq_false_iff_ne]; omega
        obtain ⟨d, hd⟩ : ∃ d, s[k].toNat % 16 = d := ⟨_, rfl⟩
        obtain ⟨y1, hy1⟩ : ∃ y, x * 10 % 18446744073709551616 = y := ⟨_, rfl⟩
        obtain ⟨y2, hy2⟩ : ∃ y, (y1 + d) % 18446744073709551616 = y := ⟨_, rfl⟩
        have q0 : ((s[k].toNat : Nat) : Int).tmod 16 = (d : Int) := by rw [tmod_pos _ _ (by omega)]; omega
        have q0' : ((s[k].toNat : Nat) : Int) % 16 = (d : Int) := by omega
        have q1 : IntKind.u64.wrap ((x : Int) * 10) = (y1 : Int) := by rw [IntKind.wrap_u64]; omega
        have q2 : IntKind.u64.wrap ((y1 : Int) + d) = (y2 : Int) := by rw [IntKind.wrap_u64]; omega
        have HD : Hid (y2 = (x * 10 + s[k].toNat % 16) % 18446744073709551616) := by show _ = _; omega
        clear hd hy1 hy2
        have hm0 : (0 : Int) ≤ m := by omega
        have hmc : (m : Int) < (m : Int) + 1 := by omega
        go_wp2
        go_region
        all_goals go_wp2
        go_roundw
        case rel => exact ⟨k + 1, m, ps, y2, by omega, by go_num, rr_digit hlt hc HS.out hg HD.out⟩
        case measure => simp [intOf]; omega
    · obtain rfl : k = s.size := by omega
      clear hlt hk cm
      have hLp : L = ps ++ [x] := by
        have ht := HS.out.todo
        rw [List.drop_of_length_le (by rw [ba_len]; exact Nat.le_refl _)] at ht
        exact ht.symm
      have hlen := HS.out.len
      by_cases h4 : m = 4
      · subst h4
        match ps, hlen with
        | [x0, x1, x2, x3], _ =>
          have hcell : ∀ i, i < 5 → wr.cell? ⟨g, i, none⟩ = some ((pv [x0, x1, x2, x3] x).getD i undef) := by
            intro i hi
            rw [World.ownsRow.cellAt HS.out.own i hi, List.getD_eq_getElem?_getD]
            rw [List.getElem?_eq_getElem (by simp [pv]; omega)]
            rfl
          have k0 : wr.cell? ⟨g, 0, none⟩ = some (.int .u64 (x0 : Int)) := hcell 0 (by omega)
          have k1 : wr.cell? ⟨g, 1, none⟩ = some (.int .u64 (x1 : Int)) := hcell 1 (by omega)
          have k2 : wr.cell? ⟨g, 2, none⟩ = some (.int .u64 (x2 : Int)) := hcell 2 (by omega)
          have k3 : wr.cell? ⟨g, 3, none⟩ = some (.int .u64 (x3 : Int)) := hcell 3 (by omega)
          have k4 : wr.cell? ⟨g, 4, none⟩ = some (.int .u64 (x : Int)) := hcell 4 (by omega)
          have hF := rr_five (s := s) (by rw [HL.out, hLp]; rfl)
          have hA : pkA x0 x1 x2 x3 < 4294967296 := Nat.mod_lt _ (by omega)
          obtain ⟨A, hAe⟩ : ∃ A, pkA x0 x1 x2 x3 = A := ⟨_, rfl⟩
          obtain ⟨y0, e0⟩ : ∃ y, x0 * 16777216 % 18446744073709551616 = y := ⟨_, rfl⟩
          obtain ⟨y1, e1⟩ : ∃ y, x1 * 65536 % 18446744073709551616 = y := ⟨_, rfl⟩
          obtain ⟨y2, e2⟩ : ∃ y, (y0 + y1) % 18446744073709551616 = y := ⟨_, rfl⟩
          obtain ⟨y3, e3⟩ : ∃ y, x2 * 256 % 18446744073709551616 = y := ⟨_, rfl⟩
          obtain ⟨y4, e4⟩ : ∃ y, (y2 + y3) % 18446744073709551616 = y := ⟨_, rfl⟩
          obtain ⟨y5, e5⟩ : ∃ y, (y4 + x3) % 18446744073709551616 = y := ⟨_, rfl⟩
          obtain ⟨B, eB⟩ : ∃ y, x % 65536 = y := ⟨_, rfl⟩
          have hB : B < 65536 := by omega
          have q0 : IntKind.u64.wrap ((x0 : Int) * 16777216) = (y0 : Int) := by rw [IntKind.wrap_u64]; omega
          have q1 : IntKind.u64.wrap ((x1 : Int) * 65536) = (y1 : Int) := by rw [IntKind.wrap_u64]; omega
          have q2 : IntKind.u64.wrap ((y0 : Int) + y1) = (y2 : Int) := by rw [IntKind.wrap_u64]; omega
          have q3 : IntKind.u64.wrap ((x2 : Int) * 256) = (y3 : Int) := by rw [IntKind.wrap_u64]; omega
          have q4 : IntKind.u64.wrap ((y2 : Int) + y3) = (y4 : Int) := by rw [IntKind.wrap_u64]; omega
          have q5 : IntKind.u64.wrap ((y4 : Int) + x3) = (y5 : Int) := by rw [IntKind.wrap_u64]; omega
          have qA : IntKind.u32.wrap (y5 : Int) = (A : Int) := by
            rw [IntKind.wrap_u32]
            have : y5 % 4294967296 = A := by rw [← hAe, ← e5, ← e4, ← e3, ← e2, ← e1, ← e0]; rfl
            omega
          have qB : IntKind.u16.wrap (x : Int) = (B : Int) := by rw [IntKind.wrap_u16]; omega
          rw [hAe] at hA hF
          rw [eB] at hF
          have HF := Lib.hid hF
          obtain ⟨c0, c1, f0, f1⟩ := HS.out.two
          have hz := HS.out.two.lt
          have hzg : ¬ w.heap.size = g := by omega
          have hzg2 : ¬ g = w.heap.size := by omega
          clear e0 e1 e2 e3 e4 e5 eB hAe hF hcell hLp hlen HL
          go_wp2
          go_region
          all_goals go_wp2_with fail
          all_goals refine (rtext_any A B hA hB _).mono ?_
          all_goals rintro e w2 ⟨rfl, d2⟩
          all_goals obtain ⟨hc2, hf2, hz2⟩ := bcell d2; (try simp at hz2); have kc2_0 := fun o => hc2 (w.heap.size) o (by first | omega | (simp; done) | (simp; omega)); have kf2_0 := fun o => hf2 (w.heap.size) o (by first | omega | (simp; done) | (simp; omega)); have kl2_0 : w.heap.size < w2.heap.size := (by omega); have kc2_1 := fun o => hc2 (wr.heap.size) o (by first | omega | (simp; done) | (simp; omega)); have kf2_1 := fun o => hf2 (wr.heap.size) o (by first | omega | (simp; done) | (simp; omega)); have kl2_1 : wr.heap.size < w2.heap.size := (by omega); clear hc2 hf2
          by_cases hs2 : atx A B = s
          · have hcmp : ((atx A B).toList == s.toList) = true := by rw [hs2]; simp
            have HE := Lib.hid (HF.out.1 hs2)
            clear hs2
            go_wp2
            refine bodyPost_ret (v := .tuple #[.agg #[.int .u32 A, .int .u16 B], .bool true]) (by simp [results, Tryd.results23, go_sem, *]) rfl ⟨?_, ?_⟩
            · rw [HE.out]; rfl
            · have hb := HS.out.below
              (have zz0 := Below.size d2; (try simp at zz0); have zz1 := Below.size hb; (try simp at zz1); repeat (first | exact Below.refl _ _ | refine Below.drew ?_ | refine below_drewN ?_ _ | refine Below.alloc ?_ (by first | omega | (simp; done) | (simp; omega)) _ | refine Below.setCell ?_ (by first | omega | (simp; done) | (simp; omega)) _ | (with_reducible refine Below.trans ?_ (Below.mono d2 (by first | omega | (simp; done) | (simp; omega)))) | (with_reducible refine Below.trans ?_ (Below.mono hb (by first | omega | (simp; done) | (simp; omega))))))
          · have hcmp : ((atx A B).toList == s.toList) = false := by
              rw [beq_eq_false_iff_ne, ByteArray.toList_eq, ByteArray.toList_eq]
              intro h
              exact hs2 (ba_ext _ _ h)
            have HE := Lib.hid (HF.out.2 hs2)
            clear hs2
            go_wp2
            refine bodyPost_ret (v := .tuple #[.agg #[.int .u32 0, .int .u16 0], .bool false]) (by simp [results, Tryd.results23, go_sem, *]) rfl ⟨?_, ?_⟩
            · rw [HE.out]; rfl
            · have hb := HS.out.below
              (have zz0 := Below.size d2; (try simp at zz0); have zz1 := Below.size hb; (try simp at zz1); repeat (first | exact Below.refl _ _ | refine Below.drew ?_ | refine below_drewN ?_ _ | refine Below.alloc ?_ (by first | omega | (simp; done) | (simp; omega)) _ | refine Below.setCell ?_ (by first | omega | (simp; done) | (simp; omega)) _ | (with_reducible refine Below.trans ?_ (Below.mono d2 (by first | omega | (simp; done) | (simp; omega)))) | (with_reducible refine Below.trans ?_ (Below.mono hb (by first | omega | (simp; done) | (simp; omega))))))
      · have hR := rr_few (s := s) (by rw [HL.out, hLp]) (by omega)
        have hmi : ((m : Int) + 1 == 5) = false := by rw [beq_eq_false_iff_ne]; omega
        have hmi2 : ((m : Int) + 1 != 5) = true := by simp [bne, hmi]
        obtain ⟨c0, c1, f0, f1⟩ := HS.out.two
        have hz := HS.out.two.lt
        have HRn := Lib.hid hR
        clear hR hLp hlen HL
        go_wp2
        refine bodyPost_ret (v := .tuple #[.agg #[.int .u32 0, .int .u16 0], .bool false]) (by simp [results, Tryd.results23, go_sem, *]) rfl ⟨?_, ?_⟩
        · rw [HRn.out]; rfl
        · have hb := HS.out.below
          (have zz0 := Below.size hb; (try simp at zz0); repeat (first | exact Below.refl _ _ | refine Below.drew ?_ | refine below_drewN ?_ _ | refine Below.alloc ?_ (by first | omega | (simp; done) | (simp; omega)) _ | refine Below.setCell ?_ (by first | omega | (simp; done) | (simp; omega)) _ | (with_reducible refine Below.trans ?_ (Below.mono hb (by first | omega | (simp; done) | (simp; omega))))))
end Go.Proofs.YtdihpiggknhojaaDoor
