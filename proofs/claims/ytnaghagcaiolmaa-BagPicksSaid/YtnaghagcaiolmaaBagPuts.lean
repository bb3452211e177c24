/- Datagrams numbered by their one byte: what BagOnce and BagPicks put; a region that draws and puts one. -/
import Derived.Test.YtnaghagcaiolmaaBagRoom
namespace Go.Proofs.Ytnaghagcaiolmaa
open Go.Sort Go.RowKit Go.BigFrame
set_option linter.unusedVariables false
set_option linter.unusedSimpArgs false

theorem ArgRow.rd {k : IntKind} {w : World} {a : Option Addr} {len cap : Nat} {zs : List Int} (h : ArgRow k w a len cap zs) : Rd k w w.heap.size a (zs.take len) ∧ (zs.take len).length = len ∧ len ≤ 9223372036854775807 ∧ ∀ n ∈ zs.take len, (Lit.int k n).wf = true := by
  rcases h with ⟨rfl, rfl, rfl, rfl⟩ | ⟨x, rfl, hl, hm, hz, hc, hw⟩
  · exact ⟨Rd.nil _ _ _ _, rfl, by omega, by simp⟩
  · refine ⟨fun hp => ?_, by rw [List.length_take]; omega, by unfold maxLen at hm; omega, fun n hn => hw n (List.mem_of_mem_take hn)⟩
    have hp' : 0 < zs.length := by rw [List.length_take] at hp; omega
    have h0 := hc 0 hp'
    obtain ⟨b, off, spot⟩ := x
    have hs : spot = none := by simpa [Addr.add] using World.cell?_spot h0
    subst hs
    refine ⟨b, off, rfl, by simpa [Addr.add] using World.block_lt_of_cell? _ _ h0, fun i hi => ?_⟩
    have hi' : i < len := by rw [List.length_take] at hi; omega
    have := hc i (by omega)
    rw [add_at] at this
    rw [this]
    simp [List.getD_eq_getElem?_getD, List.getElem?_take, hi']
def bI (i : Nat) : ByteArray := ⟨#[UInt8.ofNat i]⟩
def pkX (i : Nat) (t : Int) : Pi := ⟨1, 1, 2, 2, bI i, t⟩
/-- those of the places I -/
def pkI (T : List Int) (I : List Nat) : List Pi := I.map fun i => pkX i (T.getD i 0)
theorem pkX_ok {i : Nat} {t : Int} (h0 : 0 ≤ t) (h1 : t ≤ 18446744073709551615) : OkI (pkX i t) :=
  ⟨h0, h1, rfl, rfl, (by show ¬ (bI i).size = 0; intro e; exact absurd (show (1 : Nat) = 0 from e) (by decide)), (by show (bI i).size ≤ 1024; exact (show (1 : Nat) ≤ 1024 by decide))⟩
theorem pk_put {room i : Nat} {T : List Int} (h : i < room) : putE room (pkX i (T.getD i 0)) (pkI T (List.range i)) = 0 ∧ putL room (pkX i (T.getD i 0)) (pkI T (List.range i)) = pkI T (List.range (i + 1)) := by
  obtain ⟨e1, e2⟩ := put_good (room := room) (x := pkX i (T.getD i 0)) (L := pkI T (List.range i)) rfl (by
    show ¬ ((bI i).size = 0 ∨ 1024 < (bI i).size)
    exact (show ¬ ((1 : Nat) = 0 ∨ 1024 < 1) by decide)) (by simp [pkI]; omega)
  refine ⟨e1, e2.trans ?_⟩
  unfold pkI
  rw [List.range_succ, List.map_append]; rfl
theorem conv_byte (W : World) (i : Nat) (hi : i < 256) : (convert 65 9 (.slice (some ⟨W.heap.size, 0, none⟩) 1 1)).run Try.prog ((W.alloc (.cells #[.int .u8 (i : Nat)] 5)).drew) = .ok (.string (bI i)) ((W.alloc (.cells #[.int .u8 (i : Nat)] 5)).drew) := by
  have h := run_convert_bytes_back (P := Try.prog) ((W.alloc (.cells #[.int .u8 (i : Nat)] 5)).drew) 65 9 5 ⟨W.heap.size, 0, none⟩ 1 [UInt8.ofNat i] Try.underlying65 Try.underlying5 Try.underlying9 (fun j hj => by
    obtain rfl : j = 0 := by simpa using hj
    have hx := (Cs.new W [.int .u8 (i : Nat)] 5).drew.cell 0 _ rfl
    rw [add_at]
    have e : ((UInt8.ofNat i).toNat : Int) = (i : Int) := by simp [UInt8.toNat_ofNat']; omega
    simp only [List.getElem_cons_zero, Nat.zero_add]
    rw [hx, e])
  exact h
theorem bI_list (i : Nat) (hi : i < 256) : (bI i).data.toList = [UInt8.ofNat i] := rfl
theorem nth_ready {now : Int} : ∀ (L : List Pi) (m : Nat), m < readyP now L → ∃ x, L[nthR now L m]? = some x ∧ x.t ≤ now
  | [], m, h => by simp [readyP] at h
  | x :: r, m, h => by
    unfold readyP at h
    rw [List.filter_cons] at h
    rw [nthR_cons]
    cases e : isR now x with
    | true =>
      rw [e] at h
      simp only [if_true, List.length_cons] at h ⊢
      by_cases hm : m = 0
      · rw [if_pos hm]; exact ⟨x, rfl, of_decide_eq_true e⟩
      · rw [if_neg hm]
        obtain ⟨y, h1, h2⟩ := nth_ready (now := now) r (m - 1) (by unfold readyP; omega)
        exact ⟨y, by rw [List.getElem?_cons_succ]; exact h1, h2⟩
    | false =>
      rw [e] at h
      simp only [Bool.false_eq_true, if_false] at h ⊢
      obtain ⟨y, h1, h2⟩ := nth_ready (now := now) r m (by unfold readyP; omega)
      exact ⟨y, by rw [List.getElem?_cons_succ]; exact h1, h2⟩
theorem pick_some {now p : Int} {L : List Pi} (hp : 0 ≤ p) (hr : 0 < readyP now L) : ∃ j, pickE now p L = (j, 0) ∧ ∃ x, L[j]? = some x ∧ x.t ≤ now := by
  have e : pickE now p L = (nthR now L (p.toNat % readyP now L), 0) := by unfold pickE; rw [if_neg (by omega), if_neg (by omega)]
  exact ⟨_, e, nth_ready L _ (Nat.mod_lt _ (by omega))⟩
theorem info_bool : (Try.prog.info? 4).map (fun i => (i.zero, i.size, i.bytes)) = some (some (.bool false), 1, 1) := by kernel_rfl
theorem cs_made (w : World) (z : Value) (n : Nat) (t : TypeId) : Cs w.heap.size (List.replicate n z) (w.alloc (.cells (madeCells #[z] n) t)) := by
  have h := World.rowIs_made w z n t
  refine ⟨fun i v hv => ?_, fun i v hv => World.frozen?_alloc_at _ _ _ _ rfl, by simp⟩
  have hi : i < n := by have := (List.getElem?_eq_some_iff.1 hv).1; simpa using this
  have e : v = z := by rw [List.getElem?_replicate, if_pos hi] at hv; exact (Option.some.inj hv).symm
  rw [e]; exact h.cell hi
theorem ready_no_one {now : Int} {L : List Pi} (h : readyP now L = 0) : ∀ x ∈ L, ¬ x.t ≤ now := fun x hx hle => by
  unfold readyP at h
  have e := List.eq_nil_of_length_eq_zero h
  have : x ∈ L.filter (isR now) := List.mem_filter.2 ⟨hx, decide_eq_true hle⟩
  rw [e] at this; simp at this
/-- who is left to be taken, which were taken -/
structure OnS (B tb g n : Nat) (T : List Int) (now : Int) (I : List Nat) (bs : List Bool) (w wr : World) : Prop where
  l1 : L1 B [(tb, bs.map Value.bool)] g 20 (pkI T I) wr
  lo : B ≤ tb
  bel : Below B w wr
  len : bs.length = n
  nd : I.Nodup
  mem : ∀ i ∈ I, i < n ∧ bs[i]? = some false
  late : ∀ i ∈ I, now ≤ T.getD i 0
  il : I.length ≤ n
theorem OnS.keep {B tb g n : Nat} {T : List Int} {now : Int} {I : List Nat} {bs : List Bool} {w wr w2 : World} (h : OnS B tb g n T now I bs w wr) (b : Below wr.heap.size wr w2) : OnS B tb g n T now I bs w w2 :=
  ⟨h.l1.keep b, h.lo, h.bel.trans (b.mono h.l1.lo), h.len, h.nd, h.mem, h.late, h.il⟩
theorem OnS.next {B tb g n : Nat} {T : List Int} {now : Int} {I : List Nat} {bs : List Bool} {w wr : World} (h : OnS B tb g n T now I bs w wr) (hr : readyP now (pkI T I) = 0) : OnS B tb g n T (now + 1) I bs w wr :=
  ⟨h.l1, h.lo, h.bel, h.len, h.nd, h.mem, fun i hi => by
    have := ready_no_one hr (pkX i (T.getD i 0)) (List.mem_map.2 ⟨i, hi, rfl⟩)
    have h2 : ¬ T.getD i 0 ≤ now := this
    omega, h.il⟩
/-- one is taken -/
theorem OnS.took {B tb g n j i : Nat} {T : List Int} {now : Int} {I : List Nat} {bs : List Bool} {w wr w2 : World} (h : OnS B tb g n T now I bs w wr) (hj : I[j]? = some i) (hL : L1 B [(tb, bs.map Value.bool)] g 20 (pkI T (I.eraseIdx j)) w2) (hb : Below B w w2) :
    OnS B tb g n T now (I.eraseIdx j) (bs.set i true) w (w2.setCell ⟨tb, i, none⟩ (.bool true)) := by
  obtain ⟨hjl, hji⟩ := List.getElem?_eq_some_iff.1 hj
  obtain ⟨h1, h2⟩ := h.mem i (List.mem_of_getElem? hj)
  have hset := hL.set (i := i) (u := .bool true) h.lo (by rw [List.length_map, h.len]; exact h1) (by simp)
  have hmem : ∀ k, k ∈ I.eraseIdx j → k ∈ I ∧ k ≠ i := fun k hk => by
    refine ⟨List.mem_of_mem_eraseIdx hk, fun e => ?_⟩
    obtain ⟨q, hq, hqk⟩ := List.mem_eraseIdx_iff_getElem.1 hk
    obtain ⟨hq2, hq3⟩ := hqk
    have hp := List.pairwise_iff_getElem.1 (show I.Pairwise (· ≠ ·) from h.nd)
    rcases Nat.lt_or_gt_of_ne hq2 with hl | hl
    · exact hp q j hq hjl hl (by rw [hq3, hji, e])
    · exact hp j q hjl hq hl (by rw [hq3, hji, e])
  refine ⟨?_, h.lo, hb.setCell h.lo _, by rw [List.length_set]; exact h.len, h.nd.sublist (List.eraseIdx_sublist _ _), fun k hk => ?_, fun k hk => h.late k (hmem k hk).1, Nat.le_trans (List.length_eraseIdx_le _ _) h.il⟩
  · rw [List.map_set]; exact hset
  · obtain ⟨h3, h4⟩ := hmem k hk
    refine ⟨(h.mem k h3).1, ?_⟩
    rw [List.getElem?_set_ne (fun e => h4 e.symm)]; exact (h.mem k h3).2
theorem index_byte (s : UInt8) (q : Nat) (h : s.toNat = q) (w : World) : (Instr.index 9 (.string ⟨#[s]⟩) (.int .i64 0)).run Try.prog w = .ok (.int .u8 (q : Nat)) w := by
  have e : (⟨#[s]⟩ : ByteArray)[0]! = s := rfl
  subst h
  simp [Instr.index, run_underlying Try.underlying9, asIntOf]
  rfl
end Go.Proofs.Ytnaghagcaiolmaa
