/- The reference's box: Sweep. -/
import Derived.Test.YtnemmnndaoaadaaBoxRefNew
import Derived.Test.YtnemmnndaoaadaaBoxIns
namespace Go.Proofs.Ytnemmnndaoaadaa
open Go.Sort Go.RowKit Go.BigFrame
set_option linter.unusedVariables false
set_option linter.unusedSimpArgs false

/-- a row of the reference's bindings in a block of our own, at or above base -/
def RfRow (base : Nat) (w : World) (v : Value) (L : List Bd) : Prop := w.ownsRow base 73 7 v L.length (L.map ch).flatten
def keepU (now : Int) (L : List Bd) : List Bd := L.filter fun x => decide (now < x.1.un)
theorem keepU_fst (now : Int) (L : List Bd) : (keepU now L).map (·.1) = sweepP now (L.map (·.1)) := by
  unfold keepU sweepP; rw [List.filter_map]; rfl
theorem keepU_yes {now : Int} {L : List Bd} {i : Nat} {x : Bd} (h : L[i]? = some x) (hk : now < x.1.un) : keepU now (L.take (i + 1)) = keepU now (L.take i) ++ [x] := by
  unfold keepU; rw [List.take_add_one, h, List.filter_append]; simp [hk]
theorem keepU_no {now : Int} {L : List Bd} {i : Nat} {x : Bd} (h : L[i]? = some x) (hk : ¬ now < x.1.un) : keepU now (L.take (i + 1)) = keepU now (L.take i) := by
  unfold keepU; rw [List.take_add_one, h, List.filter_append]; simp [hk]
theorem keepU_len (now : Int) (L : List Bd) (i : Nat) : (keepU now (L.take i)).length ≤ i := Nat.le_trans (List.length_filter_le _ _) (by rw [List.length_take]; omega)
theorem info_rbind : (Try.prog.info? 73).map (fun i => (i.zero, i.size, i.bytes)) = some (some (.agg #[.int .u32 0, .int .u16 0, .int .u32 0, .int .u16 0, .int .u16 0, .slice none 0 0, .int .u64 0]), 7, 56) := by kernel_rfl
def RswJ (now : Int) (L : List Bd) (w : World) (v iv : Value) (wr : World) : Prop :=
  ∃ i : Nat, i ≤ L.length ∧ iv = .int .i64 (i : Nat) ∧ RfRow w.heap.size wr v (keepU now (L.take i)) ∧ Below w.heap.size w wr ∧ ∀ k, v.ownBlock = some k → w.heap.size ≤ k
def RswPost (now : Int) (g : Nat) (L : List Bd) (w : World) (e : Ending) (w' : World) : Prop :=
  ∃ (v : Value) (w9 : World), e = .returned (.int .i64 ((L.length : Int) - (keepU now L).length)) ∧ RfRow w.heap.size w9 v (keepU now L) ∧ Below w.heap.size w w9 ∧ w' = w9.setCell ⟨g, 5, none⟩ v
theorem rfrow_slice {base : Nat} {w : World} {v : Value} {L : List Bd} (h : RfRow base w v L) : ∃ a cap, v = .slice a L.length cap := by
  rcases h.2 with ⟨rfl, h0⟩ | ⟨g, cap, cur, rfl, _⟩
  · exact ⟨none, 0, by rw [h0]⟩
  · exact ⟨_, cap, rfl⟩
set_option maxHeartbeats 1600000 in
set_option maxRecDepth 100000 in
theorem rsweep_any (now : Int) (g : Nat) (m f ip hold : Int) (room : Nat) (a : Option Addr) (cap : Nat) (L : List Bd) (w : World) (hx : Cs g (bcells m f ip hold room ⟨a, L.length, cap⟩) w) (hr : RdB w a L) (hl : L.length ≤ 64) :
    Calls Try.prog 12 #[.pointer (some ⟨g, 0, none⟩), .int .u64 now] w (RswPost now g L w) := by
  obtain ⟨i0, hi0, hz0, hz1, hz2⟩ := info_parts info_rbind
  have HX := Lib.hid hx
  have HR := Lib.hid hr
  have hl64 : (L.length : Int) ≤ 64 := by omega
  clear hx hr
  go_enter Try.func12, Try.ntmps12
  go_wp2_with fail
  go_loopw [5, 6] (fun v iv wr => RswJ now L w v iv wr) (fun _ i _ => L.length - (intOf i).toNat)
  case atStart => exact ⟨0, Nat.zero_le _, rfl, World.ownsRow_nil _ _ _ _, Below.refl _ _, fun k hk => by simp [Value.ownBlock] at hk⟩
  case round =>
    obtain ⟨i, hi, rfl, hrow, hb, hov⟩ := hrel
    have HOV := Lib.hid hov
    clear hov
    generalize u5 = v at *
    have X := HX.out.keep hb
    have x5 := X.cell 5 _ rfl
    have xf := X.free 5 _ rfl
    have gl := X.lt
    have HROW := Lib.hid hrow
    have HB := Lib.hid hb
    have hi0' : (0 : Int) ≤ i := by omega
    have hkl := keepU_len now L i
    clear X hrow
    by_cases hlt : i < L.length
    · have hlt' : (i : Int) < L.length := by omega
      obtain ⟨b, off, rfl, hbl, hcc⟩ := (HR.out.keep hb) (by omega)
      have hx : L[i]? = some L[i] := List.getElem?_eq_getElem hlt
      have HI1 : Hid (i + 1 ≤ L.length) := hlt
      have KY := fun h => keepU_yes (now := now) hx h
      have KN := fun h => keepU_no (now := now) hx h
      have c0 := hcc i _ hx 0 _ rfl
      have c1 := hcc i _ hx 1 _ rfl
      have c2 := hcc i _ hx 2 _ rfl
      have c3 := hcc i _ hx 3 _ rfl
      have c4 := hcc i _ hx 4 _ rfl
      have c5 := hcc i _ hx 5 _ rfl
      have c6 := hcc i _ hx 6 _ rfl
      have ho := ch_one L[i]
      clear hcc hb
      generalize L[i] = y at *
      by_cases hk : now < y.1.un
      · have hk' : decide (now < y.1.un) = true := decide_eq_true hk
        have EQ := Lib.hid (KY hk)
        obtain ⟨⟨y1, y2, y3, y4, y5, y6, y7⟩, ⟨s1, s2, s3⟩⟩ := y
        simp only [Nat.add_zero] at c0 c1 c2 c3 c4 c5 c6 hk hk'
        clear KY KN hx
        go_wp2_with (at_builtin; refine wpList_append_lies _ rfl (.tmp 27) (.tmp 35) 62 rfl w.heap.size 73 i0 _ 7 56 Try.underlying62 hi0 hz0 hz1 hz2 rfl (by omega) v (keepU now (L.take i)).length ((keepU now (L.take i)).map ch).flatten rfl (HROW.out.alloc _) ⟨_, 0, none⟩ 1 1 (ch (⟨y1, y2, y3, y4, y5, y6, y7⟩, ⟨s1, s2, s3⟩)) rfl rfl (World.news_of_block (cs := (ch (⟨y1, y2, y3, y4, y5, y6, y7⟩, ⟨s1, s2, s3⟩)).toArray) (t := 73) (fr := (0, 0)) (heap_alloc_new _ _)) ho (by omega) ?c2 ?c3 ?c4 _ rfl ?_)
        case c2 => unfold maxLen; omega
        case c3 => omega
        case c4 => have := HB.out.size; simp; omega
        intro g1 cap1 w9 hown hgrow hat hlt9
        have fin : Hid (RfRow w.heap.size w9 (.slice (some ⟨g1, 0, none⟩) ((keepU now (L.take i)).length + 1) cap1) (keepU now (L.take (i + 1)))) := by
          rw [EQ.out]
          show World.ownsRow _ _ _ _ _ _ _
          rw [List.map_append, List.flatten_append, List.length_append]
          exact hown
        have QB := HB.out.alloc HB.out.size (.cells (ch (⟨y1, y2, y3, y4, y5, y6, y7⟩, ⟨s1, s2, s3⟩)).toArray 73)
        have bin := Lib.hid (QB.grown hgrow QB.size (fun k hk => HOV.out k hk))
        have hov : Hid (∀ k, (Value.slice (some ⟨g1, 0, none⟩) ((keepU now (L.take i)).length + 1) cap1).ownBlock = some k → w.heap.size ≤ k) := fun k hk => by
          obtain rfl : g1 = k := by injection hk
          rcases hat with h | h
          · exact HOV.out _ h
          · rw [h]; exact Nat.le_trans HB.out.size (Nat.le_succ _)
        clear hown hgrow hat QB
        go_wp2
        go_roundw
        case rel => exact ⟨i + 1, HI1.out, by go_num, fin.out, bin.out, hov.out⟩
        case measure => simp [intOf]; omega
      · have hk' : decide (now < y.1.un) = false := decide_eq_false hk
        have EQ := Lib.hid (KN hk)
        obtain ⟨⟨y1, y2, y3, y4, y5, y6, y7⟩, ⟨s1, s2, s3⟩⟩ := y
        simp only [Nat.add_zero] at c0 c1 c2 c3 c4 c5 c6 hk hk'
        clear KY KN hx
        go_wp2
        go_roundw
        case rel => exact ⟨i + 1, HI1.out, by go_num, by rw [EQ.out]; exact HROW.out, HB.out, HOV.out⟩
        case measure => simp [intOf]; omega
    · obtain rfl : i = L.length := by omega
      obtain ⟨a', cap', rfl⟩ := rfrow_slice HROW.out
      have HROW2 : Hid (RfRow w.heap.size wr (.slice a' (keepU now (L.take L.length)).length cap') (keepU now L)) := by
        have := HROW.out
        rw [List.take_length] at this ⊢
        exact this
      clear HROW HR hb
      rw [List.take_length] at *
      go_wp2
      go_ret
      exact ⟨_, _, rfl, HROW2.out, HB.out, rfl⟩
end Go.Proofs.Ytnemmnndaoaadaa
