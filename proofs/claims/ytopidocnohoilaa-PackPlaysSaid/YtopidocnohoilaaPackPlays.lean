/- The statement PackPlays: for every reader, deeds (the first 20), number, size, text: the program reads and puts as the reference does. No conditions. -/
import Derived.Test.YtopidocnohoilaaPackTexts
import Derived.ChangeOld
import Derived.ChangeMaps5
import Derived.ShutString
import Derived.OpenShut
import Derived.SizedLaws
import Derived.Deep.SlicePairs
import Derived.Lib.SmallJoins
import Derived.Deep.RegionHeld3
import Derived.Deep.DeepCutAuto
namespace Go.Proofs.Ytopidocnohoilaa
open Go.RowKit Go.ChangeShapes Go.WideShapes Go.ChangeAt
open Go.ChangeMaps (open_string shut_string)
set_option linter.unusedVariables false
set_option linter.unusedSimpArgs false

def Box (w : World) (g : Nat) (s : ByteArray) (b : Bool) : Prop :=
  w.cell? ⟨g, 0, none⟩ = some (.string s) ∧ w.cell? ⟨g, 1, none⟩ = some (.bool b) ∧ w.frozen? ⟨g, 0, none⟩ = false ∧ w.frozen? ⟨g, 1, none⟩ = false

theorem Box.keep {w w' : World} {g : Nat} {s : ByteArray} {b : Bool} (h : Box w g s b) (hb : Below w.heap.size w w') : Box w' g s b := by
  have hlt : g < w.heap.size := World.block_lt_of_cell? _ _ h.1
  obtain ⟨h0, h1, h2, h3⟩ := h
  exact ⟨(hb.cell (p := ⟨g, 0, none⟩) hlt).trans h0, (hb.cell (p := ⟨g, 1, none⟩) hlt).trans h1, (hb.frozen (p := ⟨g, 0, none⟩) hlt).trans h2, (hb.frozen (p := ⟨g, 1, none⟩) hlt).trans h3⟩
/-- what else is kept while a statement's order is drawn -/
structure Kept (w0 : World) (g1 g2 : Nat) (w : World) : Prop where
  below : Below w0.heap.size w0 w
  f0 : w.frozen? ⟨g1, 0, none⟩ = false
  f1 : w.frozen? ⟨g1, 1, none⟩ = false
  f2 : w.frozen? ⟨g2, 0, none⟩ = false
  f3 : w.frozen? ⟨g2, 1, none⟩ = false
theorem Kept.on {w0 w w' : World} {g1 g2 : Nat} (h : Kept w0 g1 g2 w) (l1 : g1 < w.heap.size) (l2 : g2 < w.heap.size) (hb : Below w.heap.size w w') : Kept w0 g1 g2 w' :=
  ⟨h.below.trans (hb.mono h.below.size), (hb.frozen (p := ⟨g1, 0, none⟩) l1).trans h.f0, (hb.frozen (p := ⟨g1, 1, none⟩) l1).trans h.f1, (hb.frozen (p := ⟨g2, 0, none⟩) l2).trans h.f2, (hb.frozen (p := ⟨g2, 1, none⟩) l2).trans h.f3⟩
theorem Kept.drew {w0 w : World} {g1 g2 : Nat} (h : Kept w0 g1 g2 w) : Kept w0 g1 g2 w.drew := ⟨h.below.drew, h.f0, h.f1, h.f2, h.f3⟩
theorem keep_of {P : Program} {f : FuncId} {args : Array Value} {r v0 v1 v2 v3 : Value} {w0 w : World} {g1 g2 : Nat} (hc : Calls P f args w fun e w' => e = .returned r ∧ Below w.heap.size w w')
    (h0 : w.cell? ⟨g1, 0, none⟩ = some v0) (h1 : w.cell? ⟨g1, 1, none⟩ = some v1) (h2 : w.cell? ⟨g2, 0, none⟩ = some v2) (h3 : w.cell? ⟨g2, 1, none⟩ = some v3) (hk : Kept w0 g1 g2 w) :
    Calls P f args w fun e w' => e = .returned r ∧ w'.cell? ⟨g1, 0, none⟩ = some v0 ∧ w'.cell? ⟨g1, 1, none⟩ = some v1 ∧ w'.cell? ⟨g2, 0, none⟩ = some v2 ∧ w'.cell? ⟨g2, 1, none⟩ = some v3 ∧ Kept w0 g1 g2 w' := by
  have l1 : g1 < w.heap.size := World.block_lt_of_cell? _ _ h0
  have l2 : g2 < w.heap.size := World.block_lt_of_cell? _ _ h2
  refine hc.mono fun e w' ⟨he, hb⟩ => ⟨he, ?_, ?_, ?_, ?_, hk.on l1 l2 hb⟩
  · exact (hb.cell (p := ⟨g1, 0, none⟩) l1).trans h0
  · exact (hb.cell (p := ⟨g1, 1, none⟩) l1).trans h1
  · exact (hb.cell (p := ⟨g2, 0, none⟩) l2).trans h2
  · exact (hb.cell (p := ⟨g2, 1, none⟩) l2).trans h3
/-- all that was there is as it was -/
structure Bel (w w' : World) : Prop where
  out : Below w.heap.size w w'
theorem Bel.drew {w w' : World} (h : Bel w w') : Bel w w'.drew := ⟨h.out.drew⟩
theorem Bel.alloc {w w' : World} (h : Bel w w') (o : Obj) : Bel w (w'.alloc o) := ⟨h.out.alloc h.out.size o⟩
theorem Bel.call {w w1 w2 : World} (h : Bel w w1) (hb : Below w1.heap.size w1 w2) : Bel w w2 := ⟨h.out.trans (hb.mono h.out.size)⟩
theorem Bel.setCell {w w' : World} (h : Bel w w') {p : Addr} (hp : w.heap.size ≤ p.block) (v : Value) : Bel w (w'.setCell p v) := ⟨h.out.setCell hp v⟩
theorem Box.new (w : World) (s : ByteArray) (b : Bool) (t : TypeId) : Box (w.alloc (.cells #[.string s, .bool b] t)) w.heap.size s b := by
  refine ⟨?_, ?_, ?_, ?_⟩ <;> go_simp
theorem Box.stored {w w' : World} {s : ByteArray} {b c : Bool} {r : ByteArray} {t : TypeId} (hb : Below (w.alloc (.cells #[.string r, .bool c] t)).heap.size (w.alloc (.cells #[.string r, .bool c] t)) w') :
    Box ((w'.setCell ⟨w.heap.size, 0, none⟩ (.string s)).setCell ⟨w.heap.size, 1, none⟩ (.bool b)) w.heap.size s b := by
  obtain ⟨h0, h1, h2, h3⟩ := (Box.new w r c t).keep hb
  refine ⟨?_, ?_, ?_, ?_⟩ <;> go_simp
def NumCut (w : World) (n : Nat) (s : ByteArray) (b : Bool) (v p : Value) (wx : World) : Prop :=
  ∃ g, v = .int .u64 n ∧ p = .pointer (some ⟨g, 0, none⟩) ∧ Box wx g s b ∧ w.heap.size ≤ g ∧ Bel w wx
def ReadJ (w : World) (g len : Nat) (i : Value) (wr : World) : Prop :=
  ∃ (k : Nat) (s : ByteArray) (b : Bool), i = .int .i64 k ∧ k ≤ len ∧ k ≤ 20 ∧ Box wr w.heap.size s b ∧ Box wr g s b ∧ s.size ≤ 9223372036854775807 ∧ Below w.heap.size w wr

/-- what Text answers -/
def txT (s : ByteArray) : ByteArray × Bool := if s.size ≤ 255 then (txB s, true) else (emp, false)
theorem txt_is {s x : ByteArray} {ok : Bool} (h : Hid (txT s = (x, ok))) (hs : s.size ≤ 9223372036854775807) (w : World) :
    Calls Try.prog 16 #[.string s] w fun e w' => e = .returned (.tuple #[.string x, .bool ok]) ∧ Below w.heap.size w w' := by
  have h := h.out
  unfold txT at h
  by_cases hc : s.size ≤ 255
  · rw [if_pos hc] at h
    injection h with h1 h2
    subst h1 h2
    exact txt_yes s hc w
  · rw [if_neg hc] at h
    injection h with h1 h2
    subst h1 h2
    exact txt_no s (by omega) hs w
theorem rtxt_is {s x : ByteArray} {ok : Bool} (h : Hid (txT s = (x, ok))) (hs : s.size ≤ 9223372036854775807) (w : World) :
    Calls Try.prog 17 #[.string s] w fun e w' => e = .returned (.tuple #[.string x, .bool ok]) ∧ Below w.heap.size w w' := by
  have h := h.out
  unfold txT at h
  by_cases hc : s.size ≤ 255
  · rw [if_pos hc] at h
    injection h with h1 h2
    subst h1 h2
    exact rtxt_yes s hc w
  · rw [if_neg hc] at h
    injection h with h1 h2
    subst h1 h2
    exact rtxt_no s (by omega) hs w
/-- what Number answers -/
def nuX (n : Nat) (z : Int) : ByteArray := if 1 ≤ z ∧ z ≤ 8 then numB n z.toNat else emp
theorem put_is {n : Nat} {z : Int} {x : ByteArray} (h : Hid (nuX n z = x)) (hn : n < 18446744073709551616) (w : World) :
    Calls Try.prog 18 #[.int .u64 n, .int .i64 z] w fun e w' => e = .returned (.string x) ∧ Below w.heap.size w w' := by
  have h := h.out
  subst h
  unfold nuX
  by_cases hc : 1 ≤ z ∧ z ≤ 8
  · rw [if_pos hc]
    exact num_at n z n z.toNat rfl (by omega) hn (by omega) (by omega) w
  · rw [if_neg hc]
    exact num_no n z hc w
theorem rput_is {n : Nat} {z : Int} {x : ByteArray} (h : Hid (nuX n z = x)) (hn : n < 18446744073709551616) (w : World) :
    Calls Try.prog 20 #[.int .u64 n, .int .i64 z] w fun e w' => e = .returned (.string x) ∧ Below w.heap.size w w' := by
  have h := h.out
  subst h
  unfold nuX
  by_cases hc : 1 ≤ z ∧ z ≤ 8
  · rw [if_pos hc]
    obtain ⟨k, rfl⟩ : ∃ k : Nat, z = k := ⟨z.toNat, by omega⟩
    rw [Int.toNat_natCast]
    exact rnum_yes n k hn (by omega) (by omega) w
  · rw [if_neg hc]
    exact rnum_no n z hc w

set_option maxRecDepth 100000 in
set_option maxHeartbeats 4000000 in
theorem packPlays_walk (s : ByteArray) (b : Bool) (a : Option Addr) (len cap : Nat) (n : Nat) (z : Int) (t : ByteArray) (l : Int) (m : Nat) (hn : n < 18446744073709551616) (zb0 : -9223372036854775808 ≤ z) (zb1 : z ≤ 9223372036854775807) (ht : t.size ≤ 140737488355327) (hl0 : 0 ≤ l) (hl1 : l ≤ 65535) (hm : l % 300 = (m : Int)) (hs : s.size ≤ 9223372036854775807) (hlen : len ≤ 9223372036854775807) (w : World) (hl : Hid (PairRow IsBool (IsInt .i64) w a len cap)) :
    Calls Try.prog 3 #[.agg #[.string s, .bool b], .slice a len cap, .int .u64 n, .int .i64 z, .string t, .int .u16 l] w fun e w' => e = .returned (.bool true) ∧ Below w.heap.size w w' := by
  go_enter Try.func3, Try.ntmps3
  go_wp2_with fail
  refine (examples_yes _).mono ?_; rintro e w1 ⟨rfl, b1⟩; obtain ⟨hc1, hf1, hz1⟩ := bcell b1; (try simp at hz1); have kc1_0 := fun o => hc1 (w.heap.size) o (by first | omega | (simp; done) | (simp; omega)); have kf1_0 := fun o => hf1 (w.heap.size) o (by first | omega | (simp; done) | (simp; omega)); have kl1_0 : w.heap.size < w1.heap.size := (by omega); clear hc1 hf1
  go_wp2_with fail
  go_loopw [15] (fun i wr => ReadJ w w1.heap.size len i wr) (fun i _ => len - (intOf i).toNat)
  case atStart => exact ⟨0, s, b, rfl, Nat.zero_le _, Nat.zero_le _, ((Box.new w s b _).keep b1).keep ((Below.refl _ _).alloc (Nat.le_refl _) _), Box.new w1 s b _, hs, ((((Bel.mk (Below.refl w.heap.size w)).alloc _).call b1).alloc _).out⟩
  case round =>
    obtain ⟨k, s0, b0, rfl, hk1, hk2, X6, X14, hs0, hb⟩ := hrel
    have HB := Lib.hid hb
    clear hb
    by_cases hlt : k < len
    · by_cases h20 : k < 20
      · obtain ⟨ab, off, rfl, hab, hcell⟩ := hl.out.at_ (by omega)
        obtain ⟨v0, v1, g0, g1, ⟨dt, rfl⟩, ⟨dz, rfl, wz⟩⟩ := hcell k hlt
        have c0 : wr.cell? ⟨ab, off + k * 2, none⟩ = some (.bool dt) := (HB.out.cell (p := ⟨ab, off + k * 2, none⟩) hab).trans g0
        have c1 : wr.cell? ⟨ab, off + k * 2 + 1, none⟩ = some (.int .i64 dz) := (HB.out.cell (p := ⟨ab, off + k * 2 + 1, none⟩) hab).trans g1
        clear g0 g1 hcell
        obtain ⟨x0, x1, x2, x3⟩ := X6
        obtain ⟨y0, y1, y2, y3⟩ := X14
        have lx : w.heap.size < wr.heap.size := World.block_lt_of_cell? _ _ x0
        have ly : w1.heap.size < wr.heap.size := World.block_lt_of_cell? _ _ y0
        have hk0 : (0 : Int) ≤ k := by omega
        have hkl : (k : Int) < len := by omega
        have hk20 : (k : Int) < 20 := by omega
        cases dt
        · obtain ⟨vn, s1, bb1, hx⟩ : ∃ vn s1 bb1, rdn s0 b0 (dz.tmod 11) = (vn, s1, bb1) := ⟨_, _, _, rfl⟩
          have HX := Lib.hid hx
          have hs1 := (rdn_size hx).2
          clear hx
          have QB : Bel wr wr := ⟨Below.refl _ _⟩
          have mkS : Hid (∀ w', Bel wr w' → w'.cell? ⟨w.heap.size, 0, none⟩ = some (.string s0) ∧ w'.cell? ⟨w.heap.size, 1, none⟩ = some (.bool b0) ∧ w'.cell? ⟨ab, off + k * 2 + 1, none⟩ = some (.int .i64 dz) ∧ Bel wr w') := fun w' h =>
            ⟨(h.out.cell (p := ⟨w.heap.size, 0, none⟩) lx).trans x0, (h.out.cell (p := ⟨w.heap.size, 1, none⟩) lx).trans x1, (h.out.cell (p := ⟨ab, off + k * 2 + 1, none⟩) (Nat.lt_trans hab lx)).trans c1, h⟩
          go_upto_region 15 with fail
          go_cut [20, 21] (fun v p wx => NumCut wr vn s1 bb1 v p wx)
          case first =>
            go_region_held3 (fun w' => w'.cell? ⟨w.heap.size, 0, none⟩ = some (.string s0) ∧ w'.cell? ⟨w.heap.size, 1, none⟩ = some (.bool b0) ∧ w'.cell? ⟨ab, off + k * 2 + 1, none⟩ = some (.int .i64 dz) ∧ Bel wr w')
              (first | exact mkS.out _ QB | exact mkS.out _ QB.drew | exact mkS.out _ (QB.alloc _) | exact mkS.out _ (QB.drew.alloc _) | exact mkS.out _ ((QB.setCell (p := ⟨wr.heap.size, 0, none⟩) (Nat.le_refl _) _).setCell (p := ⟨wr.heap.size, 1, none⟩) (Nat.le_refl _) _))
              (first | (go_at_call 11; refine (num_is HX hs0 _).mono ?_; rintro e wx ⟨rfl, hb⟩; have QB := Bel.call (by first | exact QB | exact QB.drew | exact QB.alloc _ | exact QB.drew.alloc _ | exact (QB.alloc _).drew) hb; obtain ⟨hc, hf, hz⟩ := bcell hb; (try simp at hz)))
            all_goals go_wp2
            all_goals go_meet
            all_goals (first | exact ⟨_, rfl, rfl, Box.new _ _ _ _, QB.out.size, QB.alloc _⟩ | exact ⟨_, rfl, rfl, Box.stored (w := wr.drew) hb, Nat.le_refl _, (QB.setCell (p := ⟨wr.heap.size, 0, none⟩) (Nat.le_refl _) _).setCell (p := ⟨wr.heap.size, 1, none⟩) (Nat.le_refl _) _⟩)
          case rest =>
            obtain ⟨g1, rfl, rfl, X21, hg1, QA⟩ := hcut
            generalize wc = wa at *
            have QB : Bel wa wa := ⟨Below.refl _ _⟩
            have la : wr.heap.size ≤ wa.heap.size := QA.out.size
            have mkS2 : Hid (∀ w', Bel wa w' → w'.cell? ⟨w1.heap.size, 0, none⟩ = some (.string s0) ∧ w'.cell? ⟨w1.heap.size, 1, none⟩ = some (.bool b0) ∧ w'.cell? ⟨ab, off + k * 2 + 1, none⟩ = some (.int .i64 dz) ∧ Bel wa w') := fun w' h =>
              ⟨(h.out.cell (p := ⟨w1.heap.size, 0, none⟩) (Nat.lt_of_lt_of_le ly la)).trans ((QA.out.cell (p := ⟨w1.heap.size, 0, none⟩) ly).trans y0), (h.out.cell (p := ⟨w1.heap.size, 1, none⟩) (Nat.lt_of_lt_of_le ly la)).trans ((QA.out.cell (p := ⟨w1.heap.size, 1, none⟩) ly).trans y1),
                (h.out.cell (p := ⟨ab, off + k * 2 + 1, none⟩) (Nat.lt_of_lt_of_le (Nat.lt_trans hab lx) la)).trans ((QA.out.cell (p := ⟨ab, off + k * 2 + 1, none⟩) (Nat.lt_trans hab lx)).trans c1), h⟩
            go_upto_region 16 with fail
            go_cut [22, 23] (fun v p wx => NumCut wa vn s1 bb1 v p wx)
            case first =>
              go_region_held3 (fun w' => w'.cell? ⟨w1.heap.size, 0, none⟩ = some (.string s0) ∧ w'.cell? ⟨w1.heap.size, 1, none⟩ = some (.bool b0) ∧ w'.cell? ⟨ab, off + k * 2 + 1, none⟩ = some (.int .i64 dz) ∧ Bel wa w')
                (first | exact mkS2.out _ QB | exact mkS2.out _ QB.drew | exact mkS2.out _ (QB.alloc _) | exact mkS2.out _ (QB.drew.alloc _) | exact mkS2.out _ ((QB.setCell (p := ⟨wa.heap.size, 0, none⟩) (Nat.le_refl _) _).setCell (p := ⟨wa.heap.size, 1, none⟩) (Nat.le_refl _) _))
                (first | (go_at_call 12; refine (rnum_is HX hs0 _).mono ?_; rintro e wx ⟨rfl, hb⟩; have QB := Bel.call (by first | exact QB | exact QB.drew | exact QB.alloc _ | exact QB.drew.alloc _ | exact (QB.alloc _).drew) hb; obtain ⟨hc, hf, hz⟩ := bcell hb; (try simp at hz)))
              all_goals go_wp2
              all_goals go_meet
              all_goals (first | exact ⟨_, rfl, rfl, Box.new _ _ _ _, QB.out.size, QB.alloc _⟩ | exact ⟨_, rfl, rfl, Box.stored (w := wa.drew) hb, Nat.le_refl _, (QB.setCell (p := ⟨wa.heap.size, 0, none⟩) (Nat.le_refl _) _).setCell (p := ⟨wa.heap.size, 1, none⟩) (Nat.le_refl _) _⟩)
            case rest =>
              obtain ⟨g2, rfl, rfl, ⟨r0, r1, r2, r3⟩, hg2, QC⟩ := hcut
              generalize wc = wb at *
              have m0 : g1 < wa.heap.size := World.block_lt_of_cell? _ _ X21.1
              obtain ⟨p0, p1, p2, p3⟩ := X21.keep QC.out
              have B3 : Hid (Below w.heap.size w wb) := (HB.out.trans (QA.out.mono HB.out.size)).trans (QC.out.mono (Nat.le_trans HB.out.size la))
              have QD : Bel wr wb := Bel.call QA QC.out
              have u0 := (QD.out.cell (p := ⟨w.heap.size, 0, none⟩) lx).trans x0
              have u1 := (QD.out.cell (p := ⟨w.heap.size, 1, none⟩) lx).trans x1
              have u2 := (QD.out.cell (p := ⟨w1.heap.size, 0, none⟩) ly).trans y0
              have u3 := (QD.out.cell (p := ⟨w1.heap.size, 1, none⟩) ly).trans y1
              have u4 := (QD.out.frozen (p := ⟨w.heap.size, 0, none⟩) lx).trans x2
              have u5 := (QD.out.frozen (p := ⟨w.heap.size, 1, none⟩) lx).trans x3
              have u6 := (QD.out.frozen (p := ⟨w1.heap.size, 0, none⟩) ly).trans y2
              have u7 := (QD.out.frozen (p := ⟨w1.heap.size, 1, none⟩) ly).trans y3
              have m1 : ¬ g1 = w.heap.size := by omega
              have m2 : ¬ g1 = w1.heap.size := by omega
              have m3 : ¬ g2 = w.heap.size := by omega
              have m4 : ¬ g2 = w1.heap.size := by omega
              have m5 : ¬ w.heap.size = w1.heap.size := by omega
              have m6 : ¬ w1.heap.size = w.heap.size := by omega
              have m7 : w.heap.size < wb.heap.size := by have := QC.out.size; omega
              have m8 : w1.heap.size < wb.heap.size := by have := QC.out.size; omega
              clear x0 x1 x2 x3 y0 y1 y2 y3 c0 c1 QA QC QD HX HB X21 mkS mkS2 QB hg1 hg2 lx ly la m0 b1 kc1_0 kf1_0 hz1
              go_wp2_with fail
              refine (same_yes _ _ _).mono ?_; rintro e w4 ⟨rfl, d4⟩; obtain ⟨hc4, hf4, hz4⟩ := bcell d4; (try simp at hz4); have kc4_0 := fun o => hc4 (w.heap.size) o (by first | omega | (simp; done) | (simp; omega)); have kf4_0 := fun o => hf4 (w.heap.size) o (by first | omega | (simp; done) | (simp; omega)); have kl4_0 : w.heap.size < w4.heap.size := (by omega); have kc4_1 := fun o => hc4 (w1.heap.size) o (by first | omega | (simp; done) | (simp; omega)); have kf4_1 := fun o => hf4 (w1.heap.size) o (by first | omega | (simp; done) | (simp; omega)); have kl4_1 : w1.heap.size < w4.heap.size := (by omega); clear hc4 hf4
              have q0 : w4.cell? ⟨w.heap.size, 0, none⟩ = some (.string s1) := by rw [kc4_0]; go_simp
              have q1 : w4.cell? ⟨w.heap.size, 1, none⟩ = some (.bool bb1) := by rw [kc4_0]; go_simp
              have q2 : w4.cell? ⟨w1.heap.size, 0, none⟩ = some (.string s1) := by rw [kc4_1]; go_simp
              have q3 : w4.cell? ⟨w1.heap.size, 1, none⟩ = some (.bool bb1) := by rw [kc4_1]; go_simp
              have QK : Kept w w.heap.size w1.heap.size w4 := by
                refine ⟨?_, by rw [kf4_0]; go_simp, by rw [kf4_0]; go_simp, by rw [kf4_1]; go_simp, by rw [kf4_1]; go_simp⟩
                have hb := B3.out
                have z1 : w.heap.size ≤ w1.heap.size := Nat.le_of_lt kl1_0
                exact (((((hb.setCell (p := ⟨w.heap.size, 0, none⟩) (Nat.le_refl _) _).setCell (p := ⟨w.heap.size, 1, none⟩) (Nat.le_refl _) _).setCell (p := ⟨w1.heap.size, 0, none⟩) z1 _).setCell (p := ⟨w1.heap.size, 1, none⟩) z1 _)).trans (d4.mono (by have := hb.size; simpa using this))
              have lw : w1.heap.size < w4.heap.size := kl4_1
              obtain ⟨d, hd⟩ : ∃ d, dn s1 bb1 = d := ⟨_, rfl⟩
              have HD := Lib.hid hd
              clear hd d4 B3 kc4_0 kf4_0 kl4_0 kc4_1 kf4_1 kl4_1 hz4 p0 p1 p2 p3 r0 r1 r2 r3 u0 u1 u2 u3 u4 u5 u6 u7 m1 m2 m3 m4 m7 m8
              go_wp2_with fail
              go_region_held3 (fun w' => w'.cell? ⟨w.heap.size, 0, none⟩ = some (.string s1) ∧ w'.cell? ⟨w.heap.size, 1, none⟩ = some (.bool bb1) ∧ w'.cell? ⟨w1.heap.size, 0, none⟩ = some (.string s1) ∧ w'.cell? ⟨w1.heap.size, 1, none⟩ = some (.bool bb1) ∧ Kept w w.heap.size w1.heap.size w')
                (first | exact ⟨q0, q1, q2, q3, QK⟩ | exact ⟨q0, q1, q2, q3, QK.drew⟩ | go_keep)
                (first | (go_at_call 14; refine (keep_of (g1 := w.heap.size) (g2 := w1.heap.size) (w0 := w) (v0 := .string s1) (v1 := .bool bb1) (v2 := .string s1) (v3 := .bool bb1) (done_is HD _) ?_ ?_ ?_ ?_ ?_).mono ?_; (exact q0); (exact q1); (exact q2); (exact q3); (first | exact QK | exact QK.drew); rintro e wx ⟨rfl, q0, q1, q2, q3, QK⟩) | (go_at_call 15; refine (keep_of (g1 := w.heap.size) (g2 := w1.heap.size) (w0 := w) (v0 := .string s1) (v1 := .bool bb1) (v2 := .string s1) (v3 := .bool bb1) (rdone_is HD _) ?_ ?_ ?_ ?_ ?_).mono ?_; (exact q0); (exact q1); (exact q2); (exact q3); (first | exact QK | exact QK.drew); rintro e wx ⟨rfl, q0, q1, q2, q3, QK⟩))
              go_wp2
              go_roundw
              case rel => exact ⟨k + 1, s1, bb1, by go_num, by omega, by omega, ⟨q0, q1, QK.f0, QK.f1⟩, ⟨q2, q3, QK.f2, QK.f3⟩, by omega, QK.below⟩
              case measure => simp [intOf]; omega
        · obtain ⟨tt, s1, bb1, hx⟩ : ∃ tt s1 bb1, rtx s0 b0 = (tt, s1, bb1) := ⟨_, _, _, rfl⟩
          have HX := Lib.hid hx
          have hs1 := (rtx_size hx).2
          clear hx
          go_wp2_with fail
          refine (txr_is HX hs0 _).mono ?_; rintro e w2 ⟨rfl, d2⟩; obtain ⟨hc2, hf2, hz2⟩ := bcell d2; (try simp at hz2); have kc2_0 := fun o => hc2 (w.heap.size) o (by first | omega | (simp; done) | (simp; omega)); have kf2_0 := fun o => hf2 (w.heap.size) o (by first | omega | (simp; done) | (simp; omega)); have kl2_0 : w.heap.size < w2.heap.size := (by omega); have kc2_1 := fun o => hc2 (w1.heap.size) o (by first | omega | (simp; done) | (simp; omega)); have kf2_1 := fun o => hf2 (w1.heap.size) o (by first | omega | (simp; done) | (simp; omega)); have kl2_1 : w1.heap.size < w2.heap.size := (by omega); clear hc2 hf2
          go_wp2_with fail
          have B2 : Hid (Below w.heap.size w w2) := HB.out.trans (d2.mono HB.out.size)
          refine (rtxr_is HX hs0 _).mono ?_; rintro e w3 ⟨rfl, d3⟩; obtain ⟨hc3, hf3, hz3⟩ := bcell d3; (try simp at hz3); have kc3_0 := fun o => hc3 (w.heap.size) o (by first | omega | (simp; done) | (simp; omega)); have kf3_0 := fun o => hf3 (w.heap.size) o (by first | omega | (simp; done) | (simp; omega)); have kl3_0 : w.heap.size < w3.heap.size := (by omega); have kc3_1 := fun o => hc3 (w1.heap.size) o (by first | omega | (simp; done) | (simp; omega)); have kf3_1 := fun o => hf3 (w1.heap.size) o (by first | omega | (simp; done) | (simp; omega)); have kl3_1 : w1.heap.size < w3.heap.size := (by omega); have kc3_2 := fun o => hc3 (w2.heap.size) o (by first | omega | (simp; done) | (simp; omega)); have kf3_2 := fun o => hf3 (w2.heap.size) o (by first | omega | (simp; done) | (simp; omega)); have kl3_2 : w2.heap.size < w3.heap.size := (by omega); clear hc3 hf3
          have B3 : Hid (Below w.heap.size w w3) := (B2.out.alloc B2.out.size _).trans (d3.mono (by have := B2.out.size; simp; omega))
          go_wp2_with fail
          refine (same_yes _ _ _).mono ?_; rintro e w4 ⟨rfl, d4⟩; obtain ⟨hc4, hf4, hz4⟩ := bcell d4; (try simp at hz4); have kc4_0 := fun o => hc4 (w.heap.size) o (by first | omega | (simp; done) | (simp; omega)); have kf4_0 := fun o => hf4 (w.heap.size) o (by first | omega | (simp; done) | (simp; omega)); have kl4_0 : w.heap.size < w4.heap.size := (by omega); have kc4_1 := fun o => hc4 (w1.heap.size) o (by first | omega | (simp; done) | (simp; omega)); have kf4_1 := fun o => hf4 (w1.heap.size) o (by first | omega | (simp; done) | (simp; omega)); have kl4_1 : w1.heap.size < w4.heap.size := (by omega); clear hc4 hf4
          have q0 : w4.cell? ⟨w.heap.size, 0, none⟩ = some (.string s1) := by rw [kc4_0]; go_simp
          have q1 : w4.cell? ⟨w.heap.size, 1, none⟩ = some (.bool bb1) := by rw [kc4_0]; go_simp
          have q2 : w4.cell? ⟨w1.heap.size, 0, none⟩ = some (.string s1) := by rw [kc4_1]; go_simp
          have q3 : w4.cell? ⟨w1.heap.size, 1, none⟩ = some (.bool bb1) := by rw [kc4_1]; go_simp
          have QK : Kept w w.heap.size w1.heap.size w4 := by
            refine ⟨?_, by rw [kf4_0]; go_simp, by rw [kf4_0]; go_simp, by rw [kf4_1]; go_simp, by rw [kf4_1]; go_simp⟩
            have hb := B3.out
            have z1 : w.heap.size ≤ w1.heap.size := Nat.le_of_lt kl1_0
            exact (((((hb.setCell (p := ⟨w.heap.size, 0, none⟩) (Nat.le_refl _) _).setCell (p := ⟨w.heap.size, 1, none⟩) (Nat.le_refl _) _).setCell (p := ⟨w1.heap.size, 0, none⟩) z1 _).setCell (p := ⟨w1.heap.size, 1, none⟩) z1 _).alloc (by simpa using hb.size) _).trans (d4.mono (by have := hb.size; simp; omega))
          have lw : w1.heap.size < w4.heap.size := kl4_1
          obtain ⟨d, hd⟩ : ∃ d, dn s1 bb1 = d := ⟨_, rfl⟩
          have HD := Lib.hid hd
          clear hd d4 B2 B3 kc4_0 kf4_0 kl4_0 kc4_1 kf4_1 kl4_1 hz4 d3 kc3_0 kf3_0 kl3_0 kc3_1 kf3_1 kl3_1 kc3_2 kf3_2 kl3_2 hz3 d2 kc2_0 kf2_0 kl2_0 kc2_1 kf2_1 kl2_1 hz2 x0 x1 x2 x3 y0 y1 y2 y3 lx ly c0 c1 HB HX b1 kc1_0 kf1_0 hz1
          go_wp2_with fail
          go_region_held3 (fun w' => w'.cell? ⟨w.heap.size, 0, none⟩ = some (.string s1) ∧ w'.cell? ⟨w.heap.size, 1, none⟩ = some (.bool bb1) ∧ w'.cell? ⟨w1.heap.size, 0, none⟩ = some (.string s1) ∧ w'.cell? ⟨w1.heap.size, 1, none⟩ = some (.bool bb1) ∧ Kept w w.heap.size w1.heap.size w')
            (first | exact ⟨q0, q1, q2, q3, QK⟩ | exact ⟨q0, q1, q2, q3, QK.drew⟩ | go_keep)
            (first | (go_at_call 14; refine (keep_of (g1 := w.heap.size) (g2 := w1.heap.size) (w0 := w) (v0 := .string s1) (v1 := .bool bb1) (v2 := .string s1) (v3 := .bool bb1) (done_is HD _) ?_ ?_ ?_ ?_ ?_).mono ?_; (exact q0); (exact q1); (exact q2); (exact q3); (first | exact QK | exact QK.drew); rintro e wx ⟨rfl, q0, q1, q2, q3, QK⟩) | (go_at_call 15; refine (keep_of (g1 := w.heap.size) (g2 := w1.heap.size) (w0 := w) (v0 := .string s1) (v1 := .bool bb1) (v2 := .string s1) (v3 := .bool bb1) (rdone_is HD _) ?_ ?_ ?_ ?_ ?_).mono ?_; (exact q0); (exact q1); (exact q2); (exact q3); (first | exact QK | exact QK.drew); rintro e wx ⟨rfl, q0, q1, q2, q3, QK⟩))
          go_wp2
          go_roundw
          case rel => exact ⟨k + 1, s1, bb1, by go_num, by omega, by omega, ⟨q0, q1, QK.f0, QK.f1⟩, ⟨q2, q3, QK.f2, QK.f3⟩, by omega, QK.below⟩
          case measure => simp [intOf]; omega
      · have hm3 : m < 300 := by omega
        have hmk := run_make_row' (P := Try.prog) 40 5 (.int .u8 0) 1 Try.underlying40 info_u8 rfl .i64 .i64 m (by omega) (by omega)
        have hzs := zer_size m
        have hcv := fun w => zer_conv w m
        have htz : (t ++ zer m).size = t.size + m := by simp [zer_size]
        obtain ⟨tx, tok, htx⟩ : ∃ tx tok, txT (t ++ zer m) = (tx, tok) := ⟨_, _, rfl⟩
        have HTX := Lib.hid htx
        obtain ⟨nx, hnx⟩ : ∃ nx, nuX n z = nx := ⟨_, rfl⟩
        have HNX := Lib.hid hnx
        obtain ⟨ny, hny⟩ : ∃ ny, nuX n (z.tmod 10) = ny := ⟨_, rfl⟩
        have HNY := Lib.hid hny
        obtain ⟨vn, s1, bb1, hx⟩ : ∃ vn s1 bb1, rdn s0 false z = (vn, s1, bb1) := ⟨_, _, _, rfl⟩
        have HX := Lib.hid hx
        clear htx hnx hny hx hm3
        obtain ⟨x0, x1, x2, x3⟩ := X6
        obtain ⟨y0, y1, y2, y3⟩ := X14
        have lx : w.heap.size < wr.heap.size := World.block_lt_of_cell? _ _ x0
        have ly : w1.heap.size < wr.heap.size := World.block_lt_of_cell? _ _ y0
        have A0 : Bel w wr := ⟨HB.out⟩
        clear HB b1 kc1_0 kf1_0 hz1
        go_wp2_with fail
        refine (txt_is HTX (by omega) _).mono ?_; rintro e v1 ⟨rfl, d1⟩; obtain ⟨hc11, hf11, hz11⟩ := bcell d1; (try simp at hz11); have kc11_0 := fun o => hc11 (w.heap.size) o (by first | omega | (simp; done) | (simp; omega)); have kf11_0 := fun o => hf11 (w.heap.size) o (by first | omega | (simp; done) | (simp; omega)); have kl11_0 : w.heap.size < v1.heap.size := (by omega); have kc11_1 := fun o => hc11 (w1.heap.size) o (by first | omega | (simp; done) | (simp; omega)); have kf11_1 := fun o => hf11 (w1.heap.size) o (by first | omega | (simp; done) | (simp; omega)); have kl11_1 : w1.heap.size < v1.heap.size := (by omega); clear hc11 hf11
        have A1 : Bel w v1 := (A0.alloc _).call d1
        go_wp2_with fail
        refine (rtxt_is HTX (by omega) _).mono ?_; rintro e v2 ⟨rfl, d2⟩; obtain ⟨hc12, hf12, hz12⟩ := bcell d2; (try simp at hz12); have kc12_0 := fun o => hc12 (w.heap.size) o (by first | omega | (simp; done) | (simp; omega)); have kf12_0 := fun o => hf12 (w.heap.size) o (by first | omega | (simp; done) | (simp; omega)); have kl12_0 : w.heap.size < v2.heap.size := (by omega); have kc12_1 := fun o => hc12 (w1.heap.size) o (by first | omega | (simp; done) | (simp; omega)); have kf12_1 := fun o => hf12 (w1.heap.size) o (by first | omega | (simp; done) | (simp; omega)); have kl12_1 : w1.heap.size < v2.heap.size := (by omega); clear hc12 hf12
        have A2 : Bel w v2 := A1.call d2
        go_wp2_with fail
        refine (put_is HNX hn _).mono ?_; rintro e v3 ⟨rfl, d3⟩; obtain ⟨hc13, hf13, hz13⟩ := bcell d3; (try simp at hz13); have kc13_0 := fun o => hc13 (w.heap.size) o (by first | omega | (simp; done) | (simp; omega)); have kf13_0 := fun o => hf13 (w.heap.size) o (by first | omega | (simp; done) | (simp; omega)); have kl13_0 : w.heap.size < v3.heap.size := (by omega); have kc13_1 := fun o => hc13 (w1.heap.size) o (by first | omega | (simp; done) | (simp; omega)); have kf13_1 := fun o => hf13 (w1.heap.size) o (by first | omega | (simp; done) | (simp; omega)); have kl13_1 : w1.heap.size < v3.heap.size := (by omega); clear hc13 hf13
        have A3 : Bel w v3 := A2.call d3
        go_wp2_with fail
        refine (put_is HNY hn _).mono ?_; rintro e v4 ⟨rfl, d4⟩; obtain ⟨hc14, hf14, hz14⟩ := bcell d4; (try simp at hz14); have kc14_0 := fun o => hc14 (w.heap.size) o (by first | omega | (simp; done) | (simp; omega)); have kf14_0 := fun o => hf14 (w.heap.size) o (by first | omega | (simp; done) | (simp; omega)); have kl14_0 : w.heap.size < v4.heap.size := (by omega); have kc14_1 := fun o => hc14 (w1.heap.size) o (by first | omega | (simp; done) | (simp; omega)); have kf14_1 := fun o => hf14 (w1.heap.size) o (by first | omega | (simp; done) | (simp; omega)); have kl14_1 : w1.heap.size < v4.heap.size := (by omega); clear hc14 hf14
        have A4 : Bel w v4 := A3.call d4
        go_wp2_with fail
        refine (read_any _ _).mono ?_; rintro e v5 ⟨rfl, d5⟩; obtain ⟨hc15, hf15, hz15⟩ := bcell d5; (try simp at hz15); have kc15_0 := fun o => hc15 (w.heap.size) o (by first | omega | (simp; done) | (simp; omega)); have kf15_0 := fun o => hf15 (w.heap.size) o (by first | omega | (simp; done) | (simp; omega)); have kl15_0 : w.heap.size < v5.heap.size := (by omega); have kc15_1 := fun o => hc15 (w1.heap.size) o (by first | omega | (simp; done) | (simp; omega)); have kf15_1 := fun o => hf15 (w1.heap.size) o (by first | omega | (simp; done) | (simp; omega)); have kl15_1 : w1.heap.size < v5.heap.size := (by omega); clear hc15 hf15
        have A5 : Bel w v5 := A4.call d5
        go_wp2_with fail
        refine (num_is HX hs0 _).mono ?_; rintro e v6 ⟨rfl, d6⟩; obtain ⟨hc16, hf16, hz16⟩ := bcell d6; (try simp at hz16); have kc16_0 := fun o => hc16 (w1.heap.size) o (by first | omega | (simp; done) | (simp; omega)); have kf16_0 := fun o => hf16 (w1.heap.size) o (by first | omega | (simp; done) | (simp; omega)); have kl16_0 : w1.heap.size < v6.heap.size := (by omega); clear hc16 hf16
        have A6 : Bel w v6 := A5.call d6
        go_wp2_with fail
        refine (rnum_is HX hs0 _).mono ?_; rintro e v7 ⟨rfl, d7⟩; obtain ⟨hc17, hf17, hz17⟩ := bcell d7; (try simp at hz17); have kc17_0 := fun o => hc17 (v6.heap.size) o (by first | omega | (simp; done) | (simp; omega)); have kf17_0 := fun o => hf17 (v6.heap.size) o (by first | omega | (simp; done) | (simp; omega)); have kl17_0 : v6.heap.size < v7.heap.size := (by omega); clear hc17 hf17
        have A7 : Bel w v7 := (A6.alloc _).call d7
        go_wp2_with fail
        refine (same_yes _ _ _).mono ?_; rintro e v8 ⟨rfl, d8⟩
        have A8 : Bel w v8 := (A7.alloc _).call d8
        go_wp2_with fail
        refine (rput_is HNX hn _).mono ?_; rintro e v9 ⟨rfl, d9⟩
        have A9 : Bel w v9 := A8.call d9
        go_wp2_with fail
        refine (rput_is HNY hn _).mono ?_; rintro e v10 ⟨rfl, d10⟩
        have A10 : Bel w v10 := A9.call d10
        go_wp2_with fail
        go_ret
        exact ⟨rfl, A10.out⟩
    · have hm3 : m < 300 := by omega
      have hmk := run_make_row' (P := Try.prog) 40 5 (.int .u8 0) 1 Try.underlying40 info_u8 rfl .i64 .i64 m (by omega) (by omega)
      have hzs := zer_size m
      have hcv := fun w => zer_conv w m
      have htz : (t ++ zer m).size = t.size + m := by simp [zer_size]
      obtain ⟨tx, tok, htx⟩ : ∃ tx tok, txT (t ++ zer m) = (tx, tok) := ⟨_, _, rfl⟩
      have HTX := Lib.hid htx
      obtain ⟨nx, hnx⟩ : ∃ nx, nuX n z = nx := ⟨_, rfl⟩
      have HNX := Lib.hid hnx
      obtain ⟨ny, hny⟩ : ∃ ny, nuX n (z.tmod 10) = ny := ⟨_, rfl⟩
      have HNY := Lib.hid hny
      obtain ⟨vn, s1, bb1, hx⟩ : ∃ vn s1 bb1, rdn s0 false z = (vn, s1, bb1) := ⟨_, _, _, rfl⟩
      have HX := Lib.hid hx
      clear htx hnx hny hx hm3
      obtain ⟨x0, x1, x2, x3⟩ := X6
      obtain ⟨y0, y1, y2, y3⟩ := X14
      have lx : w.heap.size < wr.heap.size := World.block_lt_of_cell? _ _ x0
      have ly : w1.heap.size < wr.heap.size := World.block_lt_of_cell? _ _ y0
      have A0 : Bel w wr := ⟨HB.out⟩
      clear HB b1 kc1_0 kf1_0 hz1
      go_wp2_with fail
      refine (txt_is HTX (by omega) _).mono ?_; rintro e v1 ⟨rfl, d1⟩; obtain ⟨hc11, hf11, hz11⟩ := bcell d1; (try simp at hz11); have kc11_0 := fun o => hc11 (w.heap.size) o (by first | omega | (simp; done) | (simp; omega)); have kf11_0 := fun o => hf11 (w.heap.size) o (by first | omega | (simp; done) | (simp; omega)); have kl11_0 : w.heap.size < v1.heap.size := (by omega); have kc11_1 := fun o => hc11 (w1.heap.size) o (by first | omega | (simp; done) | (simp; omega)); have kf11_1 := fun o => hf11 (w1.heap.size) o (by first | omega | (simp; done) | (simp; omega)); have kl11_1 : w1.heap.size < v1.heap.size := (by omega); clear hc11 hf11
      have A1 : Bel w v1 := (A0.alloc _).call d1
      go_wp2_with fail
      refine (rtxt_is HTX (by omega) _).mono ?_; rintro e v2 ⟨rfl, d2⟩; obtain ⟨hc12, hf12, hz12⟩ := bcell d2; (try simp at hz12); have kc12_0 := fun o => hc12 (w.heap.size) o (by first | omega | (simp; done) | (simp; omega)); have kf12_0 := fun o => hf12 (w.heap.size) o (by first | omega | (simp; done) | (simp; omega)); have kl12_0 : w.heap.size < v2.heap.size := (by omega); have kc12_1 := fun o => hc12 (w1.heap.size) o (by first | omega | (simp; done) | (simp; omega)); have kf12_1 := fun o => hf12 (w1.heap.size) o (by first | omega | (simp; done) | (simp; omega)); have kl12_1 : w1.heap.size < v2.heap.size := (by omega); clear hc12 hf12
      have A2 : Bel w v2 := A1.call d2
      go_wp2_with fail
      refine (put_is HNX hn _).mono ?_; rintro e v3 ⟨rfl, d3⟩; obtain ⟨hc13, hf13, hz13⟩ := bcell d3; (try simp at hz13); have kc13_0 := fun o => hc13 (w.heap.size) o (by first | omega | (simp; done) | (simp; omega)); have kf13_0 := fun o => hf13 (w.heap.size) o (by first | omega | (simp; done) | (simp; omega)); have kl13_0 : w.heap.size < v3.heap.size := (by omega); have kc13_1 := fun o => hc13 (w1.heap.size) o (by first | omega | (simp; done) | (simp; omega)); have kf13_1 := fun o => hf13 (w1.heap.size) o (by first | omega | (simp; done) | (simp; omega)); have kl13_1 : w1.heap.size < v3.heap.size := (by omega); clear hc13 hf13
      have A3 : Bel w v3 := A2.call d3
      go_wp2_with fail
      refine (put_is HNY hn _).mono ?_; rintro e v4 ⟨rfl, d4⟩; obtain ⟨hc14, hf14, hz14⟩ := bcell d4; (try simp at hz14); have kc14_0 := fun o => hc14 (w.heap.size) o (by first | omega | (simp; done) | (simp; omega)); have kf14_0 := fun o => hf14 (w.heap.size) o (by first | omega | (simp; done) | (simp; omega)); have kl14_0 : w.heap.size < v4.heap.size := (by omega); have kc14_1 := fun o => hc14 (w1.heap.size) o (by first | omega | (simp; done) | (simp; omega)); have kf14_1 := fun o => hf14 (w1.heap.size) o (by first | omega | (simp; done) | (simp; omega)); have kl14_1 : w1.heap.size < v4.heap.size := (by omega); clear hc14 hf14
      have A4 : Bel w v4 := A3.call d4
      go_wp2_with fail
      refine (read_any _ _).mono ?_; rintro e v5 ⟨rfl, d5⟩; obtain ⟨hc15, hf15, hz15⟩ := bcell d5; (try simp at hz15); have kc15_0 := fun o => hc15 (w.heap.size) o (by first | omega | (simp; done) | (simp; omega)); have kf15_0 := fun o => hf15 (w.heap.size) o (by first | omega | (simp; done) | (simp; omega)); have kl15_0 : w.heap.size < v5.heap.size := (by omega); have kc15_1 := fun o => hc15 (w1.heap.size) o (by first | omega | (simp; done) | (simp; omega)); have kf15_1 := fun o => hf15 (w1.heap.size) o (by first | omega | (simp; done) | (simp; omega)); have kl15_1 : w1.heap.size < v5.heap.size := (by omega); clear hc15 hf15
      have A5 : Bel w v5 := A4.call d5
      go_wp2_with fail
      refine (num_is HX hs0 _).mono ?_; rintro e v6 ⟨rfl, d6⟩; obtain ⟨hc16, hf16, hz16⟩ := bcell d6; (try simp at hz16); have kc16_0 := fun o => hc16 (w1.heap.size) o (by first | omega | (simp; done) | (simp; omega)); have kf16_0 := fun o => hf16 (w1.heap.size) o (by first | omega | (simp; done) | (simp; omega)); have kl16_0 : w1.heap.size < v6.heap.size := (by omega); clear hc16 hf16
      have A6 : Bel w v6 := A5.call d6
      go_wp2_with fail
      refine (rnum_is HX hs0 _).mono ?_; rintro e v7 ⟨rfl, d7⟩; obtain ⟨hc17, hf17, hz17⟩ := bcell d7; (try simp at hz17); have kc17_0 := fun o => hc17 (v6.heap.size) o (by first | omega | (simp; done) | (simp; omega)); have kf17_0 := fun o => hf17 (v6.heap.size) o (by first | omega | (simp; done) | (simp; omega)); have kl17_0 : v6.heap.size < v7.heap.size := (by omega); clear hc17 hf17
      have A7 : Bel w v7 := (A6.alloc _).call d7
      go_wp2_with fail
      refine (same_yes _ _ _).mono ?_; rintro e v8 ⟨rfl, d8⟩
      have A8 : Bel w v8 := (A7.alloc _).call d8
      go_wp2_with fail
      refine (rput_is HNX hn _).mono ?_; rintro e v9 ⟨rfl, d9⟩
      have A9 : Bel w v9 := A8.call d9
      go_wp2_with fail
      refine (rput_is HNY hn _).mono ?_; rintro e v10 ⟨rfl, d10⟩
      have A10 : Bel w v10 := A9.call d10
      go_wp2_with fail
      go_ret
      exact ⟨rfl, A10.out⟩

theorem packPlays_run (s : ByteArray) (b : Bool) (a : Option Addr) (len cap : Nat) (n z : Int) (t : ByteArray) (l : Int) (w : World) (ws : s.size ≤ maxLen) (wl : PairRow IsBool (IsInt .i64) w a len cap) (wn : (Lit.int .u64 n).wf = true) (wz : (Lit.int .i64 z).wf = true) (wt : t.size ≤ 140737488355327) (wk : (Lit.int .u16 l).wf = true) :
    Calls Try.prog 3 #[.agg #[.string s, .bool b], .slice a len cap, .int .u64 n, .int .i64 z, .string t, .int .u16 l] w fun e w' => e = .returned (.bool true) ∧ Below w.heap.size w w' := by
  have hn := bounds_u64 wn
  have hz := bounds_i64 wz
  have hl := bounds_u16 wk
  obtain ⟨N, rfl⟩ := Int.eq_ofNat_of_zero_le hn.1
  have hm : l % 300 = (((l % 300).toNat : Nat) : Int) := by omega
  exact packPlays_walk s b a len cap N z t l _ (by omega) hz.1 hz.2 wt hl.1 hl.2 hm (by unfold maxLen at ws; omega) wl.len w wl

theorem packPlays_own : ownKnob Try.prog.godebug = none := by kernel_rfl
theorem packPlays_laid : laidOutB Try.prog = true := by kernel_rfl
set_option maxRecDepth 100000 in
theorem packPlays_lifted (os : Os) (started : os.Started) (H : Type) (enc : TypeId × Value → H) :
    ReturnsInHanded {} Try.checked os 3 .any (Rows.packPlaysSpec.pre6 enc Try.prog Try.f3 Rows.packPlaysRow.domain false) (Rows.packPlaysSpec.post enc Try.prog Try.f3 false true false false) := by
  refine returnsInHanded_of_change_sized (C := Try.checked) packPlays_own started (by kernel_rfl) Try.func3
    (ChangeSpec.witness6 (enc := enc) (C := Try.checked) false ⟨#[], #[.agg #[.string ⟨#[]⟩, .bool false], .slice none 0 0, .int .u64 0, .int .i64 0, .string ⟨#[]⟩, .int .u16 0], []⟩ 8 (by kernel_rfl) (by kernel_rfl) (by kernel_rfl) (by kernel_rfl)) ?_
  intro W base args ds gs before hval0 hW hcnd hsz _
  have hval : ∀ (j : Nat) t v, Try.f3.params[j]? = some t → args[j]? = some v → Value.okWide Try.prog W .any base t v := hval0
  have hW' := hW
  obtain ⟨p, q, hA0, hV, rfl, hfz, hnd⟩ := hW
  have hA : DataW.TrodAll enc Try.prog W 0 (fun _ => true) true Try.f3.params.toList args.toList ds p := hA0
  rw [Try.params3] at hA hval
  obtain ⟨v0, vs0, d0, ds0, p0, q0, hargs, rfl, rfl, h0, r0⟩ := trodAll_cons hA
  obtain ⟨v1, vs1, d1, ds1, p1, q1, rfl, rfl, rfl, h1, r1⟩ := trodAll_cons r0
  obtain ⟨v2, vs2, d2, ds2, p2, q2, rfl, rfl, rfl, h2, r2⟩ := trodAll_cons r1
  obtain ⟨v3, vs3, d3, ds3, p3, q3, rfl, rfl, rfl, h3, r3⟩ := trodAll_cons r2
  obtain ⟨v4, vs4, d4, ds4, p4, q4, rfl, rfl, rfl, h4, r4⟩ := trodAll_cons r3
  obtain ⟨v5, vs5, d5, ds5, p5, q5, rfl, rfl, rfl, h5, r5⟩ := trodAll_cons r4
  obtain ⟨rfl, rfl, rfl⟩ := trodAll_nil r5
  obtain rfl : args = #[v0, v1, v2, v3, v4, v5] := by cases args; simp_all
  obtain ⟨rfl, rfl⟩ := trodVars_none hV
  have k0 := h0
  have lt0 : ∀ x ∈ p0, x.block < W.heap.size := by obtain ⟨m, hm⟩ := k0; exact DataW.trod_lt m _ _ _ hm
  obtain ⟨c0_0, c0_1, y0_0, y0_1, n0, rfl, rfl, rfl, t0_0, t0_1⟩ := Joins.open_agg2 Try.underlying23 (by kernel_rfl) (by kernel_rfl) (hval 0 23 v0 rfl rfl) h0
  obtain ⟨a0_0, e0_0, rfl, w0_0⟩ := DataW.trod_string Try.underlying9 t0_0
  obtain rfl := (List.cons.inj e0_0).1
  obtain ⟨a0_1, e0_1, rfl⟩ := DataW.trod_bool Try.underlying4 t0_1
  obtain rfl := (List.cons.inj e0_1).1
  obtain ⟨a1, len1, cap1, rfl⟩ := okWide_slice Try.underlying24 (hval 1 24 v1 rfl rfl)
  have k1 := h1
  have lt1 : ∀ x ∈ p1, x.block < W.heap.size := by obtain ⟨m, hm⟩ := k1; exact DataW.trod_lt m _ _ _ hm
  have w1 : PairRow IsBool (IsInt .i64) W a1 len1 cap1 := by
    obtain ⟨fuel, hf⟩ := h1
    rcases Deep.open_slice_pairs Try.underlying24 Try.underlying30 (by kernel_rfl) rfl rfl (by kernel_rfl) (by kernel_rfl) hf with ⟨hcs, _⟩ | ⟨x, l, c, m, n, V0, V1, D0, D1, P0, P1, hcs, _, hl, hm, hmm, _, hc⟩
    · simp [Value.cells] at hcs
      obtain ⟨rfl, rfl, rfl⟩ := hcs
      exact .inl ⟨rfl, rfl, rfl⟩
    · simp [Value.cells] at hcs
      obtain ⟨rfl, rfl, rfl⟩ := hcs
      refine .inr ⟨_, rfl, hl, hm, fun i hi => ?_⟩
      obtain ⟨g0, g1, g2, g3⟩ := hc i (by rw [hmm]; simp; omega)
      obtain ⟨u0, e0, _⟩ := DataW.trod_bool Try.underlying4 g2
      obtain ⟨u1, e1, _, z1⟩ := DataW.trod_int Try.underlying3 g3
      exact ⟨_, _, g0, g1, ⟨u0, (List.cons.inj e0).1⟩, ⟨u1, (List.cons.inj e1).1, z1⟩⟩
  obtain ⟨a2, rfl, rfl, rfl, w2⟩ := open_int Try.underlying25 (hval 2 25 v2 rfl rfl) h2
  obtain ⟨a3, rfl, rfl, rfl, w3⟩ := open_int Try.underlying3 (hval 3 3 v3 rfl rfl) h3
  obtain ⟨a4, rfl, rfl, rfl, m4⟩ := open_string Try.underlying9 (hval 4 9 v4 rfl rfl) h4
  obtain ⟨a5, rfl, rfl, rfl, w5⟩ := open_int Try.underlying26 (hval 5 26 v5 rfl rfl) h5
  have w4 : a4.size ≤ 140737488355327 := by
    have h := sized_string (j := 4) (t := 9) (bytes := a4.data.toList) hsz rfl rfl
    have h2 := reachBytes_lt
    have h3 := Lib.size_eq a4
    omega
  clear hA0 hval0
  refine (packPlays_run a0_0 a0_1 a1 len1 cap1 a2 a3 a4 a5 W w0_0 w1 w2 w3 w4 w5).mono fun e W' ⟨he, bel⟩ => ?_
  subst he
  exact ⟨_, rfl, _, _, _, [], _, [], hW', trodAll_mk1 (shut_bool Try.underlying4 _), (trodAll_cons_mk (Below.trod packPlays_laid (by kernel_rfl) (of_decide_eq_true (by kernel_rfl)) k0 bel lt0) (trodAll_cons_mk (Below.trod packPlays_laid (by kernel_rfl) (of_decide_eq_true (by kernel_rfl)) k1 bel lt1) (trodAll_cons_mk (shut_int Try.underlying25 w2) (trodAll_cons_mk (shut_int Try.underlying3 w3) (trodAll_cons_mk (shut_string Try.underlying9 m4) (trodAll_cons_mk (shut_int Try.underlying26 w5) trodAll_mk0)))))), rfl, bel.frame _, fun h => by cases h⟩
theorem packPlays_over : Rows.packPlaysRow.holds Try.pinned (OpenSpec.ofChange Rows.packPlaysSpec) :=
  OpenClaim.holds_of_wide 3 Try.f3 rfl rfl rfl rfl rfl rfl rfl ⟨rfl, rfl, rfl, rfl, rfl⟩ rfl rfl rfl rfl rfl (by kernel_rfl) Try.func3 (by kernel_rfl)
    (of_decide_eq_true (by kernel_rfl)) (by unfold Func.isWrapper; first | (rw [if_pos (by decide +kernel)]; kernel_rfl) | (rw [if_neg (by decide +kernel)]; exact ⟨rfl, rfl⟩))
    (fun os started H enc _ => packPlays_lifted os started H enc)
theorem packPlays_holds : Rows.PackPlaysSaid := packPlays_over
#print axioms packPlays_holds
end Go.Proofs.Ytopidocnohoilaa
