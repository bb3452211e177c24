/- A box's Out. -/
import Derived.Test.YtdpgmdkclaahdaaNbBoxMath
import Derived.BigRegion
namespace Go.Proofs.Ytdpgmdkclaahdaa.Nb
open Go.Sort Go.RowKit Go.BigFrame
set_option linter.unusedVariables false
set_option linter.unusedSimpArgs false

theorem own_tup {a b : Value} : True := trivial
/-- what a box's binding becomes: a new end, a new Met -/
theorem upd_fin {g gb : Nat} {S : Nat → Prop} {m f ip hold : Int} {room c j : Nat} {L : List Bd} {u : Int} {b' : Pb} {v' : Sl} {w w4 w5 : World} (hj : j < L.length)
    (h : Bs g S m f ip hold room ⟨some ⟨gb, 0, none⟩, L.length, c⟩ L w) (hS : ∀ k, S k → k < w.heap.size) (b4 : Below (w.setCell ⟨gb, j * 7 + 6, none⟩ (.int .u64 u)).heap.size (w.setCell ⟨gb, j * 7 + 6, none⟩ (.int .u64 u)) w4)
    (hbe : b' = ⟨L[j].1.ii, L[j].1.ip, L[j].1.ki, L[j].1.kp, L[j].1.po, u, b'.met⟩) (hm16 : b'.met.length ≤ 16)
    (hr : ARow w5 v'.v b'.met) (ht : Touch (fun k => (Value.slice L[j].2.a 0 0).ownBlock = some k) w4 w5) (hat : ∀ k, v'.v.ownBlock = some k → (Value.slice L[j].2.a 0 0).ownBlock = some k ∨ w4.heap.size ≤ k) :
    Bs g (grownS S w (w5.setCell ⟨gb, j * 7 + 5, none⟩ (.slice v'.a v'.n v'.c))) m f ip hold room ⟨some ⟨gb, 0, none⟩, L.length, c⟩ (L.set j (b', v')) (w5.setCell ⟨gb, j * 7 + 5, none⟩ (.slice v'.a v'.n v'.c)) ∧ Touch S w (w5.setCell ⟨gb, j * 7 + 5, none⟩ (.slice v'.a v'.n v'.c)) := by
  have hmem : L[j] ∈ L := List.getElem_mem hj
  have hgb := h.vS gb rfl
  have hmS := h.mS L[j] hmem
  have hmo : ∀ k, (Value.slice L[j].2.a 0 0).ownBlock = some k → L[j].2.v.ownBlock = some k := fun k hk => own_eq hk
  obtain ⟨-, C, hC, hcap, htk, hlc, hm⟩ := brow_open h.row
  have hx : L[j]? = some L[j] := List.getElem?_eq_getElem hj
  have hCj := take_at htk hx
  have hR4 := hC.field j 6 _ (.int .u64 u) hCj (by decide)
  have tA : Touch S w (w.setCell ⟨gb, j * 7 + 6, none⟩ (.int .u64 u)) := (Touch.refl S w).set (fun _ => hgb.1) _
  have tA' : Touch (fun k => k = gb) w (w.setCell ⟨gb, j * 7 + 6, none⟩ (.int .u64 u)) := Touch.set (F := fun k => k = gb) (Touch.refl _ w) (fun _ => rfl) _
  have t4 : Touch (fun k => k = gb) w w4 := tA'.trans (Touch.of_below (fun _ => False) b4) (fun _ _ h => h.elim)
  have hR4' : Rw 7 gb 107 (C.set j ((ch L[j]).set 6 (.int .u64 u))) w4 := hR4.touch (Touch.of_below (fun _ => False) b4) (fun h => h)
  have hR5 : Rw 7 gb 107 (C.set j ((ch L[j]).set 6 (.int .u64 u))) w5 := hR4'.touch ht (fun hk => (hmS _ (hmo _ hk)).2.2 rfl)
  have hlj : j < C.length := by omega
  have hR6 := hR5.field j 5 _ (.slice v'.a v'.n v'.c) (List.getElem?_set_self hlj) (by decide)
  rw [List.set_set] at hR6
  have hchx : ((ch L[j]).set 6 (.int .u64 u)).set 5 (.slice v'.a v'.n v'.c) = ch (b', v') := by rw [hbe]; rfl
  rw [hchx] at hR6
  have t6 : Touch (fun k => k = gb) w5 (w5.setCell ⟨gb, j * 7 + 5, none⟩ (.slice v'.a v'.n v'.c)) := Touch.set (F := fun k => k = gb) (Touch.refl _ w5) (fun _ => rfl) _
  have hsz6 : (w5.setCell ⟨gb, j * 7 + 5, none⟩ (.slice v'.a v'.n v'.c)).heap.size = w5.heap.size := by simp
  have T5 : Touch S w w5 := (t4.mono (fun k _ hk => by subst hk; exact hgb.1)).trans (ht.mono (fun k _ hk => (hmS k (hmo k hk)).1)) (fun _ _ h => h)
  have hs4 : w.heap.size ≤ w4.heap.size := t4.size
  have hset : ∀ x ∈ L.set j (b', v'), x = (b', v') ∨ ∃ i, ∃ h : i < L.length, i ≠ j ∧ x = L[i] := by
    intro x hx
    obtain ⟨i, hi, rfl⟩ := List.mem_iff_getElem.1 hx
    by_cases e : j = i
    · subst e; left; rw [List.getElem_set_self]
    · right; exact ⟨i, by simpa using hi, fun h => e h.symm, by rw [List.getElem_set_ne e]⟩
  have hapart : ∀ i (hi : i < L.length), i ≠ j → ∀ k, L[i].2.v.ownBlock = some k → L[j].2.v.ownBlock ≠ some k := by
    intro i hi hne k hk
    have hs := List.pairwise_iff_getElem.1 h.sep
    rcases Nat.lt_or_gt_of_ne hne with h1 | h1
    · exact hs i j hi hj h1 k hk
    · intro e; exact hs j i hj hi h1 k e hk
  have hmS' : ∀ k, v'.v.ownBlock = some k → grownS S w (w5.setCell ⟨gb, j * 7 + 5, none⟩ (.slice v'.a v'.n v'.c)) k ∧ k ≠ g ∧ k ≠ gb := by
    intro k hk
    rcases hat k hk with h1 | h1
    · have := hmS k (hmo k h1)
      exact ⟨.inl this.1, this.2.1, fun e => this.2.2 (by rw [e]; rfl)⟩
    · have hlt := (World.ownsRow.lt hr k hk).2
      have := hS _ h.gS
      have := hS _ hgb.1
      exact ⟨.inr ⟨by omega, by rw [hsz6]; exact hlt⟩, by omega, by omega⟩
  have hfar : ∀ i (hi : i < L.length), i ≠ j → ∀ k, L[i].2.v.ownBlock = some k → v'.v.ownBlock ≠ some k := by
    intro i hi hne k hk hv
    rcases hat k hv with h1 | h1
    · exact hapart i hi hne k hk (hmo k h1)
    · have := hS k (h.mS L[i] (List.getElem_mem hi) k hk).1; omega
  refine ⟨⟨?_, ?_, fun x hx => ?_, ?_, .inl h.gS, fun k hk => ⟨.inl (h.vS k hk).1, (h.vS k hk).2⟩, fun x hx k hk => ?_, ?_⟩, T5.set (fun _ => hgb.1) _⟩
  · exact ((h.box.touch t4 (fun e => hgb.2 e.symm)).touch ht (fun hk => (hmS _ (hmo _ hk)).2.1 rfl)).touch t6 (fun e => hgb.2 e.symm)
  · have e1 : (C.set j (ch (b', v'))).length = c := by rw [List.length_set]; exact hcap
    have e2 : (L.set j (b', v')).length = L.length := List.length_set
    have := brow_close (L := L.set j (b', v')) hR6 (by rw [e2, List.take_set, htk, List.map_set]) (by rw [e2, e1]; exact hlc) (by rw [e1]; exact hm)
    rw [e1, e2] at this
    exact this
  · rcases hset x hx with rfl | ⟨i, hi, hne, rfl⟩
    · exact own_touch hr t6 (fun k hk e => (hmS' k hk).2.2 e)
    · have hmi := h.mS L[i] (List.getElem_mem hi)
      refine own_touch (own_touch (own_touch (h.met L[i] (List.getElem_mem hi)) t4 (fun k hk e => (hmi k hk).2.2 (by rw [e]; rfl))) ht (fun k hk e => hapart i hi hne k hk (hmo k e))) t6 (fun k hk e => (hmi k hk).2.2 (by rw [e]; rfl))
  · rw [List.pairwise_iff_getElem]
    intro i i2 hi hi2 hlt k hk e
    rw [List.length_set] at hi hi2
    by_cases e1 : j = i
    · subst e1
      rw [List.getElem_set_self] at hk
      rw [List.getElem_set_ne (by omega)] at e
      exact hfar i2 hi2 (by omega) k e hk
    · rw [List.getElem_set_ne e1] at hk
      by_cases e2 : j = i2
      · subst e2
        rw [List.getElem_set_self] at e
        exact hfar i hi (fun h => e1 h.symm) k hk e
      · rw [List.getElem_set_ne e2] at e
        exact List.pairwise_iff_getElem.1 h.sep i i2 hi hi2 hlt k hk e
  · rcases hset x hx with rfl | ⟨i, hi, hne, rfl⟩
    · refine ⟨(hmS' k hk).1, (hmS' k hk).2.1, fun e => (hmS' k hk).2.2 (Option.some.inj e).symm⟩
    · have hmi := h.mS L[i] (List.getElem_mem hi) k hk
      exact ⟨.inl hmi.1, hmi.2⟩
  · refine ⟨h.ok.h1, h.ok.h2, h.ok.r1, h.ok.r2, by rw [List.length_map, List.length_set]; exact h.len, fun b hb => ?_, fun b hb => ?_⟩
    · obtain ⟨x, hx, rfl⟩ := List.mem_map.1 hb
      rcases hset x hx with rfl | ⟨i, hi, _, rfl⟩
      · exact hm16
      · exact h.ok.met _ (List.mem_map.2 ⟨_, List.getElem_mem hi, rfl⟩)
    · obtain ⟨x, hx, rfl⟩ := List.mem_map.1 hb
      rcases hset x hx with rfl | ⟨i, hi, _, rfl⟩
      · have := h.ok.po _ (List.mem_map.2 ⟨L[j], hmem, rfl⟩)
        show 20000 ≤ b'.po ∧ b'.po ≤ 20063
        rw [hbe]; exact this
      · exact h.ok.po _ (List.mem_map.2 ⟨_, List.getElem_mem hi, rfl⟩)
def badO (si sp di dp now : Int) : Bool := (noneI si sp || noneI di dp) || decide (4611686018427387904 < now)
def OutBad (w : World) (e : Ending) (w' : World) : Prop := e = .returned (.tuple #[.agg #[.int .u32 0, .int .u16 0], .int .i64 1]) ∧ Below w.heap.size w w'
set_option maxHeartbeats 3200000 in
theorem out_bad (g : Nat) (si sp di dp now : Int) (w : World) (hb : badO si sp di dp now = true) :
    Calls Try.prog 40 #[.pointer (some ⟨g, 0, none⟩), .int .u64 now, .agg #[.int .u32 si, .int .u16 sp], .agg #[.int .u32 di, .int .u16 dp]] w (OutBad w) := by
  have N1 := none_any si sp
  have N2 := none_any di dp
  unfold badO at hb
  have hB : Hid (Below w.heap.size w (((w.alloc (.cells #[.int .u32 si, .int .u16 sp] 28)).alloc (.cells #[.int .u32 di, .int .u16 dp] 28)).alloc (.cells #[.int .u32 0, .int .u16 0] 28))) := by show Below _ _ _; (repeat (first | with_reducible exact Below.refl _ _ | with_reducible refine Below.drew ?_ | with_reducible refine below_drewN ?_ _ | with_reducible refine Below.alloc ?_ (by first | omega | (simp; done) | (simp; omega)) _ | with_reducible refine Below.setCell ?_ (by first | omega | (simp; done) | (simp; omega)) _))
  have X : Hid (Cs w.heap.size [.int .u32 si, .int .u16 sp] (((w.alloc (.cells #[.int .u32 si, .int .u16 sp] 28)).alloc (.cells #[.int .u32 di, .int .u16 dp] 28)).alloc (.cells #[.int .u32 0, .int .u16 0] 28))) := ((Cs.new w [.int .u32 si, .int .u16 sp] 28).alloc _).alloc _
  have Y : Hid (Cs (w.heap.size + 1) [.int .u32 di, .int .u16 dp] (((w.alloc (.cells #[.int .u32 si, .int .u16 sp] 28)).alloc (.cells #[.int .u32 di, .int .u16 dp] 28)).alloc (.cells #[.int .u32 0, .int .u16 0] 28))) := by
    have h1 := Cs.new (w.alloc (.cells #[.int .u32 si, .int .u16 sp] 28)) [.int .u32 di, .int .u16 dp] 28
    simp only [World.size_alloc] at h1
    exact h1.alloc _
  have Z : Hid (Cs (w.heap.size + 1 + 1) [.int .u32 0, .int .u16 0] (((w.alloc (.cells #[.int .u32 si, .int .u16 sp] 28)).alloc (.cells #[.int .u32 di, .int .u16 dp] 28)).alloc (.cells #[.int .u32 0, .int .u16 0] 28))) := by
    have h1 := Cs.new ((w.alloc (.cells #[.int .u32 si, .int .u16 sp] 28)).alloc (.cells #[.int .u32 di, .int .u16 dp] 28)) [.int .u32 0, .int .u16 0] 28
    simp only [World.size_alloc] at h1
    exact h1
  generalize hA : noneI si sp = A at *
  generalize hA2 : noneI di dp = A2 at *
  clear hA hA2
  have x0 := X.out.cell 0 _ rfl
  have x1 := X.out.cell 1 _ rfl
  have hfin : ∀ w1, Hid (Below w.heap.size w w1) → Hid (Cs (w.heap.size + 1 + 1) [.int .u32 0, .int .u16 0] w1) → True := fun _ _ _ => trivial
  clear hfin
  cases A
  · cases A2
    · have hn : 4611686018427387904 < now := by simpa using hb
      clear hb
      go_enter Try.func40, Try.ntmps40
      go_wp2_with fail
      refine (N1 _).mono ?_; rintro e w1 ⟨rfl, d⟩
      replace Y := Lib.hid (Y.out.keep d)
      replace Z := Lib.hid (Z.out.keep d)
      replace hB := Lib.hid (hB.out.trans (d.mono hB.out.size))
      clear X x0 x1 d N1
      have x0 := Y.out.cell 0 _ rfl
      have x1 := Y.out.cell 1 _ rfl
      go_wp2_with fail
      refine (N2 _).mono ?_; rintro e w2 ⟨rfl, d⟩
      replace Z := Lib.hid (Z.out.keep d)
      replace hB := Lib.hid (hB.out.trans (d.mono hB.out.size))
      clear Y x0 x1 d N2
      have z0 := Z.out.cell 0 _ rfl
      have z1 := Z.out.cell 1 _ rfl
      have zf0 := Z.out.free 0 _ rfl
      have zf1 := Z.out.free 1 _ rfl
      have zl := Z.out.lt
      go_wp2_with fail
      refine bodyPost_ret (v := .tuple #[.agg #[.int .u32 0, .int .u16 0], .int .i64 1]) (by simp [results, Try.results40, go_sem, *]) rfl ⟨rfl, ?_⟩
      have hb := hB.out
      (have zzh := Below.size hb; repeat (first | with_reducible exact hb | with_reducible refine Below.setCell ?_ (by first | omega | (simp; done) | (simp; omega)) _ | with_reducible refine Below.alloc ?_ (by first | omega | (simp; done) | (simp; omega)) _ | with_reducible refine Below.drew ?_))
    · clear hb
      go_enter Try.func40, Try.ntmps40
      go_wp2_with fail
      refine (N1 _).mono ?_; rintro e w1 ⟨rfl, d⟩
      replace Y := Lib.hid (Y.out.keep d)
      replace Z := Lib.hid (Z.out.keep d)
      replace hB := Lib.hid (hB.out.trans (d.mono hB.out.size))
      clear X x0 x1 d N1
      have x0 := Y.out.cell 0 _ rfl
      have x1 := Y.out.cell 1 _ rfl
      go_wp2_with fail
      refine (N2 _).mono ?_; rintro e w2 ⟨rfl, d⟩
      replace Z := Lib.hid (Z.out.keep d)
      replace hB := Lib.hid (hB.out.trans (d.mono hB.out.size))
      clear Y x0 x1 d N2
      have z0 := Z.out.cell 0 _ rfl
      have z1 := Z.out.cell 1 _ rfl
      have zf0 := Z.out.free 0 _ rfl
      have zf1 := Z.out.free 1 _ rfl
      have zl := Z.out.lt
      go_wp2_with fail
      refine bodyPost_ret (v := .tuple #[.agg #[.int .u32 0, .int .u16 0], .int .i64 1]) (by simp [results, Try.results40, go_sem, *]) rfl ⟨rfl, ?_⟩
      have hb := hB.out
      (have zzh := Below.size hb; repeat (first | with_reducible exact hb | with_reducible refine Below.setCell ?_ (by first | omega | (simp; done) | (simp; omega)) _ | with_reducible refine Below.alloc ?_ (by first | omega | (simp; done) | (simp; omega)) _ | with_reducible refine Below.drew ?_))
  · clear hb
    go_enter Try.func40, Try.ntmps40
    go_wp2_with fail
    refine (N1 _).mono ?_; rintro e w1 ⟨rfl, d⟩
    replace Z := Lib.hid (Z.out.keep d)
    replace hB := Lib.hid (hB.out.trans (d.mono hB.out.size))
    clear X x0 x1 d N1 Y N2
    have z0 := Z.out.cell 0 _ rfl
    have z1 := Z.out.cell 1 _ rfl
    have zf0 := Z.out.free 0 _ rfl
    have zf1 := Z.out.free 1 _ rfl
    have zl := Z.out.lt
    go_wp2_with fail
    refine bodyPost_ret (v := .tuple #[.agg #[.int .u32 0, .int .u16 0], .int .i64 1]) (by simp [results, Try.results40, go_sem, *]) rfl ⟨rfl, ?_⟩
    have hb := hB.out
    (have zzh := Below.size hb; repeat (first | with_reducible exact hb | with_reducible refine Below.setCell ?_ (by first | omega | (simp; done) | (simp; omega)) _ | with_reducible refine Below.alloc ?_ (by first | omega | (simp; done) | (simp; omega)) _ | with_reducible refine Below.drew ?_))
end Go.Proofs.Ytdpgmdkclaahdaa.Nb