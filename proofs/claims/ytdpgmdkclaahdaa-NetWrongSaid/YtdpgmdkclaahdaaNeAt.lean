/- The net's hostAt, boxAt, Rebind. -/
import Derived.Test.YtdpgmdkclaahdaaNeClos
namespace Go.Proofs.Ytdpgmdkclaahdaa.Ne
open Go.Sort Go.RowKit Go.BigFrame
set_option linter.unusedVariables false
set_option linter.unusedSimpArgs false

section
variable {w0 w w' : World} {g : Nat} {m : Mem} {H : List Hl} {n n' : Nt}
set_option maxHeartbeats 1600000 in
theorem box_n (k : Int) (j : Nat) (q : Nat) (hk : k = (j : Int) + 1) (hj : m.gs[j]? = some q) (s : NN w0 m H n w) :
    Calls Try.prog 19 #[ptr m.g, .int .i64 k] w fun e w' => e = .returned (ptr q) ∧ w' = w := by
  subst hk
  obtain ⟨hc, -, hp⟩ := s.cells
  have hlt : j < m.gs.length := (List.getElem?_eq_some_iff.1 hj).1
  have hlen := s.lenB
  obtain ⟨b, off, ha, hb, hcc⟩ := hp (by omega)
  have c0 := hcc j _ hj 0 _ rfl
  have x1 := hc.cell 1 _ rfl
  have gl := hc.lt
  have bl := s.ok.bl
  rw [ha] at x1
  simp only [Nat.mul_one, Nat.add_zero] at c0
  have h1 : decide ((j : Int) + 1 < 1) = false := decide_eq_false (by omega)
  have h2 : decide ((n.bs.length : Int) < (j : Int) + 1) = false := decide_eq_false (by omega)
  have h3 : (j : Int) < (n.bs.length : Int) := by omega
  have h4 : j < n.bs.length := by omega
  have h5 : (0 : Int) ≤ (j : Int) := by omega
  have h6 : (j : Int) + 1 - 1 = (j : Int) := by omega
  clear hc hp hcc s hlen hlt hj
  generalize n.bs.length = bn at *
  go_enter Try.func19, Try.ntmps19
  go_wp2
  go_ret
  exact ⟨rfl, rfl⟩
set_option maxHeartbeats 1600000 in
theorem box_none (k : Int) (hk : k < 1 ∨ (n.bs.length : Int) < k) (s : NN w0 m H n w) :
    Calls Try.prog 19 #[ptr m.g, .int .i64 k] w fun e w' => e = .returned (.pointer none) ∧ w' = w := by
  obtain ⟨hc, -, -⟩ := s.cells
  have x1 := hc.cell 1 _ rfl
  have gl := hc.lt
  have bl := s.ok.bl
  clear hc s
  generalize n.bs.length = bn at *
  by_cases h0 : k < 1
  · have h1 : decide (k < 1) = true := decide_eq_true h0
    go_enter Try.func19, Try.ntmps19
    go_wp2
    go_ret
    exact ⟨rfl, rfl⟩
  · have h1 : decide (k < 1) = false := decide_eq_false h0
    have h2 : decide ((bn : Int) < k) = true := decide_eq_true (by omega)
    clear hk
    go_enter Try.func19, Try.ntmps19
    go_wp2
    go_ret
    exact ⟨rfl, rfl⟩
set_option maxHeartbeats 1600000 in
theorem bag_n (s : NN w0 m H n w) : Calls Try.prog 17 #[ptr m.g] w fun e w' => e = .returned (ptr m.u) ∧ w' = w := by
  obtain ⟨hc, -, -⟩ := s.cells
  have x2 := hc.cell 2 _ rfl
  have gl := hc.lt
  clear hc s
  go_enter Try.func17, Try.ntmps17
  go_wp2
  go_ret
  exact ⟨rfl, rfl⟩
theorem len_n (s : NN w0 m H n w) : Calls Try.prog 18 #[ptr m.u] w fun e w' => e = .returned (.int .i64 (n.l.length : Nat)) ∧ w' = w := by
  obtain ⟨uv, h⟩ := s.bagged
  exact Bg.len_any m.u n.room uv n.l w h
theorem ip_n {j q : Nat} {x : Nb.Bx} (hj : m.gs[j]? = some q) (hx : n.bs[j]? = some x) (s : NN w0 m H n w) : Calls Try.prog 20 #[ptr q] w fun e w' => e = .returned (.int .u32 x.ip) ∧ w = w' := by
  obtain ⟨y, h1, S, h2⟩ := s.at_ hj
  obtain rfl : y = x := by rw [h1] at hx; injection hx
  exact Nb.ip1 h2
def takB (bb : List Bb) (q : Nat) (ip : Int) : Bool := bb.any fun b => !decide (b.g = q) && decide (b.x.ip = ip)
set_option maxHeartbeats 3200000 in
theorem tak_any {ha ba : Option Addr} {hc bc u : Nat} {hs : List Ho} {bb : List Bb} (q : Nat) (ip : Int) (us : List Value) (hq : Cs q us w) (hn : Cs g [.slice ha hs.length hc, .slice ba bb.length bc, ptr u] w) (hh : RdE cho 3 w ha hs) (hb : RdE cbx 1 w ba bb) (hx : ∀ b ∈ bb, Nb.B1 0 no b.g b.x b.S w) (hl : hs.length ≤ 1000) (bl : bb.length ≤ 1000) :
    Calls Try.prog 33 #[ptr g, .int .u32 ip, ptr q] w fun e w' => e = .returned (.bool (hostsP hs ip || takB bb q ip)) ∧ Below w.heap.size w w' := by
  have X1 := Cs.new w [.int .u32 ip] 25
  have B1 : Below w.heap.size w (w.alloc (.cells #[.int .u32 ip] 25)) := by (repeat (first | with_reducible exact Below.refl _ _ | with_reducible refine Below.drew ?_ | with_reducible refine below_drewN ?_ _ | with_reducible refine Below.alloc ?_ (by first | omega | (simp; done) | (simp; omega)) _ | with_reducible refine Below.setCell ?_ (by first | omega | (simp; done) | (simp; omega)) _))
  have X2 := Cs.new (w.alloc (.cells #[.int .u32 ip] 25)) [ptr q] 60
  have B2 : Below w.heap.size w ((w.alloc (.cells #[.int .u32 ip] 25)).alloc (.cells #[ptr q] 60)) := by (repeat (first | with_reducible exact Below.refl _ _ | with_reducible refine Below.drew ?_ | with_reducible refine below_drewN ?_ _ | with_reducible refine Below.alloc ?_ (by first | omega | (simp; done) | (simp; omega)) _ | with_reducible refine Below.setCell ?_ (by first | omega | (simp; done) | (simp; omega)) _))
  have X1' := X1.keep (Below.refl _ _ |>.alloc (Nat.le_refl _) (.cells #[ptr q] 60))
  have N2 := hn.keep B2
  have R2 := hh.keep B2
  have P2 := hb.keep B2
  have Y2 : ∀ b ∈ bb, Nb.B1 0 no b.g b.x b.S ((w.alloc (.cells #[.int .u32 ip] 25)).alloc (.cells #[ptr q] 60)) := fun b hb => (hx b hb).keep B2
  have Q2 := hq.keep B2
  have e1 : (w.alloc (.cells #[.int .u32 ip] 25)).heap.size = w.heap.size + 1 := by simp
  have HB2 := Lib.hid B2
  rw [e1] at X2
  have x0 := N2.cell 0 _ rfl
  have x1 := N2.cell 1 _ rfl
  have gl := N2.lt
  have C1 := has_anyH _ enters_tak1 #[.pointer (some ⟨w.heap.size, 0, none⟩)] (fun h => decide (h.i = ip)) ha hc hs hl _ R2 (fun x _ w' hb => tak1_any x w.heap.size ip w' (X1'.keep hb))
  have C2 : Hid (∀ w3, Below ((w.alloc (.cells #[.int .u32 ip] 25)).alloc (.cells #[ptr q] 60)).heap.size ((w.alloc (.cells #[.int .u32 ip] 25)).alloc (.cells #[ptr q] 60)) w3 →
      Calls Try.prog 49 #[.slice ba bb.length bc, .func (.func 50) #[] #[.pointer (some ⟨w.heap.size + 1, 0, none⟩), .pointer (some ⟨w.heap.size, 0, none⟩)]] w3 fun e w' => e = .returned (.bool (takB bb q ip)) ∧ Below w3.heap.size w3 w') :=
    fun w3 b3 => has_anyB _ enters_tak2 #[.pointer (some ⟨w.heap.size + 1, 0, none⟩), .pointer (some ⟨w.heap.size, 0, none⟩)] (fun b => !decide (b.g = q) && decide (b.x.ip = ip)) ba bc bb bl w3 (P2.keep b3) (fun x hx w' hb => tak2_any x.g _ _ q ip x.x x.S w' ((X2.keep b3).keep hb) ((X1'.keep b3).keep hb) (((Y2 x hx).keep b3).keep hb) us ((Q2.keep b3).keep hb))
  clear X1 B1 hn hh hb hx hq B2 X1' N2 R2 P2 Y2 Q2 X2 e1
  show Calls _ _ _ _ fun e w' => e = .returned (.bool (hs.any (fun h => decide (h.i = ip)) || takB bb q ip)) ∧ Below w.heap.size w w'
  generalize hs.any (fun h => decide (h.i = ip)) = t1 at *
  generalize takB bb q ip = t2 at *
  go_enter Try.func33, Try.ntmps33
  go_wp2_with fail
  refine C1.mono ?_; rintro e w3 ⟨rfl, b3⟩
  have x1' := (b3.cell (p := ⟨g, 1, none⟩) gl).trans x1
  have gl' := Nat.lt_of_lt_of_le gl b3.size
  have K2 := C2.out w3 b3
  have HB3 := Lib.hid (HB2.out.trans (b3.mono HB2.out.size))
  clear C2 C1 b3 x0 x1 gl HB2
  cases t1
  · go_wp2_with fail
    refine K2.mono ?_; rintro e w4 ⟨rfl, b4⟩
    go_wp2
    go_ret
    exact ⟨rfl, HB3.out.trans (b4.mono HB3.out.size)⟩
  · go_wp2
    go_ret
    exact ⟨rfl, HB3.out⟩
end
section
variable {w0 w w' : World} {g : Nat} {m : Mem} {H : List Hl} {n n' : Nt}
set_option maxHeartbeats 1600000 in
theorem hostAt_n (i p b : Int) (s : NN w0 m H n w) :
    Calls Try.prog 43 #[ptr m.g, .agg #[.int .u32 i, .int .u16 p], .int .i64 b] w fun e w' => e = .returned (.int .i64 (hostP n.hs i p b : Nat)) ∧ Below w.heap.size w w' := by
  have X := Cs.new w [.int .u32 i, .int .u16 p] 28
  have B1 : Below w.heap.size w (w.alloc (.cells #[.int .u32 i, .int .u16 p] 28)) := by (repeat (first | with_reducible exact Below.refl _ _ | with_reducible refine Below.drew ?_ | with_reducible refine below_drewN ?_ _ | with_reducible refine Below.alloc ?_ (by first | omega | (simp; done) | (simp; omega)) _ | with_reducible refine Below.setCell ?_ (by first | omega | (simp; done) | (simp; omega)) _))
  have s1 := s.keep B1
  obtain ⟨hc, hr, -⟩ := s1.cells
  have hl := s.ok.hl
  have C : ∀ d os, _ := fun d os => Calls.regrown_of (index_any m.hv.a m.hv.c n.hs (by omega) i p b (grow (redrawn (w.alloc (.cells #[.int .u32 i, .int .u16 p] 28)) d) os) (hr.keep (below_regrown _ d os)))
  have x0 := X.cell 0 _ rfl
  have x1 := X.cell 1 _ rfl
  have y0 := hc.cell 0 _ rfl
  have gl := hc.lt
  have HB := Lib.hid B1
  have hle : hostP n.hs i p b ≤ 32 := by
    unfold hostP numP
    split
    · have := (List.findIdx?_eq_some_iff_getElem.1 (by assumption)).1; omega
    · omega
  have hh : (1 : Int) + ((hostP n.hs i p b : Int) - 1) = (hostP n.hs i p b : Int) := by omega
  clear X s s1 hc hr B1
  generalize hostP n.hs i p b = t at *
  go_enter Try.func43, Try.ntmps43
  go_wp2_with fail
  generalize (w.alloc (.cells #[.int .u32 i, .int .u16 p] 28)) = w1 at *
  have k0 := cell_regrown x0
  have k1 := cell_regrown x1
  have k2 := cell_regrown y0
  (refine wp_region_quiet_below (by kernel_rfl) (by kernel_rfl) ?_; (repeat (go_big_quiet_step (first | with_reducible exact C _ _))); refine wpQuiet_nil ?_; intro _ hw'; obtain ⟨⟨dq, osq⟩, hw''⟩ := hw'; subst hw'')
  go_wp2
  go_ret
  exact ⟨rfl, HB.out.trans ((below_regrown _ _ _).mono HB.out.size)⟩
set_option maxHeartbeats 1600000 in
theorem boxAt_n (ip : Int) (s : NN w0 m H n w) :
    Calls Try.prog 44 #[ptr m.g, .int .u32 ip] w fun e w' => e = .returned (.int .i64 (boxP n.bs ip : Nat)) ∧ Below w.heap.size w w' := by
  have X := Cs.new w [.int .u32 ip] 25
  have B1 : Below w.heap.size w (w.alloc (.cells #[.int .u32 ip] 25)) := by (repeat (first | with_reducible exact Below.refl _ _ | with_reducible refine Below.drew ?_ | with_reducible refine below_drewN ?_ _ | with_reducible refine Below.alloc ?_ (by first | omega | (simp; done) | (simp; omega)) _ | with_reducible refine Below.setCell ?_ (by first | omega | (simp; done) | (simp; omega)) _))
  have s1 := s.keep B1
  have hbl := s.ok.bl
  obtain ⟨bb, hc, hr, hp, hx, he, hbb, -⟩ := s1.open2
  have x1 := hc.cell 1 _ rfl
  have gl := hc.lt
  have hb1000 : bb.length ≤ 1000 := by rw [← hbb, List.length_map] at hbl; omega
  have C := idxN_anyB _ enters_boxAt #[.pointer (some ⟨w.heap.size, 0, none⟩)] (fun b => decide (b.x.ip = ip)) m.bv.a m.bv.c bb hb1000 _ hp (fun x hx' w' hb => boxAt1_any x.g _ ip x.x x.S w' (X.keep hb) ((hx x hx').keep hb))
  have e1 : numP (fun b : Bb => decide (b.x.ip = ip)) bb = boxP n.bs ip := by
    rw [← hbb]; unfold boxP numP; rw [List.findIdx?_map]; rfl
  rw [e1] at C
  have hle : boxP n.bs ip ≤ 16 := by
    unfold boxP numP
    split
    · have := (List.findIdx?_eq_some_iff_getElem.1 (by assumption)).1; omega
    · omega
  have hh : (1 : Int) + ((boxP n.bs ip : Int) - 1) = (boxP n.bs ip : Int) := by omega
  have HB := Lib.hid B1
  clear X s s1 hc hr hp hx B1 e1 hbb he
  generalize boxP n.bs ip = t at *
  go_enter Try.func44, Try.ntmps44
  go_wp2_with fail
  refine C.mono ?_; rintro e w1 ⟨rfl, b1⟩
  go_wp2
  go_ret
  exact ⟨rfl, HB.out.trans (b1.mono HB.out.size)⟩
/-- another box, or a host, has it -/
def takP (n : Nt) (j : Nat) (ip : Int) : Bool := hostsP n.hs ip || boxesP (others n.bs j) ip
set_option maxHeartbeats 1600000 in
theorem tak_n {j q : Nat} (ip : Int) (hj : m.gs[j]? = some q) (s : NN w0 m H n w) :
    Calls Try.prog 33 #[ptr m.g, .int .u32 ip, ptr q] w fun e w' => e = .returned (.bool (takP n j ip)) ∧ NN w0 m H n w' := by
  obtain ⟨bb, hc, hr, hp, hx, he, hbb, hap⟩ := s.open2
  obtain ⟨y, -, S, hy⟩ := s.at_ hj
  obtain ⟨us, hus⟩ := b1_cs hy
  have hl := s.ok.hl
  have bl := s.ok.bl
  refine (tak_any q ip us hus hc hr hp hx (by omega) (by rw [← hbb, List.length_map] at bl; omega)).mono ?_
  rintro e w' ⟨rfl, hb⟩
  refine ⟨?_, s.keep hb⟩
  have e1 : takB bb q ip = boxesP (others n.bs j) ip := by
    rw [← he, List.getElem?_map, Option.map_eq_some_iff] at hj
    obtain ⟨b, hbj, rfl⟩ := hj
    obtain ⟨hlt, hb2⟩ := List.getElem?_eq_some_iff.1 hbj
    have eb : bb = bb.take j ++ b :: bb.drop (j + 1) := by rw [← hb2, List.getElem_cons_drop, List.take_append_drop]
    have h1 : ∀ c ∈ bb.take j, c.g ≠ b.g := by
      rw [eb] at hap
      exact fun c hc => (List.pairwise_append.1 hap).2.2 c hc b (by simp)
    have h2 : ∀ c ∈ bb.drop (j + 1), c.g ≠ b.g := by
      rw [eb] at hap
      exact fun c hc => Ne.symm ((List.pairwise_cons.1 (List.pairwise_append.1 hap).2.1).1 c hc)
    unfold takB boxesP others
    conv => lhs; rw [eb]
    rw [← hbb, ← List.map_take, ← List.map_drop, ← List.map_append, List.any_map, List.any_append, List.any_append, List.any_cons]
    have t : ∀ l : List Bb, (∀ c ∈ l, c.g ≠ b.g) → (l.any fun c => !decide (c.g = b.g) && decide (c.x.ip = ip)) = l.any ((fun b => decide (b.ip = ip)) ∘ Bb.x) := by
      intro l hl
      rw [Bool.eq_iff_iff, List.any_eq_true, List.any_eq_true]
      constructor
      · rintro ⟨c, hc, h⟩; exact ⟨c, hc, by simp at h; simp [h.2]⟩
      · rintro ⟨c, hc, h⟩; exact ⟨c, hc, by simp at h; simp [h, hl c hc]⟩
    rw [t _ h1, t _ h2]; simp
  rw [e1]; rfl
end
end Go.Proofs.Ytdpgmdkclaahdaa.Ne
