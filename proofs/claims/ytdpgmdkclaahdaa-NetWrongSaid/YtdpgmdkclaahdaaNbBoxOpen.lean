/- A box's dropNearest and open. -/
import Derived.Test.YtdpgmdkclaahdaaNbBoxIns
namespace Go.Proofs.Ytdpgmdkclaahdaa.Nb
open Go.Sort Go.RowKit Go.BigFrame
set_option linter.unusedVariables false
set_option linter.unusedSimpArgs false

theorem ins_any (a : Option Addr) (cap p : Nat) (L : List Bd) (x : Bd) (hl : L.length ≤ 64) (hp : p ≤ L.length) (w : World) (hr : BRow w (.slice a L.length cap) L) (gv : Nat) (hne : (Value.slice a 0 0).ownBlock ≠ some gv) (hv : w.heap[gv]? = some (.cells (ch x).toArray 107 (0, 0))) :
    Calls Try.prog 75 #[.slice a L.length cap, .int .i64 (p : Nat), .slice (some ⟨gv, 0, none⟩) 1 1] w (InsPost a p x L w) := by
  by_cases he : p = L.length
  · subst he; exact ins_end a cap L x hl w hr gv hv
  · rcases brow_form hr with ⟨_, rfl⟩ | ⟨g, cap', h1, _⟩
    · simp at hp he; exact absurd hp he
    · simp only [Value.slice.injEq, true_and] at h1
      obtain ⟨rfl, rfl⟩ := h1
      have hc : L.length ≤ cap := (brow_open hr).2.choose_spec.2.2.2.1
      have hng : gv ≠ g := fun e => hne (by rw [e]; rfl)
      by_cases hroom : L.length + 1 ≤ cap
      · exact ins_shift g cap p L x hl (by omega) hroom w hr gv hng hv
      · obtain rfl : cap = L.length := by omega
        exact ins_grow g p L x hl (by omega) w hr gv hng hv
def NearPost (g : Nat) (S : Nat → Prop) (m f ip hold : Int) (room : Nat) (L : List Bd) (w : World) (e : Ending) (w' : World) : Prop :=
  e = .returned (.tuple #[]) ∧ (∃ v', Bs g S m f ip hold room v' L w') ∧ Touch S w w'
set_option maxHeartbeats 1600000 in
theorem near_any (g : Nat) (S : Nat → Prop) (m f ip hold : Int) (room : Nat) (v : Sl) (x : Bd) (L : List Bd) (w : World) (h : Bs g S m f ip hold room v (x :: L) w) (hS : ∀ k, S k → k < w.heap.size) :
    Calls Try.prog 73 #[.pointer (some ⟨g, 0, none⟩)] w (NearPost g S m f ip hold room (keepL (portP (minB x L).1.po) (x :: L)) w) := by
  have hlen := h.len
  have hr2 := h.ok.r2
  have hn := h.form.1
  obtain ⟨a, n, c⟩ := v
  simp only at hn
  subst hn
  rw [List.length_cons] at hlen
  have x5 := h.box.cell 5 _ rfl
  rw [List.length_cons] at x5
  have gl := h.box.lt
  have M := minF_any a c x L (by omega) w (brow_rd h.row)
  have HB := Lib.hid h
  clear h
  generalize minB x L = y at *
  obtain ⟨⟨r1, r2, r3, r4, r5, r6, r7⟩, ⟨s1, s2, s3⟩⟩ := y
  go_enter Try.func73, Try.ntmps73
  go_wp2_with fail
  refine M.mono ?_; rintro e w1 ⟨rfl, b1⟩
  have X := Cs.new w1 [.int .u32 r1, .int .u16 r2, .int .u32 r3, .int .u16 r4, .int .u16 r5, .slice s1 s2 s3, .int .u64 r6] 107
  have h2 := (HB.out.keep b1).keep ((Below.refl _ _).alloc (Nat.le_refl _) (.cells #[.int .u32 r1, .int .u16 r2, .int .u32 r3, .int .u16 r4, .int .u16 r5, .slice s1 s2 s3, .int .u64 r6] 107))
  have D := Lib.hid (dropF_any _ enters_near #[.pointer (some ⟨w1.heap.size, 0, none⟩)] (portP r5) g S m f ip hold room _ (x :: L) _ h2 (fun y hy w' ht => nearC_any y _ r5 w1.heap.size w' (X.touch ht (fun hk => by have := hS _ hk; have := b1.size; omega)) rfl))
  have HB1 := Lib.hid b1
  clear X h2 b1 M x5 gl
  go_wp2_with fail
  refine D.out.mono ?_; rintro e w2 ⟨rfl, hb, ht⟩
  have HB2 := Lib.hid hb
  have HT2 := Lib.hid ht
  clear hb ht D HB
  go_wp2_with fail
  refine bodyPost_ret (v := .tuple #[]) (by simp [results, Try.results73, go_sem]) rfl ⟨rfl, HB2.out, ?_⟩
  exact ((Touch.of_below S HB1.out).alloc _).trans HT2.out (fun _ _ h => h)
theorem pairwise_ins {R : Bd → Bd → Prop} {L : List Bd} (p : Nat) (x : Bd) (h : L.Pairwise R) (h1 : ∀ y ∈ L, R y x) (h2 : ∀ y ∈ L, R x y) : (insL L p x).Pairwise R := by
  unfold insL
  rw [List.pairwise_append]
  refine ⟨h.sublist (List.take_sublist p L), List.pairwise_cons.2 ⟨fun y hy => h2 y (List.mem_of_mem_drop hy), h.sublist (List.drop_sublist p L)⟩, fun a ha b hb => ?_⟩
  rcases List.mem_cons.1 hb with rfl | hb
  · exact h1 a (List.mem_of_mem_take ha)
  · have hp : (L.take p ++ L.drop p).Pairwise R := by rw [List.take_append_drop]; exact h
    exact (List.pairwise_append.1 hp).2.2 a ha b hb
theorem mem_ins {L : List Bd} {p : Nat} {x y : Bd} (h : y ∈ insL L p x) : y = x ∨ y ∈ L := by
  unfold insL at h
  rcases List.mem_append.1 h with h | h
  · exact .inr (List.mem_of_mem_take h)
  · rcases List.mem_cons.1 h with h | h
    · exact .inl h
    · exact .inr (List.mem_of_mem_drop h)
def newP (si sp ki kp : Int) (p : Nat) : Pb := ⟨si, sp, ki, kp, 20000 + (p : Int), 0, []⟩
/-- without the one that ends soonest, if there is no room -/
def evictB (room : Nat) : List Bd → List Bd
  | [] => []
  | x :: L => if L.length + 1 = room then keepL (portP (minB x L).1.po) (x :: L) else x :: L
def openB (room : Nat) (si sp ki kp : Int) (L : List Bd) : List Bd :=
  insL (evictB room L) (freeF 0 ((evictB room L).map (·.1))) (newP si sp ki kp (freeF 0 ((evictB room L).map (·.1))), ⟨none, 0, 0⟩)
theorem keep_lt {q : Pb → Bool} {L : List Bd} {y : Bd} (h : y ∈ L) (hq : q y.1 = true) : (keepL q L).length < L.length := by
  unfold keepL
  refine Nat.lt_of_le_of_ne (List.length_filter_le _ _) (fun e => ?_)
  have := List.filter_eq_self.1 (List.filter_sublist.eq_of_length e) y h
  rw [hq] at this; simp at this
theorem minB_mem : ∀ (L : List Bd) (x : Bd), minB x L ∈ x :: L
  | [], x => by simp [minB]
  | y :: r, x => by
    unfold minB
    rw [List.foldl_cons]
    by_cases h : y.1.un < x.1.un
    · rw [if_pos h]; exact List.mem_cons_of_mem _ (minB_mem r y)
    · rw [if_neg h]
      rcases List.mem_cons.1 (minB_mem r x) with h1 | h1
      · exact List.mem_cons.2 (.inl h1)
      · exact List.mem_cons_of_mem _ (List.mem_cons_of_mem _ h1)
theorem evict_full {room : Nat} {x : Bd} {L : List Bd} (h : L.length + 1 = room) : evictB room (x :: L) = keepL (portP (minB x L).1.po) (x :: L) := if_pos h
theorem evict_room {room : Nat} {L : List Bd} (h : ¬ L.length = room) : evictB room L = L := by
  cases L with
  | nil => rfl
  | cons x L => exact if_neg h
theorem evict_len {room : Nat} {L : List Bd} (h : L.length ≤ room) (h1 : 1 ≤ room) : (evictB room L).length < room := by
  cases L with
  | nil => exact h1
  | cons x L =>
    by_cases he : L.length + 1 = room
    · rw [evict_full he]
      have := keep_lt (q := portP (minB x L).1.po) (minB_mem L x) (by simp [portP])
      rw [List.length_cons] at this; omega
    · rw [evict_room (by rw [List.length_cons]; exact he)]
      rw [List.length_cons] at h ⊢; omega
theorem evict_sub {room : Nat} {L : List Bd} {y : Bd} (h : y ∈ evictB room L) : y ∈ L := by
  cases L with
  | nil => exact h
  | cons x L =>
    by_cases he : L.length + 1 = room
    · rw [evict_full he] at h; exact (List.mem_filter.1 h).1
    · rw [evict_room (by rw [List.length_cons]; exact he)] at h; exact h
/-- the blocks that are there behind a call -/
def grownS (S : Nat → Prop) (w w' : World) (k : Nat) : Prop := S k ∨ (w.heap.size ≤ k ∧ k < w'.heap.size)
def OpenPost (g : Nat) (S : Nat → Prop) (m f ip hold : Int) (room : Nat) (si sp ki kp : Int) (L : List Bd) (w : World) (e : Ending) (w' : World) : Prop :=
  e = .returned (.int .i64 (freeF 0 ((evictB room L).map (·.1)) : Nat)) ∧ (∃ v', Bs g (grownS S w w') m f ip hold room v' (openB room si sp ki kp L) w') ∧ Touch S w w'
theorem Okb.ins {hold : Int} {room : Nat} {L : List Bd} {si sp ki kp : Int} {p : Nat} (h : Okb hold room (L.map (·.1))) (hp : p ≤ L.length) (hl : L.length < room) : Okb hold room ((insL L p (newP si sp ki kp p, ⟨none, 0, 0⟩)).map (·.1)) := by
  have hr := h.r2
  refine ⟨h.h1, h.h2, h.r1, h.r2, ?_, fun b hb => ?_, fun b hb => ?_⟩
  · rw [List.length_map, insL_len L p _ hp]; omega
  · obtain ⟨x, hx, rfl⟩ := List.mem_map.1 hb
    rcases mem_ins hx with rfl | hx
    · exact Nat.zero_le _
    · exact h.met _ (List.mem_map.2 ⟨x, hx, rfl⟩)
  · obtain ⟨x, hx, rfl⟩ := List.mem_map.1 hb
    rcases mem_ins hx with rfl | hx
    · simp only [newP]; omega
    · exact h.po _ (List.mem_map.2 ⟨x, hx, rfl⟩)
theorem open_fin {g : Nat} {S : Nat → Prop} {m f ip hold : Int} {room : Nat} {a2 : Option Addr} {c2 : Nat} {L1 : List Bd} {si sp ki kp : Int} {pl : Nat} {v5 : Sl} {w w3 w4 w5 : World}
    (h : Bs g S m f ip hold room ⟨a2, L1.length, c2⟩ L1 w3) (hS : ∀ k, S k → k < w.heap.size) (T0 : Touch S w w3) (hel : L1.length < room) (hfl : pl ≤ L1.length) (b4 : Below w3.heap.size w3 w4)
    (hrow : BRow w5 v5.v (insL L1 pl (newP si sp ki kp pl, ⟨none, 0, 0⟩))) (ht : Touch (fun k => (Value.slice a2 0 0).ownBlock = some k) w4 w5)
    (hat : ∀ k, v5.v.ownBlock = some k → (Value.slice a2 0 0).ownBlock = some k ∨ w4.heap.size ≤ k) (hb5 : ∀ k, v5.v.ownBlock = some k → k < w5.heap.size) :
    (∃ v', Bs g (grownS S w (w5.setCell ⟨g, 5, none⟩ (.slice v5.a v5.n v5.c))) m f ip hold room v' (insL L1 pl (newP si sp ki kp pl, ⟨none, 0, 0⟩)) (w5.setCell ⟨g, 5, none⟩ (.slice v5.a v5.n v5.c))) ∧ Touch S w (w5.setCell ⟨g, 5, none⟩ (.slice v5.a v5.n v5.c)) := by
  have h4 := h.keep b4
  have tb : Touch S w4 w5 := ht.mono (fun k _ hk => (h.vS k (own_eq hk)).1)
  have tS : Touch (fun k => k = g) w5 (w5.setCell ⟨g, 5, none⟩ (.slice v5.a v5.n v5.c)) := Touch.set (F := fun k => k = g) (Touch.refl _ w5) (fun _ => rfl) _
  have T5 : Touch S w w5 := (T0.trans (Touch.of_below S b4) (fun _ _ h => h)).trans tb (fun _ _ h => h)
  have hsz : w.heap.size ≤ w4.heap.size := Nat.le_trans T0.size b4.size
  have X5 := h4.box.touch ht (fun hk => (h.vS _ (own_eq hk)).2 rfl)
  have hsz6 : (w5.setCell ⟨g, 5, none⟩ (.slice v5.a v5.n v5.c)).heap.size = w5.heap.size := by simp
  refine ⟨⟨v5, ?_, ?_, ?_, ?_, .inl h.gS, fun k hk => ?_, fun x hx k hk => ?_, h.ok.ins hfl hel⟩, T5.set (fun _ => h.gS) _⟩
  · exact X5.set 5 (.slice v5.a v5.n v5.c) (by simp [bcells])
  · refine brow_touch hrow tS (fun k hk e => ?_)
    rcases hat k hk with h1 | h1
    · exact (h.vS k (own_eq h1)).2 e
    · have := h4.box.lt; omega
  · intro x hx
    rcases mem_ins hx with rfl | hx
    · exact World.ownsRow_nil _ _ _ _
    · exact own_touch (own_touch (h4.met x hx) ht (fun k hk hv => (h.mS x hx k hk).2.2 (own_eq hv))) tS (fun k hk e => (h.mS x hx k hk).2.1 e)
  · exact pairwise_ins pl _ h.sep (fun y _ k _ e => by simp [Sl.v, Value.ownBlock] at e) (fun y _ k e => by simp [Sl.v, Value.ownBlock] at e)
  · rcases hat k hk with h1 | h1
    · exact ⟨.inl (h.vS k (own_eq h1)).1, (h.vS k (own_eq h1)).2⟩
    · exact ⟨.inr ⟨by omega, by rw [hsz6]; exact hb5 k hk⟩, by have := h4.box.lt; omega⟩
  · rcases mem_ins hx with rfl | hx
    · simp [Sl.v, Value.ownBlock] at hk
    · refine ⟨.inl (h.mS x hx k hk).1, (h.mS x hx k hk).2.1, fun e => ?_⟩
      rcases hat k e with h1 | h1
      · exact (h.mS x hx k hk).2.2 (own_eq h1)
      · have := hS k (h.mS x hx k hk).1; omega
theorem BRow.lt {w : World} {v : Value} {L : List Bd} (h : BRow w v L) : ∀ k, v.ownBlock = some k → k < w.heap.size := fun k hk => (World.ownsRow.lt h k hk).2
set_option maxHeartbeats 6400000 in
theorem open_any (g : Nat) (S : Nat → Prop) (m f ip hold : Int) (room : Nat) (v : Sl) (si sp ki kp : Int) (L : List Bd) (w : World) (h : Bs g S m f ip hold room v L w) (hS : ∀ k, S k → k < w.heap.size) :
    Calls Try.prog 60 #[.pointer (some ⟨g, 0, none⟩), .agg #[.int .u32 si, .int .u16 sp], .agg #[.int .u32 ki, .int .u16 kp]] w (OpenPost g S m f ip hold room si sp ki kp L w) := by
  have hlen := h.len
  have hr1 := h.ok.r1
  have hr2 := h.ok.r2
  have hel := evict_len hlen hr1
  have X : Hid (Cs w.heap.size [.int .u32 si, .int .u16 sp] ((w.alloc (.cells #[.int .u32 si, .int .u16 sp] 28)).alloc (.cells #[.int .u32 ki, .int .u16 kp] 28))) := (Cs.new w [.int .u32 si, .int .u16 sp] 28).alloc _
  have Y : Hid (Cs (w.heap.size + 1) [.int .u32 ki, .int .u16 kp] ((w.alloc (.cells #[.int .u32 si, .int .u16 sp] 28)).alloc (.cells #[.int .u32 ki, .int .u16 kp] 28))) := by
    have h1 := Cs.new (w.alloc (.cells #[.int .u32 si, .int .u16 sp] 28)) [.int .u32 ki, .int .u16 kp] 28
    simp only [World.size_alloc] at h1
    exact h1
  have B0 : Hid (Below w.heap.size w ((w.alloc (.cells #[.int .u32 si, .int .u16 sp] 28)).alloc (.cells #[.int .u32 ki, .int .u16 kp] 28))) := by show Below _ _ _; (repeat (first | with_reducible exact Below.refl _ _ | with_reducible refine Below.drew ?_ | with_reducible refine below_drewN ?_ _ | with_reducible refine Below.alloc ?_ (by first | omega | (simp; done) | (simp; omega)) _ | with_reducible refine Below.setCell ?_ (by first | omega | (simp; done) | (simp; omega)) _))
  have HB := Lib.hid (h.keep B0.out)
  have HS := Lib.hid hS
  have hn := h.form.1
  obtain ⟨a, n, c⟩ := v
  simp only at hn
  subst hn
  clear h hS
  have x5 := HB.out.box.cell 5 _ rfl
  have x4 := HB.out.box.cell 4 _ rfl
  have gl := HB.out.box.lt
  have hl2 : (L.length : Int) ≤ 64 := by omega
  have hr3 : (room : Int) ≤ 64 := by omega
  go_enter Try.func60, Try.ntmps60
  go_wp2_with fail
  generalize ((w.alloc (.cells #[.int .u32 si, .int .u16 sp] 28)).alloc (.cells #[.int .u32 ki, .int .u16 kp] 28)) = w1 at *
  obtain ⟨bb, hbb⟩ : ∃ bb, decide (L.length = room) = bb := ⟨_, rfl⟩
  have Hbb := Lib.hid hbb
  clear hbb
  go_upto_region 1 with fail
  go_cut [17] (fun c wx => c = .bool bb ∧ Below w1.heap.size w1 wx)
  case first =>
    by_cases hf : L.length = room
    · have e1 : ((L.length : Int) == (room : Int)) = true := by rw [beq_iff_eq]; omega
      obtain rfl : true = bb := by rw [← Hbb.out]; simp [hf]
      have HF := Lib.hid hf
      clear hf
      go_quiet (fail)
      go_wp2_with fail
      go_meet
      exact ⟨rfl, below_drewN (Below.refl _ _) _⟩
    · have e1 : ((L.length : Int) == (room : Int)) = false := by rw [beq_eq_false_iff_ne]; omega
      obtain rfl : false = bb := by rw [← Hbb.out]; simp [hf]
      have HF := Lib.hid hf
      clear hf
      go_quiet (fail)
      go_wp2_with fail
      go_meet
      exact ⟨rfl, below_drewN (Below.refl _ _) _⟩
  case rest =>
    obtain ⟨rfl, hb⟩ := hcut
    generalize wc = w2 at *
    replace X := Lib.hid (X.out.keep hb)
    replace Y := Lib.hid (Y.out.keep hb)
    replace HB := Lib.hid (HB.out.keep hb)
    replace B0 := Lib.hid (B0.out.trans (hb.mono B0.out.size))
    clear hb x5 x4 gl
    go_upto_if 17 with fail
    go_cut [] (fun wx => ∃ v', Bs g S m f ip hold room v' (evictB room L) wx ∧ Touch S w2 wx)
    case first =>
      by_cases hf : L.length = room
      · obtain rfl : true = bb := by rw [← Hbb.out]; simp [hf]
        cases L with
        | nil => simp at hf; omega
        | cons x L =>
          have N := near_any g S m f ip hold room _ x L w2 HB.out (fun k hk => Nat.lt_of_lt_of_le (HS.out k hk) B0.out.size)
          have HE := Lib.hid (evict_full (room := room) (x := x) (L := L) (by simpa using hf))
          clear hf HB hel
          go_wp2_with fail
          refine N.mono ?_; rintro e w3 ⟨rfl, ⟨v', hb⟩, ht⟩
          go_wp2_with fail
          go_meet
          exact ⟨v', by rw [HE.out]; exact hb, ht⟩
      · obtain rfl : false = bb := by rw [← Hbb.out]; simp [hf]
        have HE := Lib.hid (evict_room (room := room) (L := L) hf)
        clear hf hel
        go_wp2_with fail
        go_meet
        exact ⟨_, by rw [HE.out]; exact HB.out, Touch.refl _ _⟩
    case rest =>
      obtain ⟨v', hb, ht⟩ := hcut
      generalize wc = w3 at *
      replace X := Lib.hid (X.out.touch ht (fun hk => Nat.lt_irrefl _ (HS.out _ hk)))
      replace Y := Lib.hid (Y.out.touch ht (fun hk => by have := HS.out _ hk; omega))
      have T0 : Hid (Touch S w w3) := (Touch.of_below S B0.out).trans ht (fun _ _ h => h)
      replace HB := Lib.hid hb
      have hs3 : w.heap.size + 1 < w3.heap.size := Y.out.lt
      clear hb ht B0
      obtain ⟨L1, hL1⟩ : ∃ L1, evictB room L = L1 := ⟨_, rfl⟩
      rw [hL1] at HB hel
      have hfl := (freeF_le (L1.map (·.1)) 0).2
      rw [List.length_map, Nat.zero_add] at hfl
      have F := free_any g S m f ip hold room v' L1 w3 HB.out
      obtain ⟨pl, hpl⟩ : ∃ pl, freeF 0 (L1.map (·.1)) = pl := ⟨_, rfl⟩
      rw [hpl] at hfl F
      have HL1 := Lib.hid hL1
      have HPL := Lib.hid hpl
      clear hL1 hpl
      go_wp2_with fail
      refine F.mono ?_; rintro e w3 ⟨rfl, rfl⟩
      have hn := HB.out.form.1
      obtain ⟨a2, n2, c2⟩ := v'
      simp only at hn
      subst hn
      have x5 := HB.out.box.cell 5 _ rfl
      have gl := HB.out.box.lt
      have x0 := X.out.cell 0 _ rfl
      have x1 := X.out.cell 1 _ rfl
      have y0 := Y.out.cell 0 _ rfl
      have y1 := Y.out.cell 1 _ rfl
      have hp0 : (0 : Int) ≤ pl := by omega
      have hp1 : (pl : Int) < 64 := by omega
      have hw1 : IntKind.i64.wrap (20000 + (pl : Int)) = 20000 + (pl : Int) := by rw [IntKind.wrap_i64]; omega
      have hw2 : IntKind.u16.wrap (20000 + (pl : Int)) = 20000 + (pl : Int) := IntWalk.u16_in _ (by omega)
      have hne : (Value.slice a2 0 0).ownBlock ≠ some w3.heap.size := fun e => by
        have := HS.out _ (HB.out.vS _ (own_eq e)).1
        omega
      have hL1 : L1.length ≤ 64 := by omega
      have HB4 := fun o => HB.out.keep (((Below.refl _ _).drew).alloc (Nat.le_refl _) o)
      have HB4 := Lib.hid HB4
      clear F
      go_wp2_with fail
      go_region_law ((go_simp; go_at_call 75; refine (ins_any a2 c2 pl L1 (newP si sp ki kp pl, ⟨none, 0, 0⟩) hL1 hfl _ (HB4.out _).row w3.heap.size hne (heap_alloc_new _ _)).mono ?_; rintro e w5 ⟨v5, rfl, hrow, ht, hat⟩; have Z := (HB4.out _).box.touch ht (fun hk => (HB.out.vS _ (own_eq hk)).2 rfl); have z5 := Z.cell 5 _ rfl; have zf := Z.free 5 _ rfl; have zl := Z.lt; have fin := Lib.hid (open_fin HB.out HS.out T0.out hel hfl (((Below.refl _ _).drew).alloc (Nat.le_refl _) _) hrow ht hat hrow.lt); clear hrow ht hat Z))
      all_goals go_wp2_with fail
      all_goals go_ret
      all_goals exact ⟨by rw [HL1.out, HPL.out]; rfl, by unfold openB; rw [HL1.out, HPL.out]; exact fin.out.1, fin.out.2⟩
end Go.Proofs.Ytdpgmdkclaahdaa.Nb