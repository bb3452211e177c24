/- The queue's Some. -/
import Derived.Test.YthebcaielbnhjaaQuAdd2
namespace Go.Proofs.Ythebcaielbnhjaa
open Go.Sort Go.RowKit Go.BigFrame
set_option linter.unusedVariables false
set_option linter.unusedSimpArgs false

theorem info_rec : (Try.prog.info? 37).map (fun i => (i.zero, i.size, i.bytes)) = some (some (.agg #[.int .i64 0, .int .i64 0, .int .u32 0, .int .u32 0, .int .u16 0]), 5, 32) := by kernel_rfl
theorem enters_some : Enters 27 := fun args w => by kernel_rfl
theorem someC_any (x : Im) (w : World) :
    Calls Try.prog 27 #[.agg #[.int .i64 x.r.id, .int .i64 x.r.st, .int .u32 x.r.n, .int .u32 x.r.ip, .int .u16 x.r.port, .int .i64 x.left]] w fun e w' => e = .returned (.bool (noneI0 x)) ∧ Below w.heap.size w w' := by
  unfold noneI0
  obtain ⟨⟨i1, s1, n1, a1, p1⟩, l1⟩ := x
  simp only at *
  go_enter Try.func27, Try.ntmps27
  go_wp2
  go_ret
  exact ⟨bool_ret (by first | rfl | (rw [Bool.eq_iff_iff]; simp)), by (repeat (first | with_reducible exact Below.refl _ _ | with_reducible refine Below.drew ?_ | with_reducible refine below_drewN ?_ _ | with_reducible refine Below.alloc ?_ (by first | omega | (simp; done) | (simp; omega)) _ | with_reducible refine Below.setCell ?_ (by first | omega | (simp; done) | (simp; omega)) _))⟩
/-- one is told once more -/
theorem row_dec {T : TypeId} {w : World} {gv n cap i : Nat} {M : List Im} {x : Im} (h : ERow ci 6 T w (.slice (some ⟨gv, 0, none⟩) n cap) M) (hx : M[i]? = some x) : ERow ci 6 T (w.setCell ⟨gv, i * 6 + 5, none⟩ (.int .i64 (x.left - 1))) (.slice (some ⟨gv, 0, none⟩) n cap) (M.set i (decI x)) := by
  obtain ⟨rfl, C, hC, hcap, ht, hlc, hm⟩ := erow_open ci_enc h
  have hil : i < M.length := (List.getElem?_eq_some_iff.1 hx).1
  have hc := taken_at ht hx
  have hf := hC.field i 5 (ci x) (.int .i64 (x.left - 1)) hc (by decide)
  have e : (ci x).set 5 (.int .i64 (x.left - 1)) = ci (decI x) := rfl
  rw [e] at hf
  have htake : (C.set i (ci (decI x))).take (M.set i (decI x)).length = (M.set i (decI x)).map ci := by
    rw [List.length_set, List.take_set, ht, List.map_set]
  have := erow_close (L := M.set i (decI x)) hf htake (by rw [List.length_set, List.length_set]; omega) (by rw [List.length_set, hcap]; exact hm)
  rw [List.length_set, List.length_set, hcap] at this
  exact this
/-- a new slice is stored: what the queue is then -/
theorem put_row_x {k : Bool} {g room : Nat} {v v' : Sl} {S L' S' : List Im} {w w2 : World} (h : Qs k g room v S w) (hr : ERow ci 6 (tI k) w2 v'.v L') (hp : Lies k L' S') (hb : Below w.heap.size w w2) (hn : ∀ b, v'.v.ownBlock = some b → w.heap.size ≤ b) (hok : OkS room S') :
    Qs k g room v' S' (w2.setCell ⟨g, slotQ k, none⟩ (.slice v'.a v'.n v'.c)) ∧ Touch (OwnS g v) w (w2.setCell ⟨g, slotQ k, none⟩ (.slice v'.a v'.n v'.c)) ∧ (∀ b, OwnS g v' b → OwnS g v b ∨ w.heap.size ≤ b) ∧ Cs g (qc k room v) w2 := by
  have hne : v'.v.ownBlock ≠ some g := fun e => by have := hn g e; have := h.box.lt; omega
  refine ⟨⟨?_, ⟨L', ?_, hp⟩, hne, h.r1, h.r2, hok⟩, ?_, fun b hb => ?_, h.box.keep hb⟩
  · have := (h.box.keep hb).set (slotQ k) (.slice v'.a v'.n v'.c) (by cases k <;> simp [qc, slotQ])
    rw [qc_set] at this
    exact this
  · exact erow_touch hr (Touch.set (F := fun b => b = g) (Touch.refl _ w2) (fun _ => rfl) _) (fun b hb e => hne (by rw [← e]; exact hb))
  · exact (Touch.of_below (OwnS g v) hb).set (a := ⟨g, slotQ k, none⟩) (fun _ => Or.inl rfl) _
  · rcases hb with rfl | hb
    · exact .inl (.inl rfl)
    · exact .inr (hn b hb)
def SomePost (k : Bool) (T : TypeId) (g room : Nat) (v : Sl) (S' : List Im) (D : List Rec) (w : World) (e : Ending) (w' : World) : Prop :=
  ∃ (t v' : Sl), e = .returned (.slice t.a D.length t.c) ∧ NewE rcs 5 T D w t w' ∧ Qs k g room v' S' w' ∧ Touch (OwnS g v) w w' ∧ (∀ b, OwnS g v' b → OwnS g v b ∨ w.heap.size ≤ b) ∧ ∀ b, t.v.ownBlock = some b → ¬ OwnS g v' b
def toldTo (S : List Im) (i : Nat) : List Rec := (S.take i).map Im.r
theorem toldTo_len {S : List Im} {i : Nat} (h : i ≤ S.length) : (toldTo S i).length = i := by unfold toldTo; rw [List.length_map, List.length_take]; omega
theorem toldTo_succ {S : List Im} {i : Nat} {x : Im} (h : S[i]? = some x) : toldTo S (i + 1) = toldTo S i ++ [x.r] := by
  obtain ⟨hi, rfl⟩ := List.getElem?_eq_some_iff.1 h
  unfold toldTo; rw [List.take_succ_eq_append_getElem hi, List.map_append]; rfl
structure SmS (S : List Im) (ia : Option Addr) (ic i : Nat) (w : World) (sv : Value) (wr : World) : Prop where
  told : ERow rcs 5 37 wr sv (toldTo S i)
  items : ERow ci 6 61 wr (.slice ia S.length ic) (lowL S i)
  below : Below w.heap.size w wr
  lo : ∀ k, sv.ownBlock = some k → w.heap.size ≤ k
  apart : ∀ k, sv.ownBlock = some k → (Value.slice ia S.length ic).ownBlock ≠ some k
def SmJ (S : List Im) (ia : Option Addr) (ic c : Nat) (w : World) (sv iv : Value) (wr : World) : Prop := ∃ i : Nat, i ≤ c ∧ iv = .int .i64 (i : Nat) ∧ SmS S ia ic i w sv wr
/-- a round's memory -/
theorem SmS.next {S : List Im} {gv ic i : Nat} {x : Im} {w wr w9 : World} {sv : Value} {g1 cap1 : Nat} {o : Obj} (h : SmS S (some ⟨gv, 0, none⟩) ic i w sv wr) (hlo : w.heap.size ≤ gv) (hx : S[i]? = some x)
    (hown : w9.ownsRow 0 37 5 (.slice (some ⟨g1, 0, none⟩) ((toldTo S i).length + 1) cap1) ((toldTo S i).length + 1) (((toldTo S i).map rcs).flatten ++ rcs x.r)) (hgrow : (wr.alloc o).grownBy w9 sv.ownBlock) (hat : sv.ownBlock = some g1 ∨ g1 = (wr.alloc o).heap.size) :
    SmS S (some ⟨gv, 0, none⟩) ic (i + 1) w (.slice (some ⟨g1, 0, none⟩) ((toldTo S i).length + 1) cap1) (w9.setCell ⟨gv, i * 6 + 5, none⟩ (.int .i64 (x.left - 1))) ∧ ERow ci 6 61 w9 (.slice (some ⟨gv, 0, none⟩) S.length ic) (lowL S i) := by
  have t9 : Touch (fun k => sv.ownBlock = some k) (wr.alloc o) w9 := Touch.of_grown hgrow (fun _ h => h)
  have it1 := erow_keep h.items ((Below.refl _ wr).alloc (Nat.le_refl _) o)
  have gvlt : gv < wr.heap.size := erow_lt h.items rfl
  have it9 : ERow ci 6 61 w9 (.slice (some ⟨gv, 0, none⟩) S.length ic) (lowL S i) := erow_touch it1 t9 (fun k hk e => h.apart k e hk)
  have hne : g1 ≠ gv := fun e => by
    subst e
    rcases hat with h1 | h1
    · exact h.apart _ h1 rfl
    · simp at h1; omega
  have hr : ERow rcs 5 37 w9 (.slice (some ⟨g1, 0, none⟩) ((toldTo S i).length + 1) cap1) (toldTo S (i + 1)) := by rw [toldTo_succ hx]; exact erow_snoc rfl hown
  have hlo2 : ∀ k, (Value.slice (some ⟨g1, 0, none⟩) ((toldTo S i).length + 1) cap1).ownBlock = some k → w.heap.size ≤ k := fun k hk => by
    have e : g1 = k := Option.some.inj hk
    subst e
    rcases hat with h1 | h1
    · exact h.lo _ h1
    · have := h.below.size; simp at h1; omega
  have b9 : Below w.heap.size w w9 := (h.below.alloc h.below.size o).grown hgrow (by have := h.below.size; simp; omega) (fun k hk => h.lo k hk)
  refine ⟨⟨?_, ?_, b9.setCell hlo _, hlo2, fun k hk e => ?_⟩, it9⟩
  · exact erow_touch hr (Touch.set (F := fun b => b = gv) (Touch.refl _ w9) (fun _ => rfl) _) (fun b hb e => by
      have : g1 = b := Option.some.inj hb
      omega)
  · rw [low_succ hx]
    exact row_dec it9 (low_at hx (Nat.le_refl _))
  · have e1 : g1 = k := Option.some.inj hk
    have e2 : gv = k := Option.some.inj e
    omega
set_option maxHeartbeats 3200000 in
set_option maxRecDepth 100000 in
theorem some_any (k : Int) (g room : Nat) (v : Sl) (S : List Im) (w : World) (h : Qs true g room v S w) :
    Calls Try.prog 16 #[.pointer (some ⟨g, 0, none⟩), .int .i64 k] w (SomePost true 37 g room v (someS S k) (toldS S k) w) := by
  obtain ⟨i0, hi0, hz0, hz1, hz2⟩ := info_parts info_rec
  have HH := Lib.hid h
  have K := items_any g room v S w h
  have hl : S.length ≤ 64 := by have := h.ok.len; have := h.r2; omega
  have hl2 : (S.length : Int) ≤ 64 := by omega
  have HKEEP := Lib.hid (some_keep h.ok k)
  have HOK := Lib.hid (some_ok h.ok k)
  have hc : max 0 (min k (S.length : Int)) = (cutS S k : Nat) := by unfold cutS; omega
  have hc2 := cut_le S k
  have HD : Hid (toldS S k = toldTo S (cutS S k)) := rfl
  clear h
  generalize cutS S k = c at *
  generalize toldS S k = D at *
  generalize someS S k = S' at *
  go_enter Try.func16, Try.ntmps16
  go_wp2_with fail
  refine K.mono ?_; rintro e w1 ⟨⟨ia, iN, ic⟩, rfl, hN, b1⟩
  have hiN : iN = S.length := hN.2.1
  subst hiN
  have HN := Lib.hid hN
  have S0 : Hid (SmJ S ia ic c w (.slice none 0 0) (.int .i64 0) w1) := ⟨0, Nat.zero_le _, rfl, ⟨erow_nil, by rw [low_zero]; exact hN.1, b1, fun k hk => by simp [Value.ownBlock] at hk, fun k hk => by simp [Value.ownBlock] at hk⟩⟩
  clear K hN b1
  go_wp2_with fail
  go_loopw [6, 15] (fun sv iv wr => SmJ S ia ic c w sv iv wr) (fun _ i _ => c - (intOf i).toNat)
  case atStart => exact S0.out
  case round =>
    obtain ⟨i, hi, rfl, hS⟩ := hrel
    clear S0
    generalize u6 = sv at *
    have hI0 : (0 : Int) ≤ i := by omega
    have HS := Lib.hid hS
    by_cases hlt : i < c
    · have hlt' : (i : Int) < c := by omega
      have hiS : (i : Int) < S.length := by omega
      obtain ⟨x, hx⟩ : ∃ x, S[i]? = some x := ⟨_, List.getElem?_eq_getElem (by omega)⟩
      obtain ⟨gv, rfl⟩ : ∃ gv, ia = some ⟨gv, 0, none⟩ := by
        rcases erow_form hS.items with ⟨_, e⟩ | ⟨gv, _, h1, _⟩
        · have := low_len S i; rw [e] at this; simp at this; omega
        · simp at h1; exact ⟨gv, h1.1⟩
      obtain ⟨-, C, hC, hcap, ht, hlc, hm⟩ := erow_open ci_enc hS.items
      have hcc := fun k v => hC.cell i k (ci x) v (taken_at ht (low_at hx (Nat.le_refl _)))
      have c0 := hcc 0 _ rfl
      have c1 := hcc 1 _ rfl
      have c2 := hcc 2 _ rfl
      have c3 := hcc 3 _ rfl
      have c4 := hcc 4 _ rfl
      have hgv : w.heap.size ≤ gv := HN.out.2.2 gv rfl
      have hgl := hC.lt
      have TL := toldTo_len (S := S) (i := i) (by omega)
      have HX := Lib.hid hx
      have NX := Lib.hid (fun (g1 cap1 : Nat) (o : Obj) (w9 : World) => SmS.next (g1 := g1) (cap1 := cap1) (o := o) (w9 := w9) hS hgv hx)
      have HTL := Lib.hid TL
      have hi1 : i + 1 ≤ c := hlt
      have HR := Lib.hid hS.told
      have hox := HH.out.ok.ok x (List.mem_of_getElem? hx)
      have wl := IntWalk.i64_in (x.left - 1) ⟨by have := hox.l1; omega, by have := hox.l2; omega⟩
      clear hC hcap ht hlc hm hcc hx TL hS hox
      obtain ⟨⟨i1, s1, n1, a1, p1⟩, l1⟩ := x
      simp only [Nat.add_zero] at *
      go_wp2_with (at_builtin; refine wpList_append_lies _ rfl (.tmp 18) (.tmp 24) 44 rfl 0 37 i0 _ 5 32 Try.underlying44 hi0 hz0 hz1 hz2 rfl (by omega) sv (toldTo S i).length ((toldTo S i).map rcs).flatten rfl (erow_keep HR.out ((Below.refl _ _).alloc (Nat.le_refl _) _)) ⟨_, 0, none⟩ 1 1 (rcs ⟨i1, s1, n1, a1, p1⟩) rfl rfl (World.news_of_block (cs := (rcs ⟨i1, s1, n1, a1, p1⟩).toArray) (t := 37) (fr := (0, 0)) (heap_alloc_new _ _)) (rcs_enc.one _) (by omega) (by rw [HTL.out]; unfold maxLen; omega) (by rw [HTL.out]; omega) (Nat.zero_le _) _ rfl ?_)
      intro g1 cap1 w9 hown hgrow hat hlt9
      obtain ⟨q1, q2⟩ := NX.out g1 cap1 _ w9 hown hgrow (hat.imp id (fun h => by rw [h, World.size_alloc]))
      have Q1 := Lib.hid q1
      obtain ⟨-, C, hC, hcap, ht, hlc, hm⟩ := erow_open ci_enc q2
      have d5 := hC.cell i 5 (ci ⟨⟨i1, s1, n1, a1, p1⟩, l1⟩) _ (taken_at ht (low_at HX.out (Nat.le_refl _))) rfl
      have df := hC.free (i * 6 + 5)
      have dl := hC.lt
      clear hown hgrow hat q1 q2 hC hcap ht hlc hm NX c0 c1 c2 c3 c4 HR
      go_wp2
      go_roundw
      case rel => exact ⟨i + 1, hi1, by go_num, Q1.out⟩
      case measure => simp [intOf]; omega
    · obtain rfl : i = c := by omega
      have KD := delF_any 27 enters_some #[] noneI0 ia ic (lowL S i) (by rw [low_len]; omega) wr (by rw [low_len]; exact hS.items) (fun x hx w' hb => someC_any x w')
      rw [low_len] at KD
      obtain ⟨ta, tc, hsv⟩ := erow_sl hS.told
      subst hsv
      have FIN : Hid (∀ w2 n2, ERow ci 6 61 w2 (.slice ia n2 ic) (keepL noneI0 (lowL S i)) → Touch (fun k => (Value.slice ia 0 0).ownBlock = some k) wr w2 → SomePost true 37 g room v S' D w (.returned (.slice ta (toldTo S i).length tc)) (w2.setCell ⟨g, 1, none⟩ (.slice ia n2 ic)) ∧ Cs g (qc true room v) w2) := fun w2 n2 h1 h2 => by
        have hsz := HS.out.below.size
        have B2 : Below w.heap.size w w2 := HS.out.below.trans (h2.below hsz (fun k _ hk => HN.out.2.2 k (own_eq hk)))
        obtain ⟨q1, q2, q3, q4⟩ := put_row_x (v' := ⟨ia, n2, ic⟩) HH.out h1 HKEEP.out B2 (fun b hb => HN.out.2.2 b (own_eq hb)) HOK.out
        have hgt : ∀ b, (Value.slice ta (toldTo S i).length tc).ownBlock = some b → b ≠ g := fun b hb e => by
          have := HS.out.lo b hb; have := HH.out.box.lt; omega
        have hD : D.length = (toldTo S i).length := by rw [HD.out]
        have hT2 : ERow rcs 5 37 (w2.setCell ⟨g, 1, none⟩ (.slice ia n2 ic)) (.slice ta (toldTo S i).length tc) (toldTo S i) :=
          erow_touch (erow_touch HS.out.told h2 (fun b hb e => HS.out.apart b hb (own_eq e))) (Touch.set (F := fun b => b = g) (Touch.refl _ w2) (fun _ => rfl) _) (fun b hb e => hgt b hb e)
        refine ⟨⟨⟨ta, (toldTo S i).length, tc⟩, ⟨ia, n2, ic⟩, by rw [hD], ⟨by rw [HD.out]; exact hT2, hD.symm, fun b hb => HS.out.lo b hb⟩, q1, q2, q3, fun b hb e => ?_⟩, q4⟩
        rcases e with e | e
        · exact hgt b hb e
        · exact HS.out.apart b hb (own_eq e)
      have B1 := Lib.hid (HH.out.keep HS.out.below)
      have x1 := B1.out.box.cell 1 _ rfl
      have gl := B1.out.box.lt
      clear hS x1
      go_wp2_with fail
      refine KD.mono ?_; rintro e w2 ⟨rfl, hr2, ht2⟩
      obtain ⟨F, bx⟩ := FIN.out w2 _ hr2 ht2
      have FF := Lib.hid F
      clear FIN KD hr2 ht2 F gl
      have x1 := bx.cell 1 _ rfl
      have xf := bx.free 1 _ rfl
      have gl := bx.lt
      clear bx
      go_wp2
      go_ret
      exact FF.out
end Go.Proofs.Ythebcaielbnhjaa
