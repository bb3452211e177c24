/- The reference's Due. -/
import Derived.Test.YtplllaafllcigaaDbRefConf
namespace Go.Proofs.Ytplllaafllcigaa
open Go.Sort Go.RowKit Go.BigFrame
set_option linter.unusedVariables false
set_option linter.unusedSimpArgs false

def dueP (now : Int) (p : It × Sl) : Bool := dueB now p.1
def outP (now : Int) (P : List (It × Sl)) : List (It × Sl) := P.filter (dueP now)
def resP (now : Int) (P : List (It × Sl)) : List (It × Sl) := P.filter fun p => !dueP now p
theorem map_filter (f : It → Bool) (P : List (It × Sl)) : (P.filter fun p => f p.1).map Prod.fst = (P.map Prod.fst).filter f := by
  induction P with
  | nil => rfl
  | cons a P ih =>
    rw [List.map_cons, List.filter_cons, List.filter_cons]
    cases h : f a.1 with
    | true => simp [ih]
    | false => simp [ih]
theorem out_is {k : Nat → It} {P : List (It × Sl)} (h : P.map Prod.fst = allL k) (now : Int) : (outP now P).map Prod.fst = dueL k now := by
  rw [due_all, ← h]; exact map_filter (dueB now) P
theorem res_is {k : Nat → It} {P : List (It × Sl)} (h : P.map Prod.fst = allL k) (now : Int) : (resP now P).map Prod.fst = allL (restD k now) := by
  rw [all_rest, ← h]; exact map_filter (fun x => !dueB now x) P
theorem apart_filter (f : It × Sl → Bool) : ∀ (P : List (It × Sl)), Apart P → ∀ p ∈ P.filter f, ∀ q ∈ P.filter (fun x => !f x), ∀ b, p.2.v.ownBlock = some b → q.2.v.ownBlock = some b → False
  | [], _, p, hp, _, _, _, _, _ => by simp at hp
  | a :: P, h, p, hp, q, hq, b, hb, hb2 => by
    obtain ⟨h1, h2⟩ := List.pairwise_cons.1 h
    rw [List.filter_cons] at hp hq
    cases hf : f a with
    | true =>
      rw [hf] at hp hq
      simp only [if_true, Bool.not_true, Bool.false_eq_true, if_false] at hp hq
      rcases List.mem_cons.1 hp with rfl | hp
      · exact h1 q (List.mem_filter.1 hq).1 b hb hb2
      · exact apart_filter f P h2 p hp q hq b hb hb2
    | false =>
      rw [hf] at hp hq
      simp only [if_true, Bool.not_false, Bool.false_eq_true, if_false] at hp hq
      rcases List.mem_cons.1 hq with rfl | hq
      · exact h1 p (List.mem_filter.1 hp).1 b hb2 hb
      · exact apart_filter f P h2 p hp q hq b hb hb2
/-- the two rows on their way -/
structure TwoR (now : Int) (P : List (It × Sl)) (w : World) (j : Nat) (ov rv : Value) (wr : World) : Prop where
  out : ERow cp 5 68 wr ov (outP now (P.take j))
  res : ERow cp 5 68 wr rv (resP now (P.take j))
  on : ∀ b, ov.ownBlock = some b → w.heap.size ≤ b
  rn : ∀ b, rv.ownBlock = some b → w.heap.size ≤ b
  ap : ∀ b, ov.ownBlock = some b → rv.ownBlock = some b → False
  below : Below w.heap.size w wr
theorem out_yes {now : Int} {P : List (It × Sl)} {j : Nat} {p : It × Sl} (hp : P[j]? = some p) (h : dueP now p = true) : outP now (P.take (j + 1)) = outP now (P.take j) ++ [p] ∧ resP now (P.take (j + 1)) = resP now (P.take j) := by
  obtain ⟨hj, e⟩ := List.getElem?_eq_some_iff.1 hp
  rw [List.take_succ_eq_append_getElem hj, e]
  unfold outP resP
  rw [List.filter_append, List.filter_append]
  simp [h]
theorem out_no {now : Int} {P : List (It × Sl)} {j : Nat} {p : It × Sl} (hp : P[j]? = some p) (h : dueP now p = false) : outP now (P.take (j + 1)) = outP now (P.take j) ∧ resP now (P.take (j + 1)) = resP now (P.take j) ++ [p] := by
  obtain ⟨hj, e⟩ := List.getElem?_eq_some_iff.1 hp
  rw [List.take_succ_eq_append_getElem hj, e]
  unfold outP resP
  rw [List.filter_append, List.filter_append]
  simp [h]
theorem TwoR.keep {now : Int} {P : List (It × Sl)} {w w1 w2 : World} {j : Nat} {ov rv : Value} (h : TwoR now P w j ov rv w1) (hb : Below w1.heap.size w1 w2) : TwoR now P w j ov rv w2 :=
  ⟨erow_keep h.out hb, erow_keep h.res hb, h.on, h.rn, h.ap, h.below.trans (hb.mono h.below.size)⟩
theorem TwoR.push_out {now : Int} {P : List (It × Sl)} {w w1 w9 : World} {j : Nat} {ov rv ov' : Value} {p : It × Sl} (h : TwoR now P w j ov rv w1) (hp : P[j]? = some p) (hd : dueP now p = true)
    (hown : w9.ownsRow 0 68 5 ov' ((outP now (P.take j)).length + 1) (((outP now (P.take j)).map cp).flatten ++ cp p)) (hg : w1.grownBy w9 ov.ownBlock) (hat : ∀ b, ov'.ownBlock = some b → ov.ownBlock = some b ∨ b = w1.heap.size) : TwoR now P w (j + 1) ov' rv w9 := by
  obtain ⟨e1, e2⟩ := out_yes hp hd
  have hs := h.below.size
  refine ⟨by rw [e1]; exact erow_snoc rfl hown, ?_, fun b hb => ?_, h.rn, fun b hb hb2 => ?_, h.below.grown hg hs (fun b hb => h.on b hb)⟩
  · rw [e2]
    exact erow_touch (F := fun b => ov.ownBlock = some b) h.res (Touch.of_grown hg (fun k hk => hk)) (fun b hb hb2 => h.ap b hb2 hb)
  · rcases hat b hb with h1 | h1
    · exact h.on b h1
    · omega
  · rcases hat b hb with h1 | h1
    · exact h.ap b h1 hb2
    · have := erow_lt h.res hb2; omega
theorem TwoR.push_res {now : Int} {P : List (It × Sl)} {w w1 w9 : World} {j : Nat} {ov rv rv' : Value} {p : It × Sl} (h : TwoR now P w j ov rv w1) (hp : P[j]? = some p) (hd : dueP now p = false)
    (hown : w9.ownsRow 0 68 5 rv' ((resP now (P.take j)).length + 1) (((resP now (P.take j)).map cp).flatten ++ cp p)) (hg : w1.grownBy w9 rv.ownBlock) (hat : ∀ b, rv'.ownBlock = some b → rv.ownBlock = some b ∨ b = w1.heap.size) : TwoR now P w (j + 1) ov rv' w9 := by
  obtain ⟨e1, e2⟩ := out_no hp hd
  have hs := h.below.size
  refine ⟨?_, by rw [e2]; exact erow_snoc rfl hown, h.on, fun b hb => ?_, fun b hb hb2 => ?_, h.below.grown hg hs (fun b hb => h.rn b hb)⟩
  · rw [e1]
    exact erow_touch (F := fun b => rv.ownBlock = some b) h.out (Touch.of_grown hg (fun k hk => hk)) (fun b hb hb2 => h.ap b hb hb2)
  · rcases hat b hb with h1 | h1
    · exact h.rn b h1
    · omega
  · rcases hat b hb2 with h1 | h1
    · exact h.ap b hb h1
    · have := erow_lt h.out hb; omega
def RDuePost (g : Nat) (u : Sl) (P : List (It × Sl)) (k : Nat → It) (now : Int) (w : World) (e : Ending) (w' : World) : Prop :=
  ∃ (uo ur : Sl) (Po Pr : List (It × Sl)), e = .returned (.slice uo.a uo.n uo.c) ∧ Po.map Prod.fst = dueL k now ∧ IRow 68 w' uo.v Po ∧ Rs g ur Pr (restD k now) w' ∧ Touch (ROwn g u P) w w' ∧ (∀ b, ROwn g ur Pr b → ROwn g u P b ∨ w.heap.size ≤ b) ∧ (∀ b, IOwn uo.v Po b → ROwn g u P b ∨ w.heap.size ≤ b) ∧ ∀ b, IOwn uo.v Po b → ¬ ROwn g ur Pr b
theorem rdue_end {g : Nat} {u ur uo : Sl} {P : List (It × Sl)} {k : Nat → It} {now : Int} {w wr : World} (h : Rs g u P k w) (t : TwoR now P w P.length uo.v ur.v wr) : RDuePost g u P k now w (.returned (.slice uo.a uo.n uo.c)) (wr.setCell ⟨g, 0, none⟩ (.slice ur.a ur.n ur.c)) := by
  have ho := t.out
  have hr := t.res
  rw [List.take_length] at ho hr
  have hk := h.keep t.below
  have inO : ∀ p ∈ outP now P, p ∈ P := fun p hp => (List.mem_filter.1 hp).1
  have inR : ∀ p ∈ resP now P, p ∈ P := fun p hp => (List.mem_filter.1 hp).1
  have io : IRow 68 wr uo.v (outP now P) := ⟨ho, fun p hp => hk.row.who p (inO p hp)⟩
  have ir : IRow 68 wr ur.v (resP now P) := ⟨hr, fun p hp => hk.row.who p (inR p hp)⟩
  have oo : ∀ b, IOwn uo.v (outP now P) b → IOwn u.v P b ∨ w.heap.size ≤ b := by
    rintro b (hb | ⟨p, hp, hb⟩)
    · exact .inr (t.on b hb)
    · exact .inl (.inr ⟨p, inO p hp, hb⟩)
  have og : ∀ b, IOwn uo.v (outP now P) b → b ≠ g := fun b hb e => by
    rcases oo b hb with h1 | h1
    · exact h.ne b h1 e
    · have := h.box.lt; omega
  obtain ⟨q1, q2⟩ := h.put (u' := ur) t.below ir (res_is h.is now) (rest_ok h.ok now) t.rn (fun p hp b hb => .inl ⟨p, inR p hp, hb⟩) (h.ap.sublist List.filter_sublist)
  have tset : Touch (fun b => b = g) wr (wr.setCell ⟨g, 0, none⟩ (.slice ur.a ur.n ur.c)) := Touch.set (F := fun b => b = g) (Touch.refl _ wr) (fun _ => rfl) _
  have hrne : ∀ b, IOwn ur.v (resP now P) b → b ≠ g := by
    rintro b (hb | ⟨p, hp, hb⟩) e
    · have := t.rn b hb; have := h.box.lt; omega
    · exact h.ne b (.inr ⟨p, inR p hp, hb⟩) e
  refine ⟨uo, ur, outP now P, resP now P, rfl, out_is h.is now, io.touch tset (fun b hb e => og b hb e), ⟨?_, ir.touch tset (fun b hb e => hrne b hb e), res_is h.is now, hrne, h.ap.sublist List.filter_sublist, rest_ok h.ok now⟩, ?_, ?_, fun b hb => (oo b hb).imp .inr id, ?_⟩
  · exact q2.set 0 (.slice ur.a ur.n ur.c) (by simp)
  · exact Touch.set (F := ROwn g u P) (Touch.of_below _ t.below) (a := ⟨g, 0, none⟩) (fun _ => .inl rfl) _
  · rintro b (rfl | hb | ⟨p, hp, hb⟩)
    · exact .inl (.inl rfl)
    · exact .inr (t.rn b hb)
    · exact .inl (.inr (.inr ⟨p, inR p hp, hb⟩))
  · rintro b hb (e | hb2 | ⟨q, hq, hb2⟩)
    · exact og b hb e
    · rcases hb with hb | ⟨p, hp, hb⟩
      · exact t.ap b hb hb2
      · exact rows_apart hr (io.who p hp) (by decide) hb2 hb
    · rcases hb with hb | ⟨p, hp, hb⟩
      · exact rows_apart ho (ir.who q hq) (by decide) hb hb2
      · exact apart_filter (dueP now) P h.ap p hp q hq b hb hb2
def RdJ (now : Int) (P : List (It × Sl)) (w : World) (ov rv iv : Value) (wr : World) : Prop := ∃ j : Nat, j ≤ P.length ∧ iv = .int .i64 (j : Nat) ∧ TwoR now P w j ov rv wr
set_option maxHeartbeats 6400000 in
set_option maxRecDepth 100000 in
theorem rdue_any (g : Nat) (now : Int) (u : Sl) (P : List (It × Sl)) (k : Nat → It) (w : World) (h : Rs g u P k w) :
    Calls Try.prog 17 #[.pointer (some ⟨g, 0, none⟩), .int .u64 now] w (RDuePost g u P k now w) := by
  obtain ⟨i0, hi0, hz0, hz1, hz2⟩ := info_parts info_ritem
  have END := Lib.hid (fun (uo ur : Sl) (wr : World) (t : TwoR now P w P.length uo.v ur.v wr) => rdue_end h t)
  have T0 : Hid (TwoR now P w 0 (.slice none 0 0) (.slice none 0 0) w) := by
    refine ⟨?_, ?_, fun b hb => ?_, fun b hb => ?_, fun b hb => ?_, Below.refl _ _⟩
    · rw [List.take_zero]; exact erow_nil
    · rw [List.take_zero]; exact erow_nil
    · simp [Value.ownBlock] at hb
    · simp [Value.ownBlock] at hb
    · simp [Value.ownBlock] at hb
  have hun := h.n
  have hp33 := h.len33
  have HP : Hid (∀ wr, Below w.heap.size w wr → wr.cell? ⟨g, 0, none⟩ = some (.slice u.a u.n u.c) ∧ g < wr.heap.size) := fun wr hb => ⟨(h.keep hb).box.cell 0 _ rfl, (h.keep hb).box.lt⟩
  have FZ : Hid (∀ wr, Below w.heap.size w wr → wr.frozen? ⟨g, 0, none⟩ = false) := fun wr hb => (h.keep hb).box.free 0 _ rfl
  have HC : Hid (∀ wr, Below w.heap.size w wr → ∀ j p, P[j]? = some p → ∃ b, u.a = some ⟨b, 0, none⟩ ∧ ∀ t v, (cp p)[t]? = some v → wr.cell? ⟨b, j * 5 + t, none⟩ = some v) := fun wr hb j p hp => by
    obtain ⟨b, h1, _, h2⟩ := (h.keep hb).cells hp
    exact ⟨b, h1, h2⟩
  have HN : Hid (∀ p ∈ P, susp p.1 = true ∧ NumI p.1 ∧ p.2.n = p.1.who.length) := fun p hp => by
    have hm : p.1 ∈ allL k := by rw [← h.is]; exact List.mem_map_of_mem hp
    obtain ⟨i, _, _, e, hs⟩ := mem_all h.ok hm
    refine ⟨by rw [e]; exact hs, by rw [e]; exact h.ok.num i, erow_n (h.row.who p hp)⟩
  clear h
  obtain ⟨av, un, uc⟩ := u
  simp only at hun
  subst hun
  have hl2 : (P.length : Int) ≤ 33 := by omega
  go_enter Try.func17, Try.ntmps17
  go_wp2_with fail
  go_loopw [5, 6, 7] (fun ov rv iv wr => RdJ now P w ov rv iv wr) (fun _ _ iv _ => P.length - (intOf iv).toNat)
  case atStart => exact ⟨0, Nat.zero_le _, rfl, T0.out⟩
  case round =>
    obtain ⟨j, hj, rfl, ht⟩ := hrel
    clear T0
    generalize u5 = ov at *
    generalize u6 = rv at *
    have HT := Lib.hid ht
    have hj0 : (0 : Int) ≤ j := by omega
    obtain ⟨g0, gl⟩ := HP.out wr ht.below
    clear ht
    by_cases hlt : j < P.length
    · have hlt2 : (j : Int) < P.length := by omega
      obtain ⟨p, hx⟩ : ∃ p, P[j]? = some p := ⟨_, List.getElem?_eq_getElem hlt⟩
      have HJ1 : Hid (j + 1 ≤ P.length) := hlt
      obtain ⟨hsu, hnum, hsn⟩ := HN.out _ (List.mem_of_getElem? hx)
      obtain ⟨b, hb, cc⟩ := HC.out wr HT.out.below j _ hx
      try simp only at hb
      subst hb
      have KU := runtil_any p.1 p.2 hsn hnum
      have PO := Lib.hid (fun (w1 w9 : World) (ov' : Value) (t : TwoR now P w j ov rv w1) => t.push_out (ov' := ov') (w9 := w9) hx)
      have PR := Lib.hid (fun (w1 w9 : World) (rv' : Value) (t : TwoR now P w j ov rv w1) => t.push_res (rv' := rv') (w9 := w9) hx)
      have HD : Hid (dueP now p = decide (untilI p.1 ≤ now)) := by
        show _ = _
        unfold dueP dueB
        rw [hsu, Bool.true_and]
      have HX := Lib.hid hx
      have hol : Hid ((outP now (P.take j)).length ≤ 33) := by
        have h1 : (outP now (P.take j)).length ≤ (P.take j).length := List.length_filter_le _ _
        rw [List.length_take] at h1
        show _ ≤ _; omega
      have hrl : Hid ((resP now (P.take j)).length ≤ 33) := by
        have h1 : (resP now (P.take j)).length ≤ (P.take j).length := List.length_filter_le _ _
        rw [List.length_take] at h1
        show _ ≤ _; omega
      have HCC : Hid (∀ w1, Below wr.heap.size wr w1 → w1.cell? ⟨b, j * 5, none⟩ = some (.int .i64 p.1.id) ∧ w1.cell? ⟨b, j * 5 + 1, none⟩ = some (.int .u32 p.1.inc) ∧ w1.cell? ⟨b, j * 5 + 2, none⟩ = some (.int .u64 p.1.since) ∧ w1.cell? ⟨b, j * 5 + 3, none⟩ = some (.int .u64 p.1.hold) ∧ w1.cell? ⟨b, j * 5 + 4, none⟩ = some (.slice p.2.a p.2.n p.2.c) ∧ w1.cell? ⟨g, 0, none⟩ = some (.slice (some ⟨b, 0, none⟩) P.length uc) ∧ g < w1.heap.size) := fun w1 b1 => by
        have bb := HT.out.below.trans (b1.mono HT.out.below.size)
        obtain ⟨b', h1, h2⟩ := HC.out w1 bb j _ hx
        obtain rfl : b = b' := by
          have h3 : some (⟨b, 0, none⟩ : Addr) = some ⟨b', 0, none⟩ := h1
          simpa using h3
        exact ⟨h2 0 _ rfl, h2 1 _ rfl, h2 2 _ rfl, h2 3 _ rfl, h2 4 _ rfl, (HP.out w1 bb).1, (HP.out w1 bb).2⟩
      obtain ⟨c0, c1, c2, c3, c4, -, -⟩ := HCC.out wr (Below.refl _ _)
      clear cc hx hsu hnum hsn hlt
      obtain ⟨x, s⟩ := p
      try simp only at c0 c1 c2 c3 c4 KU HCC HD
      generalize hU : untilI x = U at *
      clear hU
      generalize hPo : outP now (P.take j) = Po at *
      generalize hPr : resP now (P.take j) = Pr at *
      have OUT : Hid (ERow cp 5 68 wr ov Po) := by have := HT.out.out; rw [hPo] at this; exact this
      have RES : Hid (ERow cp 5 68 wr rv Pr) := by have := HT.out.res; rw [hPr] at this; exact this
      clear hPo hPr
      go_wp2_with fail
      refine (KU _).mono ?_; rintro e w1 ⟨rfl, b1⟩
      clear KU c0 c1 c2 c3 c4 g0 gl
      obtain ⟨c0, c1, c2, c3, c4, g0, gl⟩ := HCC.out w1 b1
      have HB1 := Lib.hid b1
      have T1 := Lib.hid (HT.out.keep b1)
      clear b1
      by_cases hd : U ≤ now
      · have hd2 : decide (U ≤ now) = true := decide_eq_true hd
        have HDT : Hid (dueP now (x, s) = true) := by show _ = _; rw [HD.out, hd2]
        clear hd HD PR
        have hol2 := hol.out
        go_wp2_with (at_builtin; refine wpList_append_lies _ rfl (.tmp 27) (.tmp 35) 27 rfl 0 68 i0 _ 5 56 Try.underlying27 hi0 hz0 hz1 hz2 rfl (by omega) ov Po.length (Po.map cp).flatten rfl (erow_keep OUT.out ((HB1.out).alloc HB1.out.size _)) ⟨_, 0, none⟩ 1 1 (ci x s) rfl rfl (World.news_of_block (cs := (ci x s).toArray) (t := 68) (fr := (0, 0)) (heap_alloc_new _ _)) (ci_ones _ _) (by omega) ?c2 ?c3 ?c4 _ rfl ?_)
        case c2 => unfold maxLen; omega
        case c3 => omega
        case c4 => exact Nat.zero_le _
        intro g1 cap1 w9 hown hgrow hat hlt9
        have FT := Lib.hid (PO.out _ w9 (.slice (some ⟨g1, 0, none⟩) (Po.length + 1) cap1) (T1.out.keep ((Below.refl _ w1).alloc (Nat.le_refl _) _)) HDT.out hown hgrow (fun c hc => by
          obtain rfl : g1 = c := by injection hc
          exact hat.imp id (fun e => by rw [World.size_alloc]; exact e)))
        clear hown hgrow hat hlt9 c0 c1 c2 c3 c4 g0 gl hol2
        go_wp2
        go_roundw
        case rel => exact ⟨j + 1, HJ1.out, by go_num, FT.out⟩
        case measure => have := HJ1.out; simp [intOf]; omega
      · have hd2 : decide (U ≤ now) = false := decide_eq_false hd
        have HDT : Hid (dueP now (x, s) = false) := by show _ = _; rw [HD.out, hd2]
        clear hd HD PO
        have hrl2 := hrl.out
        go_wp2_with (at_builtin; refine wpList_append_lies _ rfl (.tmp 37) (.tmp 45) 27 rfl 0 68 i0 _ 5 56 Try.underlying27 hi0 hz0 hz1 hz2 rfl (by omega) rv Pr.length (Pr.map cp).flatten rfl (erow_keep RES.out ((HB1.out).alloc HB1.out.size _)) ⟨_, 0, none⟩ 1 1 (ci x s) rfl rfl (World.news_of_block (cs := (ci x s).toArray) (t := 68) (fr := (0, 0)) (heap_alloc_new _ _)) (ci_ones _ _) (by omega) ?c2 ?c3 ?c4 _ rfl ?_)
        case c2 => unfold maxLen; omega
        case c3 => omega
        case c4 => exact Nat.zero_le _
        intro g1 cap1 w9 hown hgrow hat hlt9
        have FT := Lib.hid (PR.out _ w9 (.slice (some ⟨g1, 0, none⟩) (Pr.length + 1) cap1) (T1.out.keep ((Below.refl _ w1).alloc (Nat.le_refl _) _)) HDT.out hown hgrow (fun c hc => by
          obtain rfl : g1 = c := by injection hc
          exact hat.imp id (fun e => by rw [World.size_alloc]; exact e)))
        clear hown hgrow hat hlt9 c0 c1 c2 c3 c4 g0 gl hrl2
        go_wp2
        go_roundw
        case rel => exact ⟨j + 1, HJ1.out, by go_num, FT.out⟩
        case measure => have := HJ1.out; simp [intOf]; omega
    · obtain rfl : j = P.length := by omega
      obtain ⟨⟨oa, on, oc⟩, ho⟩ := sl_of HT.out.out
      obtain ⟨⟨ra, rn, rc⟩, hr⟩ := sl_of HT.out.res
      obtain rfl : ov = .slice oa on oc := ho
      obtain rfl : rv = .slice ra rn rc := hr
      have F := Lib.hid (END.out ⟨oa, on, oc⟩ ⟨ra, rn, rc⟩ wr HT.out)
      have gf : wr.frozen? ⟨g, 0, none⟩ = false := FZ.out wr HT.out.below
      clear hlt HT
      go_wp2
      refine bodyPost_ret (v := (.slice oa on oc)) (by simp [results, Try.results17, go_sem, *]) rfl ?_
      exact F.out
end Go.Proofs.Ytplllaafllcigaa
