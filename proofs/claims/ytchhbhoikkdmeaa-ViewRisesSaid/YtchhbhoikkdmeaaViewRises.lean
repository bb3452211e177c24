/- ViewRises: what is known only rises; each event tells a state that was known, and another one that is; the last event of one is what it is: for every list of things. -/
import Derived.Test.YtchhbhoikkdmeaaViRows
namespace Go.Proofs.Ytchhbhoikkdmeaa
open Go.Sort Go.RowKit Go.BigFrame Go.ChangeShapes Go.WideShapes Go.ChangeAt
open Go.ChangeMaps (open_string shut_string)
set_option linter.unusedVariables false
set_option linter.unusedSimpArgs false

/-- what the law keeps of its view -/
structure RsI (n : Nat) (v : Vw) : Prop where
  E : v.E.length ≤ n
  six : ∀ i : Nat, knows v i = true → i ≤ 6
  ok : OkV v
theorem rs_start : RsI 0 newV := ⟨Nat.le_refl _, fun i h => (by rw [knows_new] at h; cases h), new_ok⟩
theorem knows_take {v : Vw} {r : Rec} {i : Nat} (h : knows (takeV v r) i = true) : knows v i = true ∨ (i : Int) = r.id := by
  cases ht : turns v r with
  | false => rw [take_no ht] at h; exact .inl h
  | true =>
    rw [take_yes ht] at h
    have hin := right_in (turns_right ht)
    rw [knowsN_iff] at h
    by_cases he : i = r.id.toNat
    · right; omega
    · left
      rw [knowsN_iff]
      have : (upd v.k r.id.toNat r i).right = true := h.2.2
      rw [upd_ne he] at this
      exact ⟨h.1, h.2.1, this⟩
theorem rs_step {n : Nat} {v : Vw} (h : RsI n v) {r : Rec} (hr : r.Ok) (h6 : r.id ≤ 6) : RsI (n + 1) (takeV v r) :=
  ⟨by have := take_len v r; have := h.E; omega, fun i hi => by
    rcases knows_take hi with h1 | h1
    · exact h.six i h1
    · omega, take_ok h.ok hr⟩
theorem known_zero (v : Vw) (m : Nat) : (knownTo v (m + 1)).length ≤ m := by
  induction m with
  | zero =>
    have h : knows v (0 : Nat) = false := by
      cases hk : knows v (0 : Nat) with
      | false => rfl
      | true => rw [knowsN_iff] at hk; omega
    rw [known_no h]; exact Nat.le_refl _
  | succ m ih =>
    cases hk : knows v ((m + 1 : Nat) : Int) with
    | true => rw [known_yes hk, List.length_append]; simp; exact ih
    | false => rw [known_no hk]; omega
theorem rs_six {n : Nat} {v : Vw} (h : RsI n v) : (membersV v).length ≤ 6 := by
  have h3 : ∀ d, (knownTo v (6 + d + 1)).length ≤ 6 := by
    intro d
    induction d with
    | zero => exact known_zero v 6
    | succ d ih =>
      have hk : knows v ((6 + d + 1 : Nat) : Int) = false := by
        cases hk : knows v ((6 + d + 1 : Nat) : Int) with
        | false => rfl
        | true => have := h.six _ hk; omega
      rw [show 6 + (d + 1) + 1 = 6 + d + 1 + 1 by omega, known_no hk]; exact ih
  have := h3 26
  unfold membersV; rw [List.length_map]; exact this
theorem last_at (E : List Ev) (x : Ev) : ∃ l, (lastE (E ++ [x])).length = l + 1 ∧ (lastE (E ++ [x]))[l]? = some x := by
  unfold lastE
  rw [List.length_append, List.length_drop, List.length_append, List.length_cons, List.length_nil]
  refine ⟨E.length - (E.length + 1 - 128), by omega, ?_⟩
  rw [List.getElem?_drop, List.getElem?_append_right (by omega)]
  rw [show E.length + (0 + 1) - 128 + (E.length - (E.length + 1 - 128)) - E.length = 0 by omega]; rfl
theorem knows_turned {v : Vw} {r : Rec} (ht : turns v r = true) : knows (takeV v r) r.id = true ∧ ofV (takeV v r) r.id = r := by
  have hin := right_in (turns_right ht)
  have hk : knows (takeV v r) r.id = true := by
    rw [take_yes ht, knows_iff]
    refine ⟨hin.1, hin.2, ?_⟩
    show (upd v.k r.id.toNat r r.id.toNat).right = true
    rw [upd_same]; exact turns_right ht
  refine ⟨hk, ?_⟩
  rw [of_yes hk, take_yes ht]
  exact upd_same _ _ _
/-- the four ways that a record is taken -/
theorem rs_ways {v : Vw} (hv : OkV v) {r : Rec} (hr : r.right = true) :
    (knows v r.id = false ∧ turns v r = true ∧ (takeV v r).E = v.E ++ [⟨r.id, -1, r.st, r.n⟩]) ∨
    (∃ o : Rec, o.Ok ∧ knows v r.id = true ∧ ofV v r.id = o ∧ turns v r = false ∧ takeV v r = v ∧ 0 ≤ ordR o o ∧ 0 ≤ ordR o r) ∨
    (∃ o : Rec, o.Ok ∧ knows v r.id = true ∧ ofV v r.id = o ∧ turns v r = true ∧ (takeV v r).E = v.E ∧ r.st = o.st ∧ 0 ≤ ordR r o) ∨
    (∃ o : Rec, o.Ok ∧ knows v r.id = true ∧ ofV v r.id = o ∧ turns v r = true ∧ (takeV v r).E = v.E ++ [⟨r.id, o.st, r.st, r.n⟩] ∧ ¬ o.st = r.st ∧ 0 ≤ ordR r o) := by
  have hst := right_st hr
  cases hk : knows v r.id with
  | false =>
    have ht := turns_new (v := v) hr hk
    refine .inl ⟨rfl, ht, ?_⟩
    rw [take_yes ht]
    show noteE v r = _
    rw [note_yes (by rw [was_no hk]; omega)]
    unfold evV; rw [was_no hk]
  | true =>
    right
    have hof := of_yes hk
    have ht := turns_old (v := v) hr hk
    have hso : sameR (v.k r.id.toNat) (v.k r.id.toNat) := ⟨rfl, rfl, rfl, rfl⟩
    cases hq : turns v r with
    | false =>
      rw [hq] at ht
      refine .inl ⟨v.k r.id.toNat, hv.ok _, rfl, hof, rfl, take_no hq, by rw [ordR_same _ _ hso]; omega, ?_⟩
      refine ordR_ge fun hl => ?_
      have : overR r (v.k r.id.toNat) = true := by unfold overR; rw [decide_eq_true_eq, ordR_gt]; exact hl
      rw [this] at ht; cases ht
    | true =>
      rw [hq] at ht
      have hlt : 0 ≤ ordR r (v.k r.id.toNat) := by
        have h1 := ht.symm
        unfold overR at h1
        rw [decide_eq_true_eq] at h1
        omega
      right
      by_cases hs : r.st = (v.k r.id.toNat).st
      · refine .inl ⟨v.k r.id.toNat, hv.ok _, rfl, hof, rfl, ?_, hs, hlt⟩
        rw [take_yes hq]
        exact note_no (by rw [was_yes hk]; exact hs)
      · refine .inr ⟨v.k r.id.toNat, hv.ok _, rfl, hof, rfl, ?_, fun e => hs e.symm, hlt⟩
        rw [take_yes hq]
        show noteE v r = _
        rw [note_yes (by rw [was_yes hk]; exact hs)]
        unfold evV; rw [was_yes hk]
def RsPost (w : World) (e : Ending) (w' : World) : Prop := e = .returned (.bool true) ∧ Below w.heap.size w w'
def RsJ (m : Nat) (w0 : World) (g : Nat) (iv : Value) (wr : World) : Prop := ∃ (i : Nat) (v : Vw), iv = .int .i64 (i : Nat) ∧ i ≤ m ∧ RsI i v ∧ LS w0 [(g, v)] [] wr
theorem ord_at {a b : Rec} {o : Int} (h : ordR a b = o) (ha : a.Ok) (hb : b.Ok) (w : World) : Calls Try.prog 28 #[.agg #[.int .i64 a.id, .int .i64 a.st, .int .u32 a.n, .int .u32 a.ip, .int .u16 a.port], .agg #[.int .i64 b.id, .int .i64 b.st, .int .u32 b.n, .int .u32 b.ip, .int .u16 b.port]] w fun e w' => e = .returned (.int .i64 o) ∧ Below w.heap.size w w' := by
  rw [← h]; exact order_rec a b ha hb w
set_option maxHeartbeats 12800000 in
set_option maxRecDepth 20000 in
theorem rises_walk (a : Option Addr) (len cap m : Nat) (T : List Th) (w : World) (hm : m = min len 60) (hT : T.length = m) (hr : RdE tcs 6 w a T) (hok : ∀ t ∈ T, t.r.Ok) (hlen : len ≤ 9223372036854775807) :
    Calls Try.prog 5 #[.slice a len cap] w (RsPost w) := by
  have K0 := ex_any w
  have HR := Lib.hid hr
  have HOK := Lib.hid hok
  have hl2 : (len : Int) ≤ 9223372036854775807 := by omega
  have HT := Lib.hid hT
  have hm60 : m ≤ 60 := by omega
  have hml : m ≤ len := by omega
  have HM := Lib.hid hm
  clear hr hok hm hT
  go_enter Try.func5, Try.ntmps5
  go_wp2_with fail
  refine K0.mono ?_; rintro e w1 ⟨rfl, b1⟩
  have K := new_l (LS.start w w1 b1)
  clear K0 b1
  go_wp2_with fail
  refine K.mono ?_; rintro e w2 ⟨g, rfl, h⟩
  have S0 : Hid (RsJ m w g (.int .i64 0) w2) := ⟨0, newV, rfl, Nat.zero_le _, rs_start, h⟩
  clear K h
  go_wp2_with fail
  go_loopw [5] (fun iv wr => RsJ m w g iv wr) (fun iv _ => 100 - (intOf iv).toNat)
  case atStart => exact S0.out
  case round =>
    obtain ⟨i, v, rfl, hi, hI, h⟩ := hrel
    clear S0
    have hi0' : (0 : Int) ≤ i := by omega
    by_cases hlt : i < m
    · have hlt' : (i : Int) < len := by omega
      have hlt2 : (i : Int) < 60 := by omega
      obtain ⟨t, hx⟩ : ∃ t, T[i]? = some t := ⟨_, List.getElem?_eq_getElem (by rw [HT.out]; exact hlt)⟩
      have ht := HOK.out t (List.mem_of_getElem? hx)
      obtain ⟨b, off, rfl, hbl, hcc⟩ := (HR.out.keep h.below) (by rw [HT.out]; omega)
      have c0 := hcc i _ hx 0 _ rfl
      have c1 := hcc i _ hx 1 _ rfl
      have c2 := hcc i _ hx 2 _ rfl
      have c3 := hcc i _ hx 3 _ rfl
      have c4 := hcc i _ hx 4 _ rfl
      have c5 := hcc i _ hx 5 _ rfl
      simp only [Nat.add_zero] at c0
      have K := thing_own t.r ht
      have hYok := Lib.hid (ownR_ok t.r)
      have hYid := (ownR_in t.r).2
      have hYr := Lib.hid (ownR_right t.r)
      have HI : Hid (i + 1 ≤ m) := hlt
      have HI2 := Lib.hid (rs_step hI hYok.out hYid)
      have W := rs_ways hI.ok hYr.out
      have hEl : v.E.length ≤ 60 := by have := hI.E; omega
      have BX := Lib.hid (h.alloc (.cells #[.int .i64 t.r.id, .int .i64 t.r.st, .int .u32 t.r.n, .int .u32 t.r.ip, .int .u16 t.r.port, .bool true] 39))
      have X0 := Cs.new wr [.int .i64 t.r.id, .int .i64 t.r.st, .int .u32 t.r.n, .int .u32 t.r.ip, .int .u16 t.r.port, .bool true] 39
      have x0 := X0.cell 0 _ rfl
      have x1 := X0.cell 1 _ rfl
      have x2 := X0.cell 2 _ rfl
      have x3 := X0.cell 3 _ rfl
      have x4 := X0.cell 4 _ rfl
      have x5 := X0.cell 5 _ rfl
      have xl := X0.lt
      have HE := Lib.hid hYid
      clear hcc h X0 hx ht hI hYid
      generalize ownR t.r = y at *
      obtain ⟨r, own⟩ := t
      simp only at *
      obtain ⟨V, hV⟩ : ∃ V, takeV v y = V := ⟨_, rfl⟩
      have HVV := Lib.hid hV
      rw [hV] at HI2 W
      clear hV
      go_upto_region 12 with fail
      clear c0 c1 c2 c3 c4 c5 hbl
      generalize (wr.alloc (.cells #[.int .i64 r.id, .int .i64 r.st, .int .u32 r.n, .int .u32 r.ip, .int .u16 r.port, .bool true] 39)) = wb at *
      go_wp2_with fail
      refine (K _).mono ?_; rintro e w4 ⟨rfl, b4⟩
      have h := BX.out.keep b4
      have h : LS w [(g, v)] [bR w4.heap.size y] (w4.alloc (.cells #[.int .i64 y.id, .int .i64 y.st, .int .u32 y.n, .int .u32 y.ip, .int .u16 y.port] 37)) := h.box y
      have H := Lib.hid h
      clear K b4 BX x0 x1 x2 x3 x4 x5 xl h
      go_upto_region 13 with fail
      generalize (w4.alloc (.cells #[.int .i64 y.id, .int .i64 y.st, .int .u32 y.n, .int .u32 y.ip, .int .u16 y.port] 37)) = w5 at *
      generalize w4.heap.size = ry at *
      have hE1 := Lib.hid hEl
      have hn1 : (v.E.length : Int) ≤ 60 := by omega
      have hw1 := IntWalk.u64_in ((v.E.length : Int) + 1) ⟨by omega, by omega⟩
      have hn0 : (0 : Int) ≤ v.E.length := by omega
      rcases W with ⟨hk, htu, hE⟩ | ⟨o, ho, hk, hof, htu, hVe, ho1, ho2⟩ | ⟨o, ho, hk, hof, htu, hE, hst, hle⟩ | ⟨o, ho, hk, hof, htu, hE, hne, hle⟩
      · skip
        have EV := Lib.hid hE
        have hKO : knows v y.id = false ∧ ofV v y.id = zRec := ⟨hk, of_no hk⟩
        have hKN : knows V y.id = true ∧ ofV V y.id = y := by rw [← HVV.out]; exact knows_turned htu
        have hn' : V.E.length = v.E.length + 1 := by rw [hE, List.length_append]; rfl
        obtain ⟨l, hl1, hlx⟩ := last_at v.E ⟨y.id, -1, y.st, y.n⟩
        rw [← hE] at hl1 hlx
        have hl9 : l < 128 := by have := last_len V.E; omega
        obtain ⟨q2, hq2⟩ : ∃ q, ordR y y = q := ⟨_, rfl⟩
        have O2 := Lib.hid (ord_at hq2 hYok.out hYok.out)
        have hq2n : ¬ q2 < 0 := by have := ordR_same y y ⟨rfl, rfl, rfl, rfl⟩; omega
        have HKO := Lib.hid hKO
        have HKN := Lib.hid hKN
        have HNN := Lib.hid hn'
        have HTU := Lib.hid htu
        have HL1 := Lib.hid hl1
        have HLX := Lib.hid hlx
        clear hKO hKN hn' hk htu hq2 hE hl1 hlx 
        have h := H.out
        have y0 := (h.cells (b := ry) (r := y) (by simp)).1 0 _ rfl
        have yl := (h.cells (b := ry) (r := y) (by simp)).2
        have K := of_l y.id [] [] h
        rw [HKO.out.1, HKO.out.2] at K
        clear h H
        go_wp2_with fail
        refine K.mono ?_; rintro e w6 ⟨rfl, h⟩
        have h : LS w [(g, v)] [bR w6.heap.size zRec, bR ry y] (w6.alloc (.cells #[.int .i64 zRec.id, .int .i64 zRec.st, .int .u32 zRec.n, .int .u32 zRec.ip, .int .u16 zRec.port] 37)) := LS.box (R := [bR ry y]) h zRec
        have H := Lib.hid h
        clear K y0 yl h
        go_upto_region 14 with fail
        generalize (w6.alloc (.cells #[.int .i64 zRec.id, .int .i64 zRec.st, .int .u32 zRec.n, .int .u32 zRec.ip, .int .u16 zRec.port] 37)) = w7 at *
        generalize w6.heap.size = ro at *
        have K := seen_l [] [] H.out
        go_wp2_with fail
        refine K.mono ?_; rintro e w8 ⟨rfl, rfl⟩
        clear K
        have h := H.out
        have y0 := (h.cells (b := ry) (r := y) (by simp)).1 0 _ rfl
        have y1 := (h.cells (b := ry) (r := y) (by simp)).1 1 _ rfl
        have y2 := (h.cells (b := ry) (r := y) (by simp)).1 2 _ rfl
        have y3 := (h.cells (b := ry) (r := y) (by simp)).1 3 _ rfl
        have y4 := (h.cells (b := ry) (r := y) (by simp)).1 4 _ rfl
        have yl := (h.cells (b := ry) (r := y) (by simp)).2
        have K := take_l y hYok.out [] [] h (by have := hE1.out; omega)
        rw [HTU.out, err_ok hYr.out, HVV.out] at K
        clear H h
        go_wp2_with fail
        refine K.mono ?_; rintro e w9 ⟨rfl, h⟩
        have h : LS w [(g, V)] [bR ro zRec, bR ry y] w9 := h
        clear K y0 y1 y2 y3 y4 yl
        have y0 := (h.cells (b := ry) (r := y) (by simp)).1 0 _ rfl
        have yl := (h.cells (b := ry) (r := y) (by simp)).2
        have K := of_l y.id [] [] h
        rw [HKN.out.1, HKN.out.2] at K
        clear h
        go_wp2_with fail
        refine K.mono ?_; rintro e wa ⟨rfl, h⟩
        have h : LS w [(g, V)] [bR wa.heap.size y, bR ro zRec, bR ry y] (wa.alloc (.cells #[.int .i64 y.id, .int .i64 y.st, .int .u32 y.n, .int .u32 y.ip, .int .u16 y.port] 37)) := LS.box (R := [bR ro zRec, bR ry y]) h y
        have H := Lib.hid h
        clear K y0 yl h
        go_upto_region 17 with fail
        generalize (wa.alloc (.cells #[.int .i64 y.id, .int .i64 y.st, .int .u32 y.n, .int .u32 y.ip, .int .u16 y.port] 37)) = wc at *
        generalize wa.heap.size = rn at *
        have h := H.out
        have y0 := (h.cells (b := ry) (r := y) (by simp)).1 0 _ rfl
        have y1 := (h.cells (b := ry) (r := y) (by simp)).1 1 _ rfl
        have y2 := (h.cells (b := ry) (r := y) (by simp)).1 2 _ rfl
        have y3 := (h.cells (b := ry) (r := y) (by simp)).1 3 _ rfl
        have y4 := (h.cells (b := ry) (r := y) (by simp)).1 4 _ rfl
        have yl := (h.cells (b := ry) (r := y) (by simp)).2
        have o0 := (h.cells (b := ro) (r := zRec) (by simp)).1 0 _ rfl
        have o1 := (h.cells (b := ro) (r := zRec) (by simp)).1 1 _ rfl
        have o2 := (h.cells (b := ro) (r := zRec) (by simp)).1 2 _ rfl
        have o3 := (h.cells (b := ro) (r := zRec) (by simp)).1 3 _ rfl
        have o4 := (h.cells (b := ro) (r := zRec) (by simp)).1 4 _ rfl
        have ol := (h.cells (b := ro) (r := zRec) (by simp)).2
        have n0 := (h.cells (b := rn) (r := y) (by simp)).1 0 _ rfl
        have n1 := (h.cells (b := rn) (r := y) (by simp)).1 1 _ rfl
        have n2 := (h.cells (b := rn) (r := y) (by simp)).1 2 _ rfl
        have n3 := (h.cells (b := rn) (r := y) (by simp)).1 3 _ rfl
        have n4 := (h.cells (b := rn) (r := y) (by simp)).1 4 _ rfl
        have nl := (h.cells (b := rn) (r := y) (by simp)).2
        clear h
        go_wp2_with fail
        refine (O2.out _).mono ?_; rintro e we ⟨rfl, be⟩
        replace H := Lib.hid (H.out.keep be)
        clear y0 y1 y2 y3 y4 yl o0 o1 o2 o3 o4 ol n0 n1 n2 n3 n4 nl O2 be
        have h := H.out
        have y0 := (h.cells (b := ry) (r := y) (by simp)).1 0 _ rfl
        have y1 := (h.cells (b := ry) (r := y) (by simp)).1 1 _ rfl
        have y2 := (h.cells (b := ry) (r := y) (by simp)).1 2 _ rfl
        have y3 := (h.cells (b := ry) (r := y) (by simp)).1 3 _ rfl
        have y4 := (h.cells (b := ry) (r := y) (by simp)).1 4 _ rfl
        have yl := (h.cells (b := ry) (r := y) (by simp)).2
        have o0 := (h.cells (b := ro) (r := zRec) (by simp)).1 0 _ rfl
        have o1 := (h.cells (b := ro) (r := zRec) (by simp)).1 1 _ rfl
        have o2 := (h.cells (b := ro) (r := zRec) (by simp)).1 2 _ rfl
        have o3 := (h.cells (b := ro) (r := zRec) (by simp)).1 3 _ rfl
        have o4 := (h.cells (b := ro) (r := zRec) (by simp)).1 4 _ rfl
        have ol := (h.cells (b := ro) (r := zRec) (by simp)).2
        have n0 := (h.cells (b := rn) (r := y) (by simp)).1 0 _ rfl
        have n1 := (h.cells (b := rn) (r := y) (by simp)).1 1 _ rfl
        have n2 := (h.cells (b := rn) (r := y) (by simp)).1 2 _ rfl
        have n3 := (h.cells (b := rn) (r := y) (by simp)).1 3 _ rfl
        have n4 := (h.cells (b := rn) (r := y) (by simp)).1 4 _ rfl
        have nl := (h.cells (b := rn) (r := y) (by simp)).2
        clear h
        have K := seen_l [] [] H.out
        rw [HNN.out, show (((v.E.length + 1 : Nat) : Int)) = (v.E.length : Int) + 1 by omega] at K
        have KE := fun wx R (hx : LS w [(g, V)] R wx) => events_l [] [] hx (by rw [HNN.out]; have := hE1.out; omega)
        rw [HL1.out] at KE
        replace KE := Lib.hid KE
        generalize hen : v.E.length = en at *
        go_wp2_with fail
        refine K.mono ?_; rintro e wf ⟨rfl, rfl⟩
        clear K
        have K := KE.out wf _ H.out
        clear KE hen
        go_wp2_with fail
        refine K.mono ?_; rintro e wg ⟨ue, rfl, h⟩
        have h : LS w [(g, V)] [iE ue (lastE V.E), bR rn y, bR ro zRec, bR ry y] wg := h
        replace H := Lib.hid h
        clear K h y0 y1 y2 y3 y4 yl o0 o1 o2 o3 o4 ol n0 n1 n2 n3 n4 nl
        have HF := Lib.hid H.out.drop
        obtain ⟨be, offe, hbe, hble, hce⟩ := (H.out.rdE (u := ue) (L := lastE V.E) (by simp)) (by rw [HL1.out]; omega)
        have e0 := hce l _ HLX.out 0 _ rfl
        have e1 := hce l _ HLX.out 1 _ rfl
        have e2 := hce l _ HLX.out 2 _ rfl
        have e3 := hce l _ HLX.out 3 _ rfl
        simp only [Nat.add_zero] at e0
        obtain ⟨ea, en', ec⟩ := ue
        simp only at hbe
        subst hbe
        clear hce HLX
        have h := H.out
        have y0 := (h.cells (b := ry) (r := y) (by simp)).1 0 _ rfl
        have y1 := (h.cells (b := ry) (r := y) (by simp)).1 1 _ rfl
        have y2 := (h.cells (b := ry) (r := y) (by simp)).1 2 _ rfl
        have y3 := (h.cells (b := ry) (r := y) (by simp)).1 3 _ rfl
        have y4 := (h.cells (b := ry) (r := y) (by simp)).1 4 _ rfl
        have yl := (h.cells (b := ry) (r := y) (by simp)).2
        have o0 := (h.cells (b := ro) (r := zRec) (by simp)).1 0 _ rfl
        have o1 := (h.cells (b := ro) (r := zRec) (by simp)).1 1 _ rfl
        have o2 := (h.cells (b := ro) (r := zRec) (by simp)).1 2 _ rfl
        have o3 := (h.cells (b := ro) (r := zRec) (by simp)).1 3 _ rfl
        have o4 := (h.cells (b := ro) (r := zRec) (by simp)).1 4 _ rfl
        have ol := (h.cells (b := ro) (r := zRec) (by simp)).2
        have n0 := (h.cells (b := rn) (r := y) (by simp)).1 0 _ rfl
        have n1 := (h.cells (b := rn) (r := y) (by simp)).1 1 _ rfl
        have n2 := (h.cells (b := rn) (r := y) (by simp)).1 2 _ rfl
        have n3 := (h.cells (b := rn) (r := y) (by simp)).1 3 _ rfl
        have n4 := (h.cells (b := rn) (r := y) (by simp)).1 4 _ rfl
        have nl := (h.cells (b := rn) (r := y) (by simp)).2
        clear h
        have hll : (((l + 1 : Nat) : Int)) = (l : Int) + 1 := by omega
        have hl0 : (0 : Int) ≤ l := by omega
        have hl128 : (l : Int) < 128 := by omega
        have hlz : ((l : Int) + 1 == 0) = false := by rw [beq_eq_false_iff_ne]; omega
        clear H
        have X0 := Cs.new wg [.int .i64 y.id, .int .i64 (-1), .int .i64 y.st, .int .u32 y.n] 74
        have z0 := X0.cell 0 _ rfl
        have z1 := X0.cell 1 _ rfl
        have z2 := X0.cell 2 _ rfl
        have z3 := X0.cell 3 _ rfl
        clear X0
        go_wp2_with fail
        go_roundw
        case rel => exact ⟨i + 1, V, by go_num, HI.out, HI2.out, HF.out.alloc _⟩
        case measure => have := HI.out; simp [intOf]; omega
      · skip
        have hKO : knows v y.id = true ∧ ofV v y.id = o := ⟨hk, hof⟩
        have hKN : knows V y.id = true ∧ ofV V y.id = o := by rw [hVe]; exact hKO
        have hn' : V.E.length = v.E.length := by rw [hVe]
        obtain ⟨q1, hq1⟩ : ∃ q, ordR o o = q := ⟨_, rfl⟩
        have O1 := Lib.hid (ord_at hq1 ho ho)
        have hq1n : ¬ q1 < 0 := by omega
        obtain ⟨q2, hq2⟩ : ∃ q, ordR o y = q := ⟨_, rfl⟩
        have O2 := Lib.hid (ord_at hq2 ho hYok.out)
        have hq2n : ¬ q2 < 0 := by omega
        have HKO := Lib.hid hKO
        have HKN := Lib.hid hKN
        have HNN := Lib.hid hn'
        have HTU := Lib.hid htu
        clear hKO hKN hn' hk htu hq2 hof hq1 hVe ho ho1 ho2
        have h := H.out
        have y0 := (h.cells (b := ry) (r := y) (by simp)).1 0 _ rfl
        have yl := (h.cells (b := ry) (r := y) (by simp)).2
        have K := of_l y.id [] [] h
        rw [HKO.out.1, HKO.out.2] at K
        clear h H
        go_wp2_with fail
        refine K.mono ?_; rintro e w6 ⟨rfl, h⟩
        have h : LS w [(g, v)] [bR w6.heap.size o, bR ry y] (w6.alloc (.cells #[.int .i64 o.id, .int .i64 o.st, .int .u32 o.n, .int .u32 o.ip, .int .u16 o.port] 37)) := LS.box (R := [bR ry y]) h o
        have H := Lib.hid h
        clear K y0 yl h
        go_upto_region 14 with fail
        generalize (w6.alloc (.cells #[.int .i64 o.id, .int .i64 o.st, .int .u32 o.n, .int .u32 o.ip, .int .u16 o.port] 37)) = w7 at *
        generalize w6.heap.size = ro at *
        have K := seen_l [] [] H.out
        go_wp2_with fail
        refine K.mono ?_; rintro e w8 ⟨rfl, rfl⟩
        clear K
        have h := H.out
        have y0 := (h.cells (b := ry) (r := y) (by simp)).1 0 _ rfl
        have y1 := (h.cells (b := ry) (r := y) (by simp)).1 1 _ rfl
        have y2 := (h.cells (b := ry) (r := y) (by simp)).1 2 _ rfl
        have y3 := (h.cells (b := ry) (r := y) (by simp)).1 3 _ rfl
        have y4 := (h.cells (b := ry) (r := y) (by simp)).1 4 _ rfl
        have yl := (h.cells (b := ry) (r := y) (by simp)).2
        have K := take_l y hYok.out [] [] h (by have := hE1.out; omega)
        rw [HTU.out, err_ok hYr.out, HVV.out] at K
        clear H h
        go_wp2_with fail
        refine K.mono ?_; rintro e w9 ⟨rfl, h⟩
        have h : LS w [(g, V)] [bR ro o, bR ry y] w9 := h
        clear K y0 y1 y2 y3 y4 yl
        have y0 := (h.cells (b := ry) (r := y) (by simp)).1 0 _ rfl
        have yl := (h.cells (b := ry) (r := y) (by simp)).2
        have K := of_l y.id [] [] h
        rw [HKN.out.1, HKN.out.2] at K
        clear h
        go_wp2_with fail
        refine K.mono ?_; rintro e wa ⟨rfl, h⟩
        have h : LS w [(g, V)] [bR wa.heap.size o, bR ro o, bR ry y] (wa.alloc (.cells #[.int .i64 o.id, .int .i64 o.st, .int .u32 o.n, .int .u32 o.ip, .int .u16 o.port] 37)) := LS.box (R := [bR ro o, bR ry y]) h o
        have H := Lib.hid h
        clear K y0 yl h
        go_upto_region 17 with fail
        generalize (wa.alloc (.cells #[.int .i64 o.id, .int .i64 o.st, .int .u32 o.n, .int .u32 o.ip, .int .u16 o.port] 37)) = wc at *
        generalize wa.heap.size = rn at *
        have h := H.out
        have y0 := (h.cells (b := ry) (r := y) (by simp)).1 0 _ rfl
        have y1 := (h.cells (b := ry) (r := y) (by simp)).1 1 _ rfl
        have y2 := (h.cells (b := ry) (r := y) (by simp)).1 2 _ rfl
        have y3 := (h.cells (b := ry) (r := y) (by simp)).1 3 _ rfl
        have y4 := (h.cells (b := ry) (r := y) (by simp)).1 4 _ rfl
        have yl := (h.cells (b := ry) (r := y) (by simp)).2
        have o0 := (h.cells (b := ro) (r := o) (by simp)).1 0 _ rfl
        have o1 := (h.cells (b := ro) (r := o) (by simp)).1 1 _ rfl
        have o2 := (h.cells (b := ro) (r := o) (by simp)).1 2 _ rfl
        have o3 := (h.cells (b := ro) (r := o) (by simp)).1 3 _ rfl
        have o4 := (h.cells (b := ro) (r := o) (by simp)).1 4 _ rfl
        have ol := (h.cells (b := ro) (r := o) (by simp)).2
        have n0 := (h.cells (b := rn) (r := o) (by simp)).1 0 _ rfl
        have n1 := (h.cells (b := rn) (r := o) (by simp)).1 1 _ rfl
        have n2 := (h.cells (b := rn) (r := o) (by simp)).1 2 _ rfl
        have n3 := (h.cells (b := rn) (r := o) (by simp)).1 3 _ rfl
        have n4 := (h.cells (b := rn) (r := o) (by simp)).1 4 _ rfl
        have nl := (h.cells (b := rn) (r := o) (by simp)).2
        clear h
        go_wp2_with fail
        refine (O1.out _).mono ?_; rintro e wd ⟨rfl, bd⟩
        replace H := Lib.hid (H.out.keep bd)
        clear y0 y1 y2 y3 y4 yl o0 o1 o2 o3 o4 ol n0 n1 n2 n3 n4 nl O1 bd
        have h := H.out
        have y0 := (h.cells (b := ry) (r := y) (by simp)).1 0 _ rfl
        have y1 := (h.cells (b := ry) (r := y) (by simp)).1 1 _ rfl
        have y2 := (h.cells (b := ry) (r := y) (by simp)).1 2 _ rfl
        have y3 := (h.cells (b := ry) (r := y) (by simp)).1 3 _ rfl
        have y4 := (h.cells (b := ry) (r := y) (by simp)).1 4 _ rfl
        have yl := (h.cells (b := ry) (r := y) (by simp)).2
        have o0 := (h.cells (b := ro) (r := o) (by simp)).1 0 _ rfl
        have o1 := (h.cells (b := ro) (r := o) (by simp)).1 1 _ rfl
        have o2 := (h.cells (b := ro) (r := o) (by simp)).1 2 _ rfl
        have o3 := (h.cells (b := ro) (r := o) (by simp)).1 3 _ rfl
        have o4 := (h.cells (b := ro) (r := o) (by simp)).1 4 _ rfl
        have ol := (h.cells (b := ro) (r := o) (by simp)).2
        have n0 := (h.cells (b := rn) (r := o) (by simp)).1 0 _ rfl
        have n1 := (h.cells (b := rn) (r := o) (by simp)).1 1 _ rfl
        have n2 := (h.cells (b := rn) (r := o) (by simp)).1 2 _ rfl
        have n3 := (h.cells (b := rn) (r := o) (by simp)).1 3 _ rfl
        have n4 := (h.cells (b := rn) (r := o) (by simp)).1 4 _ rfl
        have nl := (h.cells (b := rn) (r := o) (by simp)).2
        clear h
        go_wp2_with fail
        refine (O2.out _).mono ?_; rintro e we ⟨rfl, be⟩
        replace H := Lib.hid (H.out.keep be)
        clear y0 y1 y2 y3 y4 yl o0 o1 o2 o3 o4 ol n0 n1 n2 n3 n4 nl O2 be
        have h := H.out
        have y0 := (h.cells (b := ry) (r := y) (by simp)).1 0 _ rfl
        have y1 := (h.cells (b := ry) (r := y) (by simp)).1 1 _ rfl
        have y2 := (h.cells (b := ry) (r := y) (by simp)).1 2 _ rfl
        have y3 := (h.cells (b := ry) (r := y) (by simp)).1 3 _ rfl
        have y4 := (h.cells (b := ry) (r := y) (by simp)).1 4 _ rfl
        have yl := (h.cells (b := ry) (r := y) (by simp)).2
        have o0 := (h.cells (b := ro) (r := o) (by simp)).1 0 _ rfl
        have o1 := (h.cells (b := ro) (r := o) (by simp)).1 1 _ rfl
        have o2 := (h.cells (b := ro) (r := o) (by simp)).1 2 _ rfl
        have o3 := (h.cells (b := ro) (r := o) (by simp)).1 3 _ rfl
        have o4 := (h.cells (b := ro) (r := o) (by simp)).1 4 _ rfl
        have ol := (h.cells (b := ro) (r := o) (by simp)).2
        have n0 := (h.cells (b := rn) (r := o) (by simp)).1 0 _ rfl
        have n1 := (h.cells (b := rn) (r := o) (by simp)).1 1 _ rfl
        have n2 := (h.cells (b := rn) (r := o) (by simp)).1 2 _ rfl
        have n3 := (h.cells (b := rn) (r := o) (by simp)).1 3 _ rfl
        have n4 := (h.cells (b := rn) (r := o) (by simp)).1 4 _ rfl
        have nl := (h.cells (b := rn) (r := o) (by simp)).2
        clear h
        have K := seen_l [] [] H.out
        rw [HNN.out] at K
        have hsn : ((v.E.length : Int) == (v.E.length : Int) + 1) = false := by rw [beq_eq_false_iff_ne]; omega
        have KE := fun wx R (hx : LS w [(g, V)] R wx) => events_l [] [] hx (by rw [HNN.out]; have := hE1.out; omega)
        replace KE := Lib.hid KE
        generalize hen : v.E.length = en at *
        go_wp2_with fail
        refine K.mono ?_; rintro e wf ⟨rfl, rfl⟩
        clear K
        have K := KE.out wf _ H.out
        clear KE hen
        go_wp2_with fail
        refine K.mono ?_; rintro e wg ⟨ue, rfl, h⟩
        have h : LS w [(g, V)] [iE ue (lastE V.E), bR rn o, bR ro o, bR ry y] wg := h
        replace H := Lib.hid h
        clear K h y0 y1 y2 y3 y4 yl o0 o1 o2 o3 o4 ol n0 n1 n2 n3 n4 nl
        have HF := Lib.hid H.out.drop
        clear H
        go_wp2_with fail
        go_roundw
        case rel => exact ⟨i + 1, V, by go_num, HI.out, HI2.out, HF.out⟩
        case measure => have := HI.out; simp [intOf]; omega
      · skip
        have EV := Lib.hid hE
        have hKO : knows v y.id = true ∧ ofV v y.id = o := ⟨hk, hof⟩
        have hKN : knows V y.id = true ∧ ofV V y.id = y := by rw [← HVV.out]; exact knows_turned htu
        have hn' : V.E.length = v.E.length := by rw [hE]
        obtain ⟨q1, hq1⟩ : ∃ q, ordR y o = q := ⟨_, rfl⟩
        have O1 := Lib.hid (ord_at hq1 hYok.out ho)
        have hq1n : ¬ q1 < 0 := by omega
        obtain ⟨q2, hq2⟩ : ∃ q, ordR y y = q := ⟨_, rfl⟩
        have O2 := Lib.hid (ord_at hq2 hYok.out hYok.out)
        have hq2n : ¬ q2 < 0 := by have := ordR_same y y ⟨rfl, rfl, rfl, rfl⟩; omega
        have HKO := Lib.hid hKO
        have HKN := Lib.hid hKN
        have HNN := Lib.hid hn'
        have HTU := Lib.hid htu
        have HST := Lib.hid hst
        clear hKO hKN hn' hk htu hq2 hof hq1 hE ho hst hle
        have h := H.out
        have y0 := (h.cells (b := ry) (r := y) (by simp)).1 0 _ rfl
        have yl := (h.cells (b := ry) (r := y) (by simp)).2
        have K := of_l y.id [] [] h
        rw [HKO.out.1, HKO.out.2] at K
        clear h H
        go_wp2_with fail
        refine K.mono ?_; rintro e w6 ⟨rfl, h⟩
        have h : LS w [(g, v)] [bR w6.heap.size o, bR ry y] (w6.alloc (.cells #[.int .i64 o.id, .int .i64 o.st, .int .u32 o.n, .int .u32 o.ip, .int .u16 o.port] 37)) := LS.box (R := [bR ry y]) h o
        have H := Lib.hid h
        clear K y0 yl h
        go_upto_region 14 with fail
        generalize (w6.alloc (.cells #[.int .i64 o.id, .int .i64 o.st, .int .u32 o.n, .int .u32 o.ip, .int .u16 o.port] 37)) = w7 at *
        generalize w6.heap.size = ro at *
        have K := seen_l [] [] H.out
        go_wp2_with fail
        refine K.mono ?_; rintro e w8 ⟨rfl, rfl⟩
        clear K
        have h := H.out
        have y0 := (h.cells (b := ry) (r := y) (by simp)).1 0 _ rfl
        have y1 := (h.cells (b := ry) (r := y) (by simp)).1 1 _ rfl
        have y2 := (h.cells (b := ry) (r := y) (by simp)).1 2 _ rfl
        have y3 := (h.cells (b := ry) (r := y) (by simp)).1 3 _ rfl
        have y4 := (h.cells (b := ry) (r := y) (by simp)).1 4 _ rfl
        have yl := (h.cells (b := ry) (r := y) (by simp)).2
        have K := take_l y hYok.out [] [] h (by have := hE1.out; omega)
        rw [HTU.out, err_ok hYr.out, HVV.out] at K
        clear H h
        go_wp2_with fail
        refine K.mono ?_; rintro e w9 ⟨rfl, h⟩
        have h : LS w [(g, V)] [bR ro o, bR ry y] w9 := h
        clear K y0 y1 y2 y3 y4 yl
        have y0 := (h.cells (b := ry) (r := y) (by simp)).1 0 _ rfl
        have yl := (h.cells (b := ry) (r := y) (by simp)).2
        have K := of_l y.id [] [] h
        rw [HKN.out.1, HKN.out.2] at K
        clear h
        go_wp2_with fail
        refine K.mono ?_; rintro e wa ⟨rfl, h⟩
        have h : LS w [(g, V)] [bR wa.heap.size y, bR ro o, bR ry y] (wa.alloc (.cells #[.int .i64 y.id, .int .i64 y.st, .int .u32 y.n, .int .u32 y.ip, .int .u16 y.port] 37)) := LS.box (R := [bR ro o, bR ry y]) h y
        have H := Lib.hid h
        clear K y0 yl h
        go_upto_region 17 with fail
        generalize (wa.alloc (.cells #[.int .i64 y.id, .int .i64 y.st, .int .u32 y.n, .int .u32 y.ip, .int .u16 y.port] 37)) = wc at *
        generalize wa.heap.size = rn at *
        have h := H.out
        have y0 := (h.cells (b := ry) (r := y) (by simp)).1 0 _ rfl
        have y1 := (h.cells (b := ry) (r := y) (by simp)).1 1 _ rfl
        have y2 := (h.cells (b := ry) (r := y) (by simp)).1 2 _ rfl
        have y3 := (h.cells (b := ry) (r := y) (by simp)).1 3 _ rfl
        have y4 := (h.cells (b := ry) (r := y) (by simp)).1 4 _ rfl
        have yl := (h.cells (b := ry) (r := y) (by simp)).2
        have o0 := (h.cells (b := ro) (r := o) (by simp)).1 0 _ rfl
        have o1 := (h.cells (b := ro) (r := o) (by simp)).1 1 _ rfl
        have o2 := (h.cells (b := ro) (r := o) (by simp)).1 2 _ rfl
        have o3 := (h.cells (b := ro) (r := o) (by simp)).1 3 _ rfl
        have o4 := (h.cells (b := ro) (r := o) (by simp)).1 4 _ rfl
        have ol := (h.cells (b := ro) (r := o) (by simp)).2
        have n0 := (h.cells (b := rn) (r := y) (by simp)).1 0 _ rfl
        have n1 := (h.cells (b := rn) (r := y) (by simp)).1 1 _ rfl
        have n2 := (h.cells (b := rn) (r := y) (by simp)).1 2 _ rfl
        have n3 := (h.cells (b := rn) (r := y) (by simp)).1 3 _ rfl
        have n4 := (h.cells (b := rn) (r := y) (by simp)).1 4 _ rfl
        have nl := (h.cells (b := rn) (r := y) (by simp)).2
        clear h
        go_wp2_with fail
        refine (O1.out _).mono ?_; rintro e wd ⟨rfl, bd⟩
        replace H := Lib.hid (H.out.keep bd)
        clear y0 y1 y2 y3 y4 yl o0 o1 o2 o3 o4 ol n0 n1 n2 n3 n4 nl O1 bd
        have h := H.out
        have y0 := (h.cells (b := ry) (r := y) (by simp)).1 0 _ rfl
        have y1 := (h.cells (b := ry) (r := y) (by simp)).1 1 _ rfl
        have y2 := (h.cells (b := ry) (r := y) (by simp)).1 2 _ rfl
        have y3 := (h.cells (b := ry) (r := y) (by simp)).1 3 _ rfl
        have y4 := (h.cells (b := ry) (r := y) (by simp)).1 4 _ rfl
        have yl := (h.cells (b := ry) (r := y) (by simp)).2
        have o0 := (h.cells (b := ro) (r := o) (by simp)).1 0 _ rfl
        have o1 := (h.cells (b := ro) (r := o) (by simp)).1 1 _ rfl
        have o2 := (h.cells (b := ro) (r := o) (by simp)).1 2 _ rfl
        have o3 := (h.cells (b := ro) (r := o) (by simp)).1 3 _ rfl
        have o4 := (h.cells (b := ro) (r := o) (by simp)).1 4 _ rfl
        have ol := (h.cells (b := ro) (r := o) (by simp)).2
        have n0 := (h.cells (b := rn) (r := y) (by simp)).1 0 _ rfl
        have n1 := (h.cells (b := rn) (r := y) (by simp)).1 1 _ rfl
        have n2 := (h.cells (b := rn) (r := y) (by simp)).1 2 _ rfl
        have n3 := (h.cells (b := rn) (r := y) (by simp)).1 3 _ rfl
        have n4 := (h.cells (b := rn) (r := y) (by simp)).1 4 _ rfl
        have nl := (h.cells (b := rn) (r := y) (by simp)).2
        clear h
        go_wp2_with fail
        refine (O2.out _).mono ?_; rintro e we ⟨rfl, be⟩
        replace H := Lib.hid (H.out.keep be)
        clear y0 y1 y2 y3 y4 yl o0 o1 o2 o3 o4 ol n0 n1 n2 n3 n4 nl O2 be
        have h := H.out
        have y0 := (h.cells (b := ry) (r := y) (by simp)).1 0 _ rfl
        have y1 := (h.cells (b := ry) (r := y) (by simp)).1 1 _ rfl
        have y2 := (h.cells (b := ry) (r := y) (by simp)).1 2 _ rfl
        have y3 := (h.cells (b := ry) (r := y) (by simp)).1 3 _ rfl
        have y4 := (h.cells (b := ry) (r := y) (by simp)).1 4 _ rfl
        have yl := (h.cells (b := ry) (r := y) (by simp)).2
        have o0 := (h.cells (b := ro) (r := o) (by simp)).1 0 _ rfl
        have o1 := (h.cells (b := ro) (r := o) (by simp)).1 1 _ rfl
        have o2 := (h.cells (b := ro) (r := o) (by simp)).1 2 _ rfl
        have o3 := (h.cells (b := ro) (r := o) (by simp)).1 3 _ rfl
        have o4 := (h.cells (b := ro) (r := o) (by simp)).1 4 _ rfl
        have ol := (h.cells (b := ro) (r := o) (by simp)).2
        have n0 := (h.cells (b := rn) (r := y) (by simp)).1 0 _ rfl
        have n1 := (h.cells (b := rn) (r := y) (by simp)).1 1 _ rfl
        have n2 := (h.cells (b := rn) (r := y) (by simp)).1 2 _ rfl
        have n3 := (h.cells (b := rn) (r := y) (by simp)).1 3 _ rfl
        have n4 := (h.cells (b := rn) (r := y) (by simp)).1 4 _ rfl
        have nl := (h.cells (b := rn) (r := y) (by simp)).2
        clear h
        have K := seen_l [] [] H.out
        rw [HNN.out] at K
        have hsn : ((v.E.length : Int) == (v.E.length : Int) + 1) = false := by rw [beq_eq_false_iff_ne]; omega
        have KE := fun wx R (hx : LS w [(g, V)] R wx) => events_l [] [] hx (by rw [HNN.out]; have := hE1.out; omega)
        replace KE := Lib.hid KE
        generalize hen : v.E.length = en at *
        rw [HST.out] at y1
        rw [HST.out] at n1
        go_wp2_with fail
        refine K.mono ?_; rintro e wf ⟨rfl, rfl⟩
        clear K
        have K := KE.out wf _ H.out
        clear KE hen
        go_wp2_with fail
        refine K.mono ?_; rintro e wg ⟨ue, rfl, h⟩
        have h : LS w [(g, V)] [iE ue (lastE V.E), bR rn y, bR ro o, bR ry y] wg := h
        replace H := Lib.hid h
        clear K h y0 y1 y2 y3 y4 yl o0 o1 o2 o3 o4 ol n0 n1 n2 n3 n4 nl
        have HF := Lib.hid H.out.drop
        clear H
        go_wp2_with fail
        go_roundw
        case rel => exact ⟨i + 1, V, by go_num, HI.out, HI2.out, HF.out⟩
        case measure => have := HI.out; simp [intOf]; omega
      · skip
        have EV := Lib.hid hE
        have hKO : knows v y.id = true ∧ ofV v y.id = o := ⟨hk, hof⟩
        have hKN : knows V y.id = true ∧ ofV V y.id = y := by rw [← HVV.out]; exact knows_turned htu
        have hn' : V.E.length = v.E.length + 1 := by rw [hE, List.length_append]; rfl
        obtain ⟨l, hl1, hlx⟩ := last_at v.E ⟨y.id, o.st, y.st, y.n⟩
        rw [← hE] at hl1 hlx
        have hl9 : l < 128 := by have := last_len V.E; omega
        obtain ⟨q1, hq1⟩ : ∃ q, ordR y o = q := ⟨_, rfl⟩
        have O1 := Lib.hid (ord_at hq1 hYok.out ho)
        have hq1n : ¬ q1 < 0 := by omega
        obtain ⟨q2, hq2⟩ : ∃ q, ordR y y = q := ⟨_, rfl⟩
        have O2 := Lib.hid (ord_at hq2 hYok.out hYok.out)
        have hq2n : ¬ q2 < 0 := by have := ordR_same y y ⟨rfl, rfl, rfl, rfl⟩; omega
        have HKO := Lib.hid hKO
        have HKN := Lib.hid hKN
        have HNN := Lib.hid hn'
        have HTU := Lib.hid htu
        have HL1 := Lib.hid hl1
        have HLX := Lib.hid hlx
        clear hKO hKN hn' hk htu hq2 hof hq1 hE hl1 hlx ho hle
        have h := H.out
        have y0 := (h.cells (b := ry) (r := y) (by simp)).1 0 _ rfl
        have yl := (h.cells (b := ry) (r := y) (by simp)).2
        have K := of_l y.id [] [] h
        rw [HKO.out.1, HKO.out.2] at K
        clear h H
        go_wp2_with fail
        refine K.mono ?_; rintro e w6 ⟨rfl, h⟩
        have h : LS w [(g, v)] [bR w6.heap.size o, bR ry y] (w6.alloc (.cells #[.int .i64 o.id, .int .i64 o.st, .int .u32 o.n, .int .u32 o.ip, .int .u16 o.port] 37)) := LS.box (R := [bR ry y]) h o
        have H := Lib.hid h
        clear K y0 yl h
        go_upto_region 14 with fail
        generalize (w6.alloc (.cells #[.int .i64 o.id, .int .i64 o.st, .int .u32 o.n, .int .u32 o.ip, .int .u16 o.port] 37)) = w7 at *
        generalize w6.heap.size = ro at *
        have K := seen_l [] [] H.out
        go_wp2_with fail
        refine K.mono ?_; rintro e w8 ⟨rfl, rfl⟩
        clear K
        have h := H.out
        have y0 := (h.cells (b := ry) (r := y) (by simp)).1 0 _ rfl
        have y1 := (h.cells (b := ry) (r := y) (by simp)).1 1 _ rfl
        have y2 := (h.cells (b := ry) (r := y) (by simp)).1 2 _ rfl
        have y3 := (h.cells (b := ry) (r := y) (by simp)).1 3 _ rfl
        have y4 := (h.cells (b := ry) (r := y) (by simp)).1 4 _ rfl
        have yl := (h.cells (b := ry) (r := y) (by simp)).2
        have K := take_l y hYok.out [] [] h (by have := hE1.out; omega)
        rw [HTU.out, err_ok hYr.out, HVV.out] at K
        clear H h
        go_wp2_with fail
        refine K.mono ?_; rintro e w9 ⟨rfl, h⟩
        have h : LS w [(g, V)] [bR ro o, bR ry y] w9 := h
        clear K y0 y1 y2 y3 y4 yl
        have y0 := (h.cells (b := ry) (r := y) (by simp)).1 0 _ rfl
        have yl := (h.cells (b := ry) (r := y) (by simp)).2
        have K := of_l y.id [] [] h
        rw [HKN.out.1, HKN.out.2] at K
        clear h
        go_wp2_with fail
        refine K.mono ?_; rintro e wa ⟨rfl, h⟩
        have h : LS w [(g, V)] [bR wa.heap.size y, bR ro o, bR ry y] (wa.alloc (.cells #[.int .i64 y.id, .int .i64 y.st, .int .u32 y.n, .int .u32 y.ip, .int .u16 y.port] 37)) := LS.box (R := [bR ro o, bR ry y]) h y
        have H := Lib.hid h
        clear K y0 yl h
        go_upto_region 17 with fail
        generalize (wa.alloc (.cells #[.int .i64 y.id, .int .i64 y.st, .int .u32 y.n, .int .u32 y.ip, .int .u16 y.port] 37)) = wc at *
        generalize wa.heap.size = rn at *
        have h := H.out
        have y0 := (h.cells (b := ry) (r := y) (by simp)).1 0 _ rfl
        have y1 := (h.cells (b := ry) (r := y) (by simp)).1 1 _ rfl
        have y2 := (h.cells (b := ry) (r := y) (by simp)).1 2 _ rfl
        have y3 := (h.cells (b := ry) (r := y) (by simp)).1 3 _ rfl
        have y4 := (h.cells (b := ry) (r := y) (by simp)).1 4 _ rfl
        have yl := (h.cells (b := ry) (r := y) (by simp)).2
        have o0 := (h.cells (b := ro) (r := o) (by simp)).1 0 _ rfl
        have o1 := (h.cells (b := ro) (r := o) (by simp)).1 1 _ rfl
        have o2 := (h.cells (b := ro) (r := o) (by simp)).1 2 _ rfl
        have o3 := (h.cells (b := ro) (r := o) (by simp)).1 3 _ rfl
        have o4 := (h.cells (b := ro) (r := o) (by simp)).1 4 _ rfl
        have ol := (h.cells (b := ro) (r := o) (by simp)).2
        have n0 := (h.cells (b := rn) (r := y) (by simp)).1 0 _ rfl
        have n1 := (h.cells (b := rn) (r := y) (by simp)).1 1 _ rfl
        have n2 := (h.cells (b := rn) (r := y) (by simp)).1 2 _ rfl
        have n3 := (h.cells (b := rn) (r := y) (by simp)).1 3 _ rfl
        have n4 := (h.cells (b := rn) (r := y) (by simp)).1 4 _ rfl
        have nl := (h.cells (b := rn) (r := y) (by simp)).2
        clear h
        go_wp2_with fail
        refine (O1.out _).mono ?_; rintro e wd ⟨rfl, bd⟩
        replace H := Lib.hid (H.out.keep bd)
        clear y0 y1 y2 y3 y4 yl o0 o1 o2 o3 o4 ol n0 n1 n2 n3 n4 nl O1 bd
        have h := H.out
        have y0 := (h.cells (b := ry) (r := y) (by simp)).1 0 _ rfl
        have y1 := (h.cells (b := ry) (r := y) (by simp)).1 1 _ rfl
        have y2 := (h.cells (b := ry) (r := y) (by simp)).1 2 _ rfl
        have y3 := (h.cells (b := ry) (r := y) (by simp)).1 3 _ rfl
        have y4 := (h.cells (b := ry) (r := y) (by simp)).1 4 _ rfl
        have yl := (h.cells (b := ry) (r := y) (by simp)).2
        have o0 := (h.cells (b := ro) (r := o) (by simp)).1 0 _ rfl
        have o1 := (h.cells (b := ro) (r := o) (by simp)).1 1 _ rfl
        have o2 := (h.cells (b := ro) (r := o) (by simp)).1 2 _ rfl
        have o3 := (h.cells (b := ro) (r := o) (by simp)).1 3 _ rfl
        have o4 := (h.cells (b := ro) (r := o) (by simp)).1 4 _ rfl
        have ol := (h.cells (b := ro) (r := o) (by simp)).2
        have n0 := (h.cells (b := rn) (r := y) (by simp)).1 0 _ rfl
        have n1 := (h.cells (b := rn) (r := y) (by simp)).1 1 _ rfl
        have n2 := (h.cells (b := rn) (r := y) (by simp)).1 2 _ rfl
        have n3 := (h.cells (b := rn) (r := y) (by simp)).1 3 _ rfl
        have n4 := (h.cells (b := rn) (r := y) (by simp)).1 4 _ rfl
        have nl := (h.cells (b := rn) (r := y) (by simp)).2
        clear h
        go_wp2_with fail
        refine (O2.out _).mono ?_; rintro e we ⟨rfl, be⟩
        replace H := Lib.hid (H.out.keep be)
        clear y0 y1 y2 y3 y4 yl o0 o1 o2 o3 o4 ol n0 n1 n2 n3 n4 nl O2 be
        have h := H.out
        have y0 := (h.cells (b := ry) (r := y) (by simp)).1 0 _ rfl
        have y1 := (h.cells (b := ry) (r := y) (by simp)).1 1 _ rfl
        have y2 := (h.cells (b := ry) (r := y) (by simp)).1 2 _ rfl
        have y3 := (h.cells (b := ry) (r := y) (by simp)).1 3 _ rfl
        have y4 := (h.cells (b := ry) (r := y) (by simp)).1 4 _ rfl
        have yl := (h.cells (b := ry) (r := y) (by simp)).2
        have o0 := (h.cells (b := ro) (r := o) (by simp)).1 0 _ rfl
        have o1 := (h.cells (b := ro) (r := o) (by simp)).1 1 _ rfl
        have o2 := (h.cells (b := ro) (r := o) (by simp)).1 2 _ rfl
        have o3 := (h.cells (b := ro) (r := o) (by simp)).1 3 _ rfl
        have o4 := (h.cells (b := ro) (r := o) (by simp)).1 4 _ rfl
        have ol := (h.cells (b := ro) (r := o) (by simp)).2
        have n0 := (h.cells (b := rn) (r := y) (by simp)).1 0 _ rfl
        have n1 := (h.cells (b := rn) (r := y) (by simp)).1 1 _ rfl
        have n2 := (h.cells (b := rn) (r := y) (by simp)).1 2 _ rfl
        have n3 := (h.cells (b := rn) (r := y) (by simp)).1 3 _ rfl
        have n4 := (h.cells (b := rn) (r := y) (by simp)).1 4 _ rfl
        have nl := (h.cells (b := rn) (r := y) (by simp)).2
        clear h
        have K := seen_l [] [] H.out
        rw [HNN.out, show (((v.E.length + 1 : Nat) : Int)) = (v.E.length : Int) + 1 by omega] at K
        have KE := fun wx R (hx : LS w [(g, V)] R wx) => events_l [] [] hx (by rw [HNN.out]; have := hE1.out; omega)
        rw [HL1.out] at KE
        replace KE := Lib.hid KE
        generalize hen : v.E.length = en at *
        have hdn : (o.st != y.st) = true := by simp; exact hne
        go_wp2_with fail
        refine K.mono ?_; rintro e wf ⟨rfl, rfl⟩
        clear K
        have K := KE.out wf _ H.out
        clear KE hen
        go_wp2_with fail
        refine K.mono ?_; rintro e wg ⟨ue, rfl, h⟩
        have h : LS w [(g, V)] [iE ue (lastE V.E), bR rn y, bR ro o, bR ry y] wg := h
        replace H := Lib.hid h
        clear K h y0 y1 y2 y3 y4 yl o0 o1 o2 o3 o4 ol n0 n1 n2 n3 n4 nl
        have HF := Lib.hid H.out.drop
        obtain ⟨be, offe, hbe, hble, hce⟩ := (H.out.rdE (u := ue) (L := lastE V.E) (by simp)) (by rw [HL1.out]; omega)
        have e0 := hce l _ HLX.out 0 _ rfl
        have e1 := hce l _ HLX.out 1 _ rfl
        have e2 := hce l _ HLX.out 2 _ rfl
        have e3 := hce l _ HLX.out 3 _ rfl
        simp only [Nat.add_zero] at e0
        obtain ⟨ea, en', ec⟩ := ue
        simp only at hbe
        subst hbe
        clear hce HLX
        have h := H.out
        have y0 := (h.cells (b := ry) (r := y) (by simp)).1 0 _ rfl
        have y1 := (h.cells (b := ry) (r := y) (by simp)).1 1 _ rfl
        have y2 := (h.cells (b := ry) (r := y) (by simp)).1 2 _ rfl
        have y3 := (h.cells (b := ry) (r := y) (by simp)).1 3 _ rfl
        have y4 := (h.cells (b := ry) (r := y) (by simp)).1 4 _ rfl
        have yl := (h.cells (b := ry) (r := y) (by simp)).2
        have o0 := (h.cells (b := ro) (r := o) (by simp)).1 0 _ rfl
        have o1 := (h.cells (b := ro) (r := o) (by simp)).1 1 _ rfl
        have o2 := (h.cells (b := ro) (r := o) (by simp)).1 2 _ rfl
        have o3 := (h.cells (b := ro) (r := o) (by simp)).1 3 _ rfl
        have o4 := (h.cells (b := ro) (r := o) (by simp)).1 4 _ rfl
        have ol := (h.cells (b := ro) (r := o) (by simp)).2
        have n0 := (h.cells (b := rn) (r := y) (by simp)).1 0 _ rfl
        have n1 := (h.cells (b := rn) (r := y) (by simp)).1 1 _ rfl
        have n2 := (h.cells (b := rn) (r := y) (by simp)).1 2 _ rfl
        have n3 := (h.cells (b := rn) (r := y) (by simp)).1 3 _ rfl
        have n4 := (h.cells (b := rn) (r := y) (by simp)).1 4 _ rfl
        have nl := (h.cells (b := rn) (r := y) (by simp)).2
        clear h
        have hll : (((l + 1 : Nat) : Int)) = (l : Int) + 1 := by omega
        have hl0 : (0 : Int) ≤ l := by omega
        have hl128 : (l : Int) < 128 := by omega
        have hlz : ((l : Int) + 1 == 0) = false := by rw [beq_eq_false_iff_ne]; omega
        clear H
        have X0 := Cs.new wg [.int .i64 y.id, .int .i64 o.st, .int .i64 y.st, .int .u32 y.n] 74
        have z0 := X0.cell 0 _ rfl
        have z1 := X0.cell 1 _ rfl
        have z2 := X0.cell 2 _ rfl
        have z3 := X0.cell 3 _ rfl
        clear X0
        go_wp2_with fail
        go_roundw
        case rel => exact ⟨i + 1, V, by go_num, HI.out, HI2.out, HF.out.alloc _⟩
        case measure => have := HI.out; simp [intOf]; omega
    · obtain rfl : i = m := by omega
      have hcond : ((i : Int) < len ∧ (i : Int) = 60) ∨ (i : Int) = len := by have := HM.out; omega
      have h6 := rs_six hI
      have KM := members_l [] [] h
      have h6' : ((membersV v).length : Int) ≤ 6 := by omega
      clear hI h6
      generalize (membersV v).length = ml at *
      generalize membersV v = MM at *
      clear h hlt
      go_upto_region 8 with fail
      go_cut [31] (fun c wx => c = .bool false ∧ wx = wr)
      case first =>
        rcases hcond with ⟨hc1, hc2⟩ | hc1
        · have hc3 : decide ((i : Int) < 60) = false := decide_eq_false (by omega)
          clear hc2
          go_wp2_with fail
          go_meet
          exact ⟨by first | rfl | rw [hc3], rfl⟩
        · have hc3 : decide ((i : Int) < len) = false := decide_eq_false (by omega)
          have hc4 : ¬ (i : Int) < len := by omega
          have hc5 : ¬ i < len := by omega
          clear hc1
          go_wp2_with fail
          go_meet
          exact ⟨rfl, rfl⟩
      case rest =>
        obtain ⟨rfl, rfl⟩ := hcut
        generalize wc = wr at *
        clear hcond HM HT HOK HR hml
        go_wp2_with fail
        refine KM.mono ?_; rintro e w4 ⟨x, rfl, h⟩
        have HB := Lib.hid h.below
        clear KM h
        have hml9 : decide ((ml : Int) ≤ 6) = true := decide_eq_true h6'
        go_wp2
        go_ret
        exact ⟨by first | rfl | (simp; omega), HB.out⟩
theorem rises_run (a : Option Addr) (len cap : Nat) (w : World) (h : ThingRow w a len cap) :
    Calls Try.prog 5 #[.slice a len cap] w (RsPost w) := by
  obtain ⟨T, hT, hr, hok⟩ := things_list h (min len 60) (by omega)
  exact rises_walk a len cap (min len 60) T w rfl hT hr hok h.len
theorem viewRises_own : ownKnob Try.prog.godebug = none := by kernel_rfl
theorem viewRises_laid : laidOutB Try.prog = true := by kernel_rfl
set_option maxRecDepth 100000 in
theorem viewRises_lifted (os : Os) (started : os.Started) (H : Type) (enc : TypeId × Value → H) :
    ReturnsInHanded {} Try.checked os 5 .any (Rows.viewRisesSpec.pre6 enc Try.prog Try.f5 Rows.viewRisesRow.domain false) (Rows.viewRisesSpec.post enc Try.prog Try.f5 false true false false) := by
  refine returnsInHanded_of_change (C := Try.checked) viewRises_own started (by kernel_rfl) Try.func5
    (ChangeSpec.witness6 (enc := enc) (C := Try.checked) false ⟨#[], #[.slice none 0 0], []⟩ 8 (by kernel_rfl) (by kernel_rfl) (by kernel_rfl) (by kernel_rfl)) ?_
  intro W base args ds gs before hval0 hW hcnd _
  have hval : ∀ (j : Nat) t v, Try.f5.params[j]? = some t → args[j]? = some v → Value.okWide Try.prog W .any base t v := hval0
  have hW' := hW
  obtain ⟨p, q, hA0, hV, rfl, hfz, hnd⟩ := hW
  have hA : DataW.TrodAll enc Try.prog W 0 (fun _ => true) true Try.f5.params.toList args.toList ds p := hA0
  rw [Try.params5] at hA hval
  obtain ⟨v0, vs0, d0, ds0, p0, q0, hargs, rfl, rfl, h0, r0⟩ := trodAll_cons hA
  obtain ⟨rfl, rfl, rfl⟩ := trodAll_nil r0
  obtain rfl : args = #[v0] := by cases args; simp_all
  obtain ⟨rfl, rfl⟩ := trodVars_none hV
  obtain ⟨a0, len0, cap0, rfl⟩ := okWide_slice Try.underlying22 (hval 0 22 v0 rfl rfl)
  have k0 := h0
  have lt0 : ∀ x ∈ p0, x.block < W.heap.size := by obtain ⟨m, hm⟩ := k0; exact DataW.trod_lt m _ _ _ hm
  have w0 : ThingRow W a0 len0 cap0 := by
    obtain ⟨fuel, hf⟩ := h0
    exact things_open hf
  clear hA0 hval0
  refine (rises_run a0 len0 cap0 W w0).mono fun e W' ⟨he, bel⟩ => ?_
  subst he
  exact ⟨_, rfl, _, _, _, [], _, [], hW', trodAll_mk1 (shut_bool Try.underlying4 _), (trodAll_cons_mk (Below.trod viewRises_laid (by kernel_rfl) (of_decide_eq_true (by kernel_rfl)) k0 bel lt0) trodAll_mk0), rfl, bel.frame _, fun h => by cases h⟩
theorem viewRises_over : Rows.viewRisesRow.holds Try.pinned (OpenSpec.ofChange Rows.viewRisesSpec) :=
  OpenClaim.holds_of_wide 5 Try.f5 rfl rfl rfl rfl rfl rfl rfl ⟨rfl, rfl, rfl, rfl, rfl⟩ rfl rfl rfl rfl rfl (by kernel_rfl) Try.func5 (by kernel_rfl)
    (of_decide_eq_true (by kernel_rfl)) (by unfold Func.isWrapper; first | (rw [if_pos (by decide +kernel)]; kernel_rfl) | (rw [if_neg (by decide +kernel)]; exact ⟨rfl, rfl⟩))
    (fun os started H enc _ => viewRises_lifted os started H enc)
theorem viewRises_holds : Rows.ViewRisesSaid := viewRises_over
#print axioms viewRises_holds
end Go.Proofs.Ytchhbhoikkdmeaa
