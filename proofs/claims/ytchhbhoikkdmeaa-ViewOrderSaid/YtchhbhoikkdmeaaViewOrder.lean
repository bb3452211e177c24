/- ViewOrder: taken in whatever order, and however often, the same records come to the same members: for every list of things. -/
import Derived.Test.YtchhbhoikkdmeaaViBest
namespace Go.Proofs.Ytchhbhoikkdmeaa
open Go.Sort Go.RowKit Go.BigFrame Go.ChangeShapes Go.WideShapes Go.ChangeAt
open Go.ChangeMaps (open_string shut_string)
set_option linter.unusedVariables false
set_option linter.unusedSimpArgs false

def OrPost (w : World) (e : Ending) (w' : World) : Prop := e = .returned (.bool true) ∧ Below w.heap.size w w'
/-- what is known of the second view, behind so many takes -/
structure OrB (O : List Rec) (j : Nat) (v : Vw) : Prop where
  best : ∃ M, Best M v ∧ (∀ x ∈ M, x ∈ O) ∧ ∀ x ∈ O.drop j, x ∈ M
  ok : OkV v
  E : v.E.length + 2 * j ≤ 2 * O.length
def Or1J (O : List Rec) (w0 : World) (ga gb gc : Nat) (sv iv : Value) (wr : World) : Prop := ∃ (i : Nat) (u : Sl), iv = .int .i64 (i : Nat) ∧ i ≤ O.length ∧ sv = .slice u.a (O.take i).length u.c ∧ LS w0 [(gc, newV), (gb, newV), (ga, foldV newV (O.take i))] [iR u (O.take i)] wr
def Or2J (O : List Rec) (w0 : World) (ga gb gc : Nat) (va : Vw) (u : Sl) (iv : Value) (wr : World) : Prop := ∃ (j : Nat) (vb : Vw) (q : Int), iv = .int .i64 q ∧ q = (j : Int) - 1 ∧ j ≤ O.length ∧ OrB O j vb ∧ LS w0 [(gc, newV), (gb, vb), (ga, va)] [iR u O] wr
def Or3J (n : Nat) (P : World → Prop) (iv : Value) (wr : World) : Prop := ∃ i : Nat, iv = .int .i64 (i : Nat) ∧ i ≤ n ∧ P wr
theorem orb_start (O : List Rec) : OrB O O.length newV := ⟨⟨[], best_start, by simp, by simp⟩, new_ok, by show 0 + _ ≤ _; omega⟩
theorem orb_step {O : List Rec} (hO : ∀ r ∈ O, r.Ok ∧ r.right = true) {j : Nat} {v : Vw} (h : OrB O (j + 1) v) {r s : Rec} (hr : O[j]? = some r) (hs : s ∈ O) : OrB O j (takeV (takeV v r) s) := by
  obtain ⟨M, hM, h1, h2⟩ := h.best
  have hrm := List.mem_of_getElem? hr
  have b1 := best_step hM h.ok (hO r hrm).2
  have b2 := best_step b1 (take_ok h.ok (hO r hrm).1) (hO s hs).2
  refine ⟨⟨s :: r :: M, b2, fun x hx => ?_, fun x hx => ?_⟩, take_ok (take_ok h.ok (hO r hrm).1) (hO s hs).1, ?_⟩
  · simp only [List.mem_cons] at hx
    rcases hx with rfl | rfl | hx
    · exact hs
    · exact hrm
    · exact h1 x hx
  · obtain ⟨q1, q2⟩ := List.getElem?_eq_some_iff.1 hr
    rw [List.drop_eq_getElem_cons q1, q2] at hx
    simp only [List.mem_cons] at hx ⊢
    rcases hx with rfl | hx
    · exact .inr (.inl rfl)
    · exact .inr (.inr (h2 x hx))
  · have := take_len v r
    have := take_len (takeV v r) s
    have := h.E
    omega
set_option maxHeartbeats 12800000 in
set_option maxRecDepth 20000 in
theorem order_walk (a : Option Addr) (len cap m : Nat) (T : List Th) (w : World) (hm : m = min len 30) (hT : T.length = m) (hr : RdE tcs 6 w a T) (hok : ∀ t ∈ T, t.r.Ok) (hlen : len ≤ 9223372036854775807) :
    Calls Try.prog 4 #[.slice a len cap] w (OrPost w) := by
  have K0 := ex_any w
  obtain ⟨i0, hi0, hz0, hz1, hz2⟩ := info_parts info_rec
  have HR := Lib.hid hr
  have HOK := Lib.hid hok
  have hl2 : (len : Int) ≤ 9223372036854775807 := by omega
  obtain ⟨O, hO⟩ : ∃ O, O = ownL T := ⟨_, rfl⟩
  have hOl : O.length = m := by rw [hO, ownL_len, hT]
  have HO := Lib.hid hO
  have HOL := Lib.hid hOl
  have HOO : Hid (∀ r ∈ O, r.Ok ∧ r.right = true) := fun r h => ⟨ownL_ok r (by rw [← hO]; exact h), List.all_eq_true.1 (ownL_right T) r (by rw [← hO]; exact h)⟩
  have HRG : Hid (rightL O = true) := by show _ = _; rw [hO]; exact ownL_right T
  have HT := Lib.hid hT
  have hm30 : m ≤ 30 := by omega
  have hml : m ≤ len := by omega
  have hmin : (if (30 : Int) < (len : Int) then (30 : Int) else (len : Int)) = (m : Nat) := by split <;> omega
  clear hr hok hm hT hO hOl
  go_enter Try.func4, Try.ntmps4
  go_wp2_with fail
  refine K0.mono ?_; rintro e w1 ⟨rfl, b1⟩
  have K := new_l (LS.start w w1 b1)
  clear K0 b1
  go_wp2_with fail
  refine K.mono ?_; rintro e w2 ⟨ga, rfl, h⟩
  have K1 := new_l h
  clear K h
  go_wp2_with fail
  refine K1.mono ?_; rintro e w3 ⟨gb, rfl, h⟩
  have K2 := new_l h
  clear K1 h
  go_wp2_with fail
  refine K2.mono ?_; rintro e w4 ⟨gc, rfl, h⟩
  have S0 : Hid (Or1J O w ga gb gc (.slice none 0 0) (.int .i64 0) w4) := ⟨0, ⟨none, 0, 0⟩, rfl, Nat.zero_le _, rfl, h.nil (World.ownsRow_nil _ _ _ _) rfl⟩
  clear K2 h
  go_wp2_with fail
  go_loopw [7, 9] (fun sv iv wr => Or1J O w ga gb gc sv iv wr) (fun _ iv _ => 100 - (intOf iv).toNat)
  case atStart => exact S0.out
  case round =>
    obtain ⟨i, u, rfl, hi, rfl, h⟩ := hrel
    clear S0
    rw [HOL.out] at hi
    have hi0' : (0 : Int) ≤ i := by omega
    by_cases hlt : i < m
    · have hlt' : (i : Int) < len := by omega
      have hlt2 : (i : Int) < m := by omega
      obtain ⟨t, hx⟩ : ∃ t, T[i]? = some t := ⟨_, List.getElem?_eq_getElem (by rw [HT.out]; exact hlt)⟩
      have ht := HOK.out t (List.mem_of_getElem? hx)
      obtain ⟨b, off, rfl, hbl, hcc⟩ := (HR.out.keep h.below) (by rw [HT.out]; omega)
      have c0 := hcc i _ hx 0 _ rfl
      have c1 := hcc i _ hx 1 _ rfl
      have c2 := hcc i _ hx 2 _ rfl
      have c3 := hcc i _ hx 3 _ rfl
      have c4 := hcc i _ hx 4 _ rfl
      have c5 := hcc i _ hx 5 _ rfl
      simp only [Nat.add_zero] at c0
      have hxo : O[i]? = some (ownR t.r) := by rw [HO.out]; exact ownL_at hx
      have EQ := Lib.hid (take_snoc hxo)
      have EF := Lib.hid (fold_snoc newV O i _ hxo)
      have K := thing_own t.r ht
      have KT := Lib.hid K
      have hone := rcs_enc.one (ownR t.r)
      have HYO := Lib.hid (ownR_ok t.r)
      have HI : Hid (i + 1 ≤ O.length) := by show i + 1 ≤ O.length; rw [HOL.out]; exact hlt
      have hle : (O.take i).length ≤ 30 := by rw [List.length_take]; omega
      have HFE : Hid ((foldV newV (O.take i)).E.length < 1000000) := by
        have := fold_len (O.take i) newV
        have e : newV.E.length = 0 := rfl
        show _ < _; omega
      have BX := Lib.hid (h.alloc (.cells #[.int .i64 t.r.id, .int .i64 t.r.st, .int .u32 t.r.n, .int .u32 t.r.ip, .int .u16 t.r.port, .bool true] 39))
      have X0 : Hid (Cs wr.heap.size [.int .i64 t.r.id, .int .i64 t.r.st, .int .u32 t.r.n, .int .u32 t.r.ip, .int .u16 t.r.port, .bool true] (wr.alloc (.cells #[.int .i64 t.r.id, .int .i64 t.r.st, .int .u32 t.r.n, .int .u32 t.r.ip, .int .u16 t.r.port, .bool true] 39))) := Cs.new wr _ 39
      have HOWN : Hid (∀ k, (Value.slice u.a (O.take i).length u.c).ownBlock = some k → k ≠ wr.heap.size) := fun k hk e => by
        have hn := oR_n h (u := u) (L := O.take i) (by simp)
        have := It.lt (h.row (r := iR u (O.take i)) (by simp)) (b := k) (by
          show (Value.slice u.a u.n u.c).ownBlock = some k
          rw [hn]; exact hk)
        omega
      clear hcc hxo h hx ht
      generalize ownR t.r = y at *
      obtain ⟨r, own⟩ := t
      simp only at *
      generalize foldV newV (O.take i) = va at *
      generalize O.take i = L at *
      go_upto_region 16 with fail
      clear c0 c1 c2 c3 c4 c5 hbl
      generalize (wr.alloc (.cells #[.int .i64 r.id, .int .i64 r.st, .int .u32 r.n, .int .u32 r.ip, .int .u16 r.port, .bool true] 39)) = wb at *
      generalize wr.heap.size = bt at *
      have x0 := X0.out.cell 0 _ rfl
      have x1 := X0.out.cell 1 _ rfl
      have x2 := X0.out.cell 2 _ rfl
      have x3 := X0.out.cell 3 _ rfl
      have x4 := X0.out.cell 4 _ rfl
      have x5 := X0.out.cell 5 _ rfl
      have xl := X0.out.lt
      go_wp2_with fail
      refine (K _).mono ?_; rintro e w5 ⟨rfl, b5⟩
      have H := Lib.hid (BX.out.keep b5)
      replace X0 := Lib.hid (X0.out.keep b5)
      clear K b5 BX x0 x1 x2 x3 x4 x5 xl
      go_wp2_with (at_builtin; refine wpList_append_lies _ rfl (.tmp 47) (.tmp 50) 54 rfl 0 37 i0 _ 5 32 Try.underlying54 hi0 hz0 hz1 hz2 rfl (by omega) (.slice u.a L.length u.c) L.length (L.map rcs).flatten rfl ((H.out.alloc _).ownR (by simp)) ⟨_, 0, none⟩ 1 1 (rcs y) rfl rfl (World.news_of_block (cs := (rcs y).toArray) (t := 37) (fr := (0, 0)) (heap_alloc_new _ _)) hone (by omega) ?c2 ?c3 ?c4 _ rfl ?_)
      case c2 => unfold maxLen; omega
      case c3 => omega
      case c4 => exact Nat.zero_le _
      intro gg cap1 w9 hown hgrow hat hlt9
      have H9 := Lib.hid (H.out.appR hown hgrow (by simpa using hat))
      have X9 := X0.out.touch (((Touch.refl (fun k => (Value.slice u.a L.length u.c).ownBlock = some k) w5).alloc _).trans (Touch.of_grown (F := fun k => (Value.slice u.a L.length u.c).ownBlock = some k) hgrow (fun k hk => hk)) (fun _ _ h => h)) (fun hk => HOWN.out _ hk rfl)
      clear hown hgrow hat H X0 HOWN
      have x0 := X9.cell 0 _ rfl
      have x1 := X9.cell 1 _ rfl
      have x2 := X9.cell 2 _ rfl
      have x3 := X9.cell 3 _ rfl
      have x4 := X9.cell 4 _ rfl
      have x5 := X9.cell 5 _ rfl
      have xl := X9.lt
      clear X9
      go_wp2_with fail
      refine (KT.out _).mono ?_; rintro e wc ⟨rfl, bc⟩
      have h := H9.out.keep bc
      have TK := take_l y HYO.out [(gc, newV), (gb, newV)] [] h HFE.out
      clear bc H9 KT x0 x1 x2 x3 x4 x5 xl h
      go_wp2_with fail
      refine TK.mono ?_; rintro e wd ⟨rfl, h⟩
      have h : LS w [(gc, newV), (gb, newV), (ga, takeV va y)] [iR ⟨some ⟨gg, 0, none⟩, L.length + 1, cap1⟩ (L ++ [y])] wd := h
      have HD := Lib.hid h
      clear TK h
      go_wp2
      go_roundw
      case rel => exact ⟨i + 1, ⟨some ⟨gg, 0, none⟩, L.length + 1, cap1⟩, by go_num, HI.out, by rw [EQ.out, List.length_append]; rfl, by rw [EQ.out]; rw [EQ.out] at EF; rw [EF.out]; exact HD.out⟩
      case measure => have := HI.out; have := HOL.out; simp [intOf]; omega
    · obtain rfl : i = m := by omega
      have hOt : O.take i = O := by rw [← HOL.out, List.take_length]
      rw [hOt] at h ⊢
      rw [HOL.out]
      have hge : decide ((i : Int) < i) = false := decide_eq_false (by omega)
      have hBA := best_fold O [] newV best_start new_ok HOO.out
      rw [List.append_nil] at hBA
      have HBA := Lib.hid hBA
      have HVA := Lib.hid (fold_ok O new_ok (fun r hr => (HOO.out r hr).1))
      have HEA : Hid ((foldV newV O).E.length ≤ 30) := by
        have := fold_len O newV
        have e : newV.E.length = 0 := rfl
        have := HOL.out
        show _ ≤ _; omega
      obtain ⟨va, hva⟩ : ∃ va, foldV newV O = va := ⟨_, rfl⟩
      have HVE := Lib.hid hva
      rw [hva] at h HBA HVA HEA
      have hn30 : (i : Int) ≤ 30 := by omega
      have S1 : Hid (Or2J O w ga gb gc va u (.int .i64 ((i : Int) - 1)) wr) := ⟨O.length, newV, (i : Int) - 1, rfl, by rw [HOL.out], Nat.le_refl _, orb_start O, h⟩
      have hiq : ∃ q : Nat, q = i := ⟨_, rfl⟩
      clear h hOt hlt hBA hva hmin HR HOK HT HO hiq
      go_wp2_with fail
      go_loopw [11] (fun iv wr => Or2J O w ga gb gc va u iv wr) (fun iv _ => (intOf iv + 1).toNat)
      case atStart => exact S1.out
      case round =>
        obtain ⟨j, vb, q, rfl, hq, hj, hB, h⟩ := hrel
        clear S1
        rw [HOL.out] at hj
        by_cases hj0 : 0 < j
        · obtain ⟨k, rfl⟩ : ∃ k, j = k + 1 := ⟨j - 1, by omega⟩
          obtain rfl : q = (k : Int) := by omega
          clear hq
          have hk0 : (0 : Int) ≤ k := by omega
          have hki : (k : Int) < i := by omega
          obtain ⟨r, hr⟩ : ∃ r, O[k]? = some r := ⟨_, List.getElem?_eq_getElem (by rw [HOL.out]; omega)⟩
          obtain ⟨p, hp⟩ : ∃ p, i / 2 = p := ⟨_, rfl⟩
          have hpi : p < i := by omega
          have hpi' : (p : Int) < i := by omega
          have hp0 : (0 : Int) ≤ p := by omega
          have hp1 : (i : Int).tdiv 2 = p := by rw [Int.tdiv_eq_ediv_of_nonneg hi0']; omega
          have hp2 : (i : Int) / 2 = p := by omega
          obtain ⟨s, hs⟩ : ∃ s, O[p]? = some s := ⟨_, List.getElem?_eq_getElem (by rw [HOL.out]; omega)⟩
          have hrO := HOO.out r (List.mem_of_getElem? hr)
          have hsO := HOO.out s (List.mem_of_getElem? hs)
          have NX := Lib.hid (orb_step HOO.out hB hr (List.mem_of_getElem? hs))
          have hbe : vb.E.length ≤ 60 := by have := hB.E; have := HOL.out; omega
          have K := take_l r hrO.1 [(gc, newV)] [(ga, va)] h (by omega)
          have K2 := fun wx (hx : LS w ([(gc, newV)] ++ (gb, takeV vb r) :: [(ga, va)]) [iR u O] wx) => take_l s hsO.1 [(gc, newV)] [(ga, va)] hx (by have := take_len vb r; omega)
          have K2 := Lib.hid K2
          obtain ⟨b, off, hbo, hbl, hcc⟩ := (h.rd (u := u) (L := O) (by simp)) (by rw [HOL.out]; omega)
          have c0 := hcc k r hr 0 _ rfl
          have c1 := hcc k r hr 1 _ rfl
          have c2 := hcc k r hr 2 _ rfl
          have c3 := hcc k r hr 3 _ rfl
          have c4 := hcc k r hr 4 _ rfl
          simp only [Nat.add_zero] at c0
          have HS := Lib.hid hs
          obtain ⟨ua, un, uc⟩ := u
          simp only at hbo
          subst hbo
          have HK : Hid (k ≤ O.length) := by show k ≤ _; rw [HOL.out]; omega
          clear hcc h hr hs hrO hsO hB hp
          go_wp2_with fail
          refine K.mono ?_; rintro e w5 ⟨rfl, h⟩
          obtain ⟨b', off', e', hbl', hcc⟩ := (h.rd (u := ⟨some ⟨b, off, none⟩, un, uc⟩) (L := O) (by simp)) (by rw [HOL.out]; omega)
          simp only [Option.some.injEq, Addr.mk.injEq, and_true] at e'
          obtain ⟨rfl, rfl⟩ := e'
          clear c0 c1 c2 c3 c4 hbl
          have c0 := hcc p s HS.out 0 _ rfl
          have c1 := hcc p s HS.out 1 _ rfl
          have c2 := hcc p s HS.out 2 _ rfl
          have c3 := hcc p s HS.out 3 _ rfl
          have c4 := hcc p s HS.out 4 _ rfl
          simp only [Nat.add_zero] at c0
          have KK := K2.out w5 h
          clear K K2 h hcc
          go_wp2_with fail
          refine KK.mono ?_; rintro e w6 ⟨rfl, h⟩
          have h : LS w [(gc, newV), (gb, takeV (takeV vb r) s), (ga, va)] [iR ⟨some ⟨b, off, none⟩, un, uc⟩ O] w6 := h
          have HD := Lib.hid h
          clear KK h c0 c1 c2 c3 c4 hbl'
          go_wp2
          go_roundw
          case rel => exact ⟨k, takeV (takeV vb r) s, (k : Int) - 1, by go_num, rfl, HK.out, NX.out, HD.out⟩
          case measure => first | (simp [intOf]; done) | (simp [intOf]; omega)
        · obtain rfl : j = 0 := by omega
          obtain rfl : q = -1 := by omega
          clear hq hj hj0
          obtain ⟨M, hM, hM1, hM2⟩ := hB.best
          have hMO := hM.of_mem (fun x => ⟨hM1 x, fun hx => hM2 x hx⟩)
          have HMS := Lib.hid (best_same HBA.out hMO HVA.out hB.ok)
          have hK := merge_l u O (fun r hr => (HOO.out r hr).1) (by rw [HOL.out]; omega) [] [(gb, vb), (ga, va)] h (by simp) (by show 0 + O.length < _; rw [HOL.out]; omega)
          rw [HOL.out] at hK
          obtain ⟨e1, e2, e3⟩ := merge_good HRG.out newV
          rw [e1, e2, e3, HVE.out] at hK
          obtain ⟨t1, t2⟩ := best_turned HBA.out O (fun r hr => ⟨hr, (HOO.out r hr).2⟩)
          have T1 := Lib.hid t1
          have T2 := Lib.hid t2
          clear h e1 e2 e3 t1 t2 hM hM1 hM2 hMO hB
          go_wp2_with fail
          refine hK.mono ?_; rintro e w5 ⟨x, rfl, h⟩
          have h : LS w [(gc, va), (gb, vb), (ga, va)] _ w5 := h
          have K := members_l [(gc, va), (gb, vb)] [] h
          obtain ⟨MM, hMM⟩ : ∃ MM, membersV va = MM := ⟨_, rfl⟩
          have HMM := Lib.hid hMM
          obtain ⟨ml, hml2⟩ : ∃ ml, MM.length = ml := ⟨_, rfl⟩
          have HML := Lib.hid hml2
          have hm33 : ml ≤ 33 := by have := members_len va; rw [hMM, hml2] at this; exact this
          rw [hMM, hml2] at K
          clear hK h hMM hml2
          go_wp2_with fail
          refine K.mono ?_; rintro e w6 ⟨ux, rfl, h⟩
          have h : LS w [(gc, va), (gb, vb), (ga, va)] _ w6 := h
          have K1 := members_l [(gc, va)] [(ga, va)] h
          rw [← HMS.out, HMM.out, HML.out] at K1
          clear K h
          go_wp2_with fail
          refine K1.mono ?_; rintro e w7 ⟨uy, rfl, h⟩
          have h : LS w [(gc, va), (gb, vb), (ga, va)] _ w7 := h
          have K2 := members_l [] [(gb, vb), (ga, va)] h
          rw [HMM.out, HML.out] at K2
          clear K1 h
          go_wp2_with fail
          refine K2.mono ?_; rintro e w8 ⟨uz, rfl, h⟩
          have h : LS w [(gc, va), (gb, vb), (ga, va)] [iR uz MM, iR uy MM, iR ux MM, iR x (turnedL newV O), iR u O] w8 := h
          have HL := Lib.hid h
          have hml0 : (ml : Int) ≤ 33 := by omega
          clear K2 h
          go_wp2_with fail
          go_loopw [15] (fun iv wr => Or3J ml (fun wr => LS w [(gc, va), (gb, vb), (ga, va)] [iR uz MM, iR uy MM, iR ux MM, iR x (turnedL newV O), iR u O] wr) iv wr) (fun iv _ => 100 - (intOf iv).toNat)
          case atStart => exact ⟨0, rfl, Nat.zero_le _, HL.out⟩
          case round =>
            obtain ⟨j, rfl, hjl, h⟩ := hrel
            clear HL
            have hj0 : (0 : Int) ≤ j := by omega
            by_cases hlt : j < ml
            · have hlt' : (j : Int) < ml := by omega
              obtain ⟨r, hr⟩ : ∃ r, MM[j]? = some r := ⟨_, List.getElem?_eq_getElem (by rw [HML.out]; exact hlt)⟩
              obtain ⟨bx, ox, ex, hlx, hcx⟩ := (h.rd (u := ux) (L := MM) (by simp)) (by rw [HML.out]; omega)
              obtain ⟨by', oy, ey, hly, hcy⟩ := (h.rd (u := uy) (L := MM) (by simp)) (by rw [HML.out]; omega)
              obtain ⟨bz, oz, ez, hlz, hcz⟩ := (h.rd (u := uz) (L := MM) (by simp)) (by rw [HML.out]; omega)
              have x0 := hcx j r hr 0 _ rfl
              have x1 := hcx j r hr 1 _ rfl
              have x2 := hcx j r hr 2 _ rfl
              have x3 := hcx j r hr 3 _ rfl
              have x4 := hcx j r hr 4 _ rfl
              have y0 := hcy j r hr 0 _ rfl
              have y1 := hcy j r hr 1 _ rfl
              have y2 := hcy j r hr 2 _ rfl
              have y3 := hcy j r hr 3 _ rfl
              have y4 := hcy j r hr 4 _ rfl
              have z0 := hcz j r hr 0 _ rfl
              have z1 := hcz j r hr 1 _ rfl
              have z2 := hcz j r hr 2 _ rfl
              have z3 := hcz j r hr 3 _ rfl
              have z4 := hcz j r hr 4 _ rfl
              simp only [Nat.add_zero] at x0 y0 z0
              have H := Lib.hid h
              have HJ : Hid (j + 1 ≤ ml) := hlt
              obtain ⟨xa, xn, xc⟩ := ux
              obtain ⟨ya, yn, yc⟩ := uy
              obtain ⟨za, zn, zc⟩ := uz
              simp only at ex ey ez
              subst ex ey ez
              by_cases hjz : 0 < j
              · obtain ⟨k, rfl⟩ : ∃ k, j = k + 1 := ⟨j - 1, by omega⟩
                obtain ⟨p, hp⟩ : ∃ p, MM[k]? = some p := ⟨_, List.getElem?_eq_getElem (by rw [HML.out]; omega)⟩
                have hpr : p.id < r.id := members_rise HVA.out (by rw [HMM.out]; exact hp) (by rw [HMM.out]; exact hr)
                have p0 := hcx k p hp 0 _ rfl
                simp only [Nat.add_zero] at p0
                have hkk : (((k + 1 : Nat) : Int)) - 1 = (k : Int) := by omega
                have hkk2 : (((k + 1 : Nat) : Int)) = (k : Int) + 1 := by omega
                have hk0 : (0 : Int) ≤ k := by omega
                have hk1 : (0 : Int) < (k : Int) + 1 := by omega
                have hkm : (k : Int) < ml := by omega
                have hd : decide (r.id ≤ p.id) = false := decide_eq_false (by omega)
                rw [hkk2] at hlt' hj0
                clear h hcx hcy hcz hr hp
                go_upto_region 32 with fail
                go_quiet (fail)
                have HQ := Lib.hid (H.out.keep (below_drewN (Below.refl _ _) nq))
                clear x0 x1 x2 x3 x4 y0 y1 y2 y3 y4 z0 z1 z2 z3 z4 p0 H
                go_wp2_with fail
                go_roundw
                case rel => exact ⟨k + 1 + 1, by go_num, HJ.out, HQ.out⟩
                case measure => have := HJ.out; simp [intOf]; omega
              · obtain rfl : j = 0 := by omega
                clear h hcx hcy hcz hr
                simp only [Nat.zero_mul, Nat.add_zero, Nat.zero_add] at x0 x1 x2 x3 x4 y0 y1 y2 y3 y4 z0 z1 z2 z3 z4
                go_upto_region 32 with fail
                go_quiet (fail)
                have HQ := Lib.hid (H.out.keep (below_drewN (Below.refl _ _) nq))
                clear x0 x1 x2 x3 x4 y0 y1 y2 y3 y4 z0 z1 z2 z3 z4 H
                go_wp2_with fail
                go_roundw
                case rel => exact ⟨0 + 1, by go_num, HJ.out, HQ.out⟩
                case measure => have := HJ.out; first | (simp [intOf]; done) | (simp [intOf]; omega)
            · obtain rfl : j = ml := by omega
              have K := merge_l u O (fun r hr => (HOO.out r hr).1) (by rw [HOL.out]; omega) [(gc, va), (gb, vb)] [] h (by simp) (by have := HEA.out; rw [HOL.out]; omega)
              rw [HOL.out] at K
              obtain ⟨e1, e2, e3⟩ := merge_good HRG.out va
              rw [e1, e2, e3, T1.out] at K
              clear e1 e2 e3 h
              go_wp2_with fail
              refine K.mono ?_; rintro e w9 ⟨x9, rfl, h⟩
              have HB := Lib.hid h.below
              clear K h
              go_wp2
              go_ret
              exact ⟨rfl, HB.out⟩
theorem order_run (a : Option Addr) (len cap : Nat) (w : World) (h : ThingRow w a len cap) :
    Calls Try.prog 4 #[.slice a len cap] w (OrPost w) := by
  obtain ⟨T, hT, hr, hok⟩ := things_list h (min len 30) (by omega)
  exact order_walk a len cap (min len 30) T w rfl hT hr hok h.len
theorem viewOrder_own : ownKnob Try.prog.godebug = none := by kernel_rfl
theorem viewOrder_laid : laidOutB Try.prog = true := by kernel_rfl
set_option maxRecDepth 100000 in
theorem viewOrder_lifted (os : Os) (started : os.Started) (H : Type) (enc : TypeId × Value → H) :
    ReturnsInHanded {} Try.checked os 4 .any (Rows.viewOrderSpec.pre6 enc Try.prog Try.f4 Rows.viewOrderRow.domain false) (Rows.viewOrderSpec.post enc Try.prog Try.f4 false true false false) := by
  refine returnsInHanded_of_change (C := Try.checked) viewOrder_own started (by kernel_rfl) Try.func4
    (ChangeSpec.witness6 (enc := enc) (C := Try.checked) false ⟨#[], #[.slice none 0 0], []⟩ 8 (by kernel_rfl) (by kernel_rfl) (by kernel_rfl) (by kernel_rfl)) ?_
  intro W base args ds gs before hval0 hW hcnd _
  have hval : ∀ (j : Nat) t v, Try.f4.params[j]? = some t → args[j]? = some v → Value.okWide Try.prog W .any base t v := hval0
  have hW' := hW
  obtain ⟨p, q, hA0, hV, rfl, hfz, hnd⟩ := hW
  have hA : DataW.TrodAll enc Try.prog W 0 (fun _ => true) true Try.f4.params.toList args.toList ds p := hA0
  rw [Try.params4] at hA hval
  obtain ⟨v0, vs0, d0, ds0, p0, q0, hargs, rfl, rfl, h0, r0⟩ := trodAll_cons hA
  obtain ⟨rfl, rfl, rfl⟩ := trodAll_nil r0
  obtain rfl : args = #[v0] := by cases args; simp_all
  obtain ⟨rfl, rfl⟩ := trodVars_none hV
  obtain ⟨a0, len0, cap0, rfl⟩ := okWide_slice Try.underlying22 (hval 0 22 v0 rfl rfl)
  have k0 := h0
  have lt0 : ∀ x ∈ p0, x.block < W.heap.size := by obtain ⟨m, hm⟩ := k0; exact DataW.trod_lt m _ _ _ hm
  have w0 : ThingRow W a0 len0 cap0 := by
    obtain ⟨fuel, hf⟩ := h0
    exact things_open hf
  clear hA0 hval0
  refine (order_run a0 len0 cap0 W w0).mono fun e W' ⟨he, bel⟩ => ?_
  subst he
  exact ⟨_, rfl, _, _, _, [], _, [], hW', trodAll_mk1 (shut_bool Try.underlying4 _), (trodAll_cons_mk (Below.trod viewOrder_laid (by kernel_rfl) (of_decide_eq_true (by kernel_rfl)) k0 bel lt0) trodAll_mk0), rfl, bel.frame _, fun h => by cases h⟩
theorem viewOrder_over : Rows.viewOrderRow.holds Try.pinned (OpenSpec.ofChange Rows.viewOrderSpec) :=
  OpenClaim.holds_of_wide 4 Try.f4 rfl rfl rfl rfl rfl rfl rfl ⟨rfl, rfl, rfl, rfl, rfl⟩ rfl rfl rfl rfl rfl (by kernel_rfl) Try.func4 (by kernel_rfl)
    (of_decide_eq_true (by kernel_rfl)) (by unfold Func.isWrapper; first | (rw [if_pos (by decide +kernel)]; kernel_rfl) | (rw [if_neg (by decide +kernel)]; exact ⟨rfl, rfl⟩))
    (fun os started H enc _ => viewOrder_lifted os started H enc)
theorem viewOrder_holds : Rows.ViewOrderSaid := viewOrder_over
#print axioms viewOrder_holds
end Go.Proofs.Ytchhbhoikkdmeaa
