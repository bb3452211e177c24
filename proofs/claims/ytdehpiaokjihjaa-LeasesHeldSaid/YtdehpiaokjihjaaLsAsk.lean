/- The program's leases: Ask (in time, as many places as ids; fewer than 20 who may be asked). -/
import Derived.Test.YtdehpiaokjihjaaLsMay
namespace Go.Proofs.Ytdehpiaokjihjaa
open Go.Sort Go.RowKit Go.BigFrame
set_option linter.unusedVariables false
set_option linter.unusedSimpArgs false

theorem upd_upd {α : Type} (f : Nat → α) (i : Nat) (x y : α) : upd (upd f i x) i y = upd f i y := by
  funext j; unfold upd; split <;> rfl
theorem Es.ask {g : Nat} {k : Ls} {w : World} (h : Es g k w) {now : Int} (h0 : 0 ≤ now) (h1 : now ≤ 4611686018427387904) {i : Nat} (hi : 1 ≤ i ∧ i ≤ 32) :
    EAft g (askD now k i) w ((w.setCell ⟨g, 2 + i * 3, none⟩ (.bool true)).setCell ⟨g, 2 + i * 3 + 1, none⟩ (.int .u64 now)) := by
  have hi3 : i < 33 := by omega
  have hok := askD_ok h.ok h0 h1 (id := (i : Int)) (by omega)
  refine ⟨⟨?_, hok⟩, Touch.set (F := fun b => b = g) (Touch.set (F := fun b => b = g) (Touch.refl _ _) (fun _ => rfl) _) (fun _ => rfl) _⟩
  have b1 := h.bk.set (2 + i * 3) (.bool true)
  unfold cE at b1
  have e1 := cB_set ce_enc (hd := hdE k) rfl k.rl hi3 (j := 0) (by omega) { k.rl i with ask := true } (.bool true) rfl
  rw [Nat.add_zero] at e1
  rw [e1] at b1
  have b2 := b1.set (2 + i * 3 + 1) (.int .u64 now)
  have e2 := cB_set ce_enc (hd := hdE k) rfl (upd k.rl i { k.rl i with ask := true }) hi3 (j := 1) (by omega) (askR now (k.rl i)) (.int .u64 now) (by rw [upd_same]; rfl)
  rw [e2, upd_upd] at b2
  exact b2
/-- what asks holds, on its way -/
structure AS (g : Nat) (k : Ls) (now : Int) (w3 : World) (L : List Int) (i : Nat) (sv : Value) (wr : World) : Prop where
  row : ERow c64 1 3 wr sv (L.take i)
  own : ∀ b, sv.ownBlock = some b → w3.heap.size ≤ b
  es : Es g (asks now k (L.take i)) wr
  tch : Touch (fun b => b = g) w3 wr
  gl : g < w3.heap.size
section
variable {g : Nat} {k : Ls} {now : Int} {w3 wr w' : World} {L : List Int} {i : Nat} {sv sv' : Value}
theorem AS.keep (h : AS g k now w3 L i sv wr) (hb : Below wr.heap.size wr w') : AS g k now w3 L i sv w' :=
  ⟨erow_keep h.row hb, h.own, h.es.keep hb, h.tch.trans (Touch.of_below (fun _ => False) hb) (fun _ _ h => h.elim), h.gl⟩
theorem asks_succ {k : Ls} {now : Int} {L : List Int} {i : Nat} {x : Int} (h : L[i]? = some x) : asks now k (L.take (i + 1)) = askD now (asks now k (L.take i)) x := by
  obtain ⟨hi, rfl⟩ := List.getElem?_eq_some_iff.1 h
  unfold asks
  rw [List.take_succ_eq_append_getElem hi, List.foldl_append]; rfl
/-- the relay is marked, the ID is appended -/
structure AS2 (g : Nat) (k : Ls) (now : Int) (w3 : World) (L : List Int) (i : Nat) (sv : Value) (wr : World) : Prop where
  row : ERow c64 1 3 wr sv (L.take i)
  own : ∀ b, sv.ownBlock = some b → w3.heap.size ≤ b
  es : Es g (asks now k (L.take (i + 1))) wr
  tch : Touch (fun b => b = g) w3 wr
  gl : g < w3.heap.size
theorem AS.mark (h : AS g k now w3 L i sv wr) (h0 : 0 ≤ now) (h1 : now ≤ 4611686018427387904) {n : Nat} (hx : L[i]? = some (n : Int)) (hn : 1 ≤ n ∧ n ≤ 32) :
    AS2 g k now w3 L i sv ((wr.setCell ⟨g, 2 + n * 3, none⟩ (.bool true)).setCell ⟨g, 2 + n * 3 + 1, none⟩ (.int .u64 now)) := by
  have h2 := h.es.ask h0 h1 hn
  rw [← asks_succ hx] at h2
  refine ⟨erow_touch h.row h2.2 (fun b hb e => ?_), h.own, h2.1, h.tch.trans h2.2 (fun _ _ h => h), h.gl⟩
  have h3 := h.own b hb; have h4 := h.gl; have e' : b = g := e; omega
theorem AS2.keep (h : AS2 g k now w3 L i sv wr) (hb : Below wr.heap.size wr w') : AS2 g k now w3 L i sv w' :=
  ⟨erow_keep h.row hb, h.own, h.es.keep hb, h.tch.trans (Touch.of_below (fun _ => False) hb) (fun _ _ h => h.elim), h.gl⟩
theorem AS2.app (h : AS2 g k now w3 L i sv wr) {x : Int} (hx : L[i]? = some x) (hg : wr.grownBy w' sv.ownBlock) (hr : ERow c64 1 3 w' sv' (L.take i ++ [x])) (ho : ∀ b, sv'.ownBlock = some b → w3.heap.size ≤ b) : AS g k now w3 L (i + 1) sv' w' := by
  have T : Touch (fun b => sv.ownBlock = some b) wr w' := Touch.of_grown hg (fun _ h => h)
  refine ⟨?_, ho, h.es.touch T (fun e => by have h1 := h.own g e; have h2 := h.gl; omega), h.tch.trans T (fun b hb e => by have h1 := h.own b e; omega), h.gl⟩
  obtain ⟨hi, rfl⟩ := List.getElem?_eq_some_iff.1 hx
  rw [List.take_succ_eq_append_getElem hi]; exact hr
end
def AskPost (g : Nat) (k : Ls) (now : Int) (L : List Int) (w : World) (e : Ending) (w' : World) : Prop := ∃ u : Sl, e = .returned (.slice u.a u.n u.c) ∧ NewE c64 1 3 L w u w' ∧ EAft g (asks now k L) w w'
def AJ (g : Nat) (k : Ls) (now : Int) (w3 : World) (L : List Int) (sv iv : Value) (wr : World) : Prop := ∃ i : Nat, i ≤ L.length ∧ iv = .int .i64 (i : Nat) ∧ AS g k now w3 L i sv wr
/-- behind mayAsk: both rows -/
structure AW (g : Nat) (k : Ls) (w : World) (ua : Option Addr) (uc : Nat) (va : Option Addr) (vc : Nat) (E : List Int) (P : List (Nat × Nat)) (wr : World) : Prop where
  who : ERow c64 1 3 wr (.slice ua E.length uc) E
  wh : ERow cc 1 50 wr (.slice va P.length vc) P
  ow : ∀ b, (Value.slice ua E.length uc).ownBlock = some b → w.heap.size ≤ b
  es : Es g k wr
  bel : Below w.heap.size w wr
theorem AW.keep {g : Nat} {k : Ls} {w wr w' : World} {ua va : Option Addr} {uc vc : Nat} {E : List Int} {P : List (Nat × Nat)} (h : AW g k w ua uc va vc E P wr) (hb : Below wr.heap.size wr w') : AW g k w ua uc va vc E P w' :=
  ⟨erow_keep h.who hb, erow_keep h.wh hb, h.ow, h.es.keep hb, h.bel.trans (hb.mono h.bel.size)⟩
set_option maxHeartbeats 12800000 in
set_option maxRecDepth 100000 in
theorem ask_any (now : Int) (h0 : 0 ≤ now) (h1 : now ≤ 4611686018427387904) (x y : Nat) (ids : List Int) (ps : List (Nat × Nat)) (hlen : ids.length = ps.length) (hl : ids.length < 20) (ia : Option Addr) (ic : Nat) (pa : Option Addr) (pc : Nat) (g : Nat) (k : Ls) (w : World) (h : Es g k w) (hi : RdE c64 1 w ia ids) (hp : RdE cc 1 w pa ps)
    (F : List Int) (hF : FarB x y (mayA k now (ids.zip ps)).wh F) :
    Calls Try.prog 14 #[.pointer (some ⟨g, 0, none⟩), .int .u64 now, .complex .f64 x y, .slice ia ids.length ic, .slice pa ids.length pc] w (AskPost g k now (askL k now (mayA k now (ids.zip ps)) F) w) := by
  obtain ⟨i0, hi0x, hz0, hz1, hz2⟩ := info_parts info_int
  have KM := mayask_any now ids ps hlen (by omega) ia ic pa pc g k w h hi hp
  have H := Lib.hid h
  have hgl := h.lt
  have HLE : Hid ((mayA k now (ids.zip ps)).who.length < 20 ∧ (mayA k now (ids.zip ps)).wh.length = (mayA k now (ids.zip ps)).who.length) := by
    have h2 := mayS_len k now (ids.zip ps) (ids.zip ps).length
    have h3 : (ids.zip ps).length ≤ ids.length := by rw [List.length_zip]; exact Nat.min_le_left _ _
    unfold mayA
    exact ⟨by omega, h2.2.symm⟩
  have HND : Hid (∀ id ∈ (mayA k now (ids.zip ps)).who, 1 ≤ id ∧ id ≤ 32) := mayS_node k now (ids.zip ps) _
  have HOK := Lib.hid h.ok
  have hq : decide (4611686018427387904 < now) = false := decide_eq_false (by omega)
  unfold askL
  unfold MayPost at KM
  generalize mayA k now (ids.zip ps) = mm at *
  obtain ⟨E, P, mt⟩ := mm
  simp only at HLE HND hF KM ⊢
  generalize ids.length = n at *
  have hn0 : (0 : Int) ≤ n := by omega
  have hneq : ((n : Int) != n) = false := by simp
  clear h hi hp hlen
  go_enter Try.func14, Try.ntmps14
  go_wp2_with fail
  refine KM.mono ?_; rintro e w1 ⟨u, v, rfl, ⟨q1, q2, q3⟩, ⟨s1, s2, s3⟩, b1⟩
  obtain ⟨ua, un, uc⟩ := u
  obtain ⟨va, vn, vc⟩ := v
  simp only at q2 s2
  subst q2 s2
  have A1 : Hid (AW g k w ua uc va vc E P w1) := ⟨q1, s1, q3, H.out.keep b1, b1⟩
  clear KM q1 q3 s1 s3 b1
  obtain ⟨hc, hhc⟩ : ∃ c, (heldL k now).length = c := ⟨_, rfl⟩
  have hhl : hc ≤ 33 := by rw [← hhc]; exact loH_len now k.rl 33
  have hw0 := HOK.out.w0
  have hw1 := HOK.out.w1
  have p1 := IntWalk.i64_in (k.want - (hc : Int)) ⟨by omega, by omega⟩
  rw [hhc]
  go_upto_region 4 with fail
  go_cut [13] (fun c wx => c = .int .i64 (k.want - (hc : Int)) ∧ AW g k w ua uc va vc E P wx)
  case first =>
    have KL : Hid (∀ wz, AW g k w ua uc va vc E P wz → Calls Try.prog 17 #[.pointer (some ⟨g, 0, none⟩), .int .u64 now] wz fun e w' => ∃ u : Sl, e = .returned (.slice u.a hc u.c) ∧ AW g k w ua uc va vc E P w') := fun wz st => (heldL_any now g k wz st.es).mono fun e w' ⟨u, q1, q2, q3⟩ => ⟨u, by rw [q1, q2.2.1, hhc], st.keep q3⟩
    have mkS : Hid (∀ w', AW g k w ua uc va vc E P w' → w'.cell? ⟨g, 0, none⟩ = some (.int .i64 k.want) ∧ True) := fun w' st => ⟨st.es.hd 0 _ rfl, trivial⟩
    have SA := Lib.hid (A1.out.keep (Below.refl _ _).drew)
    clear A1
    go_region_held (fun w' => w'.cell? ⟨g, 0, none⟩ = some (.int .i64 k.want) ∧ True) (exact mkS.out _ SA.out) (first
      | (go_at_call 17; refine (KL.out _ SA.out).mono ?_; rintro e wA ⟨uA, rfl, sA⟩; have SA := Lib.hid sA; clear sA)
      | fail)
    all_goals go_wp2_with fail
    all_goals go_meet
    all_goals exact ⟨rfl, SA.out⟩
  case rest =>
    obtain ⟨rfl, hs⟩ := hcut
    generalize wc = w2 at *
    clear A1
    have A2 := Lib.hid hs
    clear hs
    have KN := nearest_any x y P F hF (by have := HLE.out; omega) (k.want - (hc : Int)) va vc w2 (erow_rd cc_enc A2.out.wh)
    have HFL : F.length = E.length := by rw [hF.1]; exact HLE.out.2
    have HMI : Hid (k.want - (((heldL k now).length : Nat) : Int) = k.want - (hc : Int)) := by show _ = _; rw [hhc]
    generalize k.want - (hc : Int) = mi at *
    clear hF hhc hhl hw0 hw1 p1
    go_wp2_with fail
    refine KN.mono ?_; rintro e w3 ⟨gn, rfl, r1, r2, b3⟩
    have A3 := Lib.hid (A2.out.keep b3)
    have hNM : ∀ z ∈ nearL F mi, 0 ≤ z ∧ z < (E.length : Nat) := fun z hz => by rw [← HFL]; exact nearL_mem hz
    have hNL : (nearL F mi).length ≤ E.length := by rw [nearL_len, HFL]; unfold cntN; omega
    clear KN
    have HLL : Hid (pickL E (nearL F mi) = pickL E (nearL F (k.want - (((heldL k now).length : Nat) : Int)))) := by show _ = _; rw [HMI.out]
    generalize nearL F mi = N at *
    obtain ⟨L, hL⟩ : ∃ L, pickL E N = L := ⟨_, rfl⟩
    rw [hL] at HLL
    have hLl : L.length = N.length := by rw [← hL]; unfold pickL; simp
    have HAT : Hid (∀ i, i < N.length → ∃ zn n : Nat, N[i]? = some (zn : Int) ∧ zn < E.length ∧ E[zn]? = some (n : Int) ∧ L[i]? = some (n : Int) ∧ 1 ≤ n ∧ n ≤ 32) := fun i hi => by
      have hz := hNM N[i] (List.getElem_mem hi)
      obtain ⟨zn, hzn⟩ : ∃ zn : Nat, N[i] = zn := ⟨N[i].toNat, by omega⟩
      have hzl : zn < E.length := by omega
      have he : E[zn]? = some E[zn] := List.getElem?_eq_getElem hzl
      have hnd := HND.out E[zn] (List.getElem_mem hzl)
      obtain ⟨n, hn⟩ : ∃ n : Nat, E[zn] = n := ⟨E[zn].toNat, by omega⟩
      refine ⟨zn, n, by rw [List.getElem?_eq_getElem hi, hzn], hzl, by rw [he, hn], ?_, by omega, by omega⟩
      rw [← hL]
      unfold pickL
      rw [List.getElem?_map, List.getElem?_eq_getElem hi, hzn]
      simp [List.getD_eq_getElem?_getD, he, hn]
    have HG3 := A3.out.bel.size
    have hg3 : g < w3.heap.size := A3.out.es.lt
    have J0 : Hid (AJ g k now w3 L (.slice none 0 0) (.int .i64 (0 : Nat)) w3) := ⟨0, Nat.zero_le _, rfl, erow_nil, fun b hb => by simp [Value.ownBlock] at hb, A3.out.es, Touch.refl _ _, hg3⟩
    have CN : Hid (∀ i z wr, N[i]? = some z → Touch (fun b => b = g) w3 wr → wr.cell? ⟨gn, i, none⟩ = some (.int .i64 z) ∧ gn < wr.heap.size) := fun i z wr hz ht => by
      obtain ⟨b, off, e, hb, hc⟩ := r1 (by have := (List.getElem?_eq_some_iff.1 hz).1; omega)
      simp only [Option.some.injEq, Addr.mk.injEq, and_true] at e
      obtain ⟨rfl, rfl⟩ := e
      have := hc i z hz 0 _ rfl
      simp only [Nat.mul_one, Nat.add_zero, Nat.zero_add] at this
      have hne : ¬ gn = g := by have := A2.out.bel.size; omega
      exact ⟨(ht.cell (p := ⟨gn, i, none⟩) hb hne).trans this, Nat.lt_of_lt_of_le hb ht.size⟩
    have hEp : 0 < N.length → ∃ ge, ua = some ⟨ge, 0, none⟩ ∧ ∀ z x wr, E[z]? = some x → Touch (fun b => b = g) w3 wr → wr.cell? ⟨ge, z, none⟩ = some (.int .i64 x) ∧ ge < wr.heap.size := fun hp => by
      rcases erow_form A3.out.who with ⟨_, h0⟩ | ⟨ge, cap, e, hlt⟩
      · have : E.length = 0 := by rw [h0]; rfl
        omega
      · simp only [Value.slice.injEq] at e
        obtain ⟨rfl, -, -⟩ := e
        refine ⟨ge, rfl, fun z x wr hx ht => ?_⟩
        obtain ⟨b, off, e, hb, hc⟩ := erow_rd c64_enc A3.out.who (by have := (List.getElem?_eq_some_iff.1 hx).1; omega)
        simp only [Option.some.injEq, Addr.mk.injEq, and_true] at e
        obtain ⟨rfl, rfl⟩ := e
        have := hc z x hx 0 _ rfl
        simp only [Nat.mul_one, Nat.add_zero, Nat.zero_add] at this
        have h3 := A3.out.ow ge rfl
        have hne : ¬ ge = g := by omega
        exact ⟨(ht.cell (p := ⟨ge, z, none⟩) hb hne).trans this, Nat.lt_of_lt_of_le hb ht.size⟩
    have HEP := Lib.hid hEp
    have HNL := Lib.hid hNL
    have HB3 := Lib.hid A3.out.bel
    have hE20 : E.length < 20 := HLE.out.1
    have hE20' : (E.length : Int) < 20 := by omega
    have hN20 : N.length < 20 := by omega
    have hN20' : (N.length : Int) < 20 := by omega
    have HLl := Lib.hid hLl
    clear hNM hNL r1 r2 b3 A2 A3 hL hEp HG3 HFL HND HLE hLl HMI
    go_wp2_with fail
    go_loopw [14, 16, 17, 49] (fun sv v16 v17 iv wr => AJ g k now w3 L sv iv wr) (fun _ _ _ iv _ => N.length - (intOf iv).toNat)
    case atStart => exact J0.out
    case round =>
      obtain ⟨i, hi, rfl, hS⟩ := hrel
      clear J0
      generalize u14 = sv at *
      have HS := Lib.hid hS
      clear hS
      have hi0 : (0 : Int) ≤ i := by omega
      by_cases hlt : i < N.length
      · have hlt2 : (i : Int) < N.length := by omega
        obtain ⟨zn, n, e1, e2, e3, e4, e5, e6⟩ := HAT.out i hlt
        obtain ⟨c1, l1⟩ := CN.out i _ wr e1 HS.out.tch
        obtain ⟨ge, rfl, hge⟩ := HEP.out (by omega)
        obtain ⟨c2, l2⟩ := hge zn _ wr e3 HS.out.tch
        have hlen : (L.take i).length = i := by rw [List.length_take]; have := HLl.out; omega
        have hzn0 : (0 : Int) ≤ zn := by omega
        have hzn1 : (zn : Int) < E.length := by omega
        have hn0' : (0 : Int) ≤ n := by omega
        have hn1' : (n : Int) < 33 := by omega
        have hn2' : n < 33 := by omega
        have HI1 : Hid (i + 1 ≤ L.length) := by show i + 1 ≤ _; rw [HLl.out]; exact hlt
        have E4 := Lib.hid e4
        have HGE := Lib.hid hge
        have E3 := Lib.hid e3
        have gl := HS.out.es.lt
        clear e1 e3 e4 hge hi HAT CN HLL HEP
        have c2' := cell_regrown c2
        go_wp2_with fail
        go_quiet (fail)
        have bq : Below wr.heap.size wr (wr.drewN nq) := below_drewN (Below.refl _ _) _
        have S4 := Lib.hid (HS.out.keep bq)
        clear bq c1 l1 c2 c2' l2 HS gl
        generalize wr.drewN nq = w4 at *
        have MS := Lib.hid (S4.out.mark h0 h1 E4.out ⟨e5, e6⟩)
        have r0 := S4.out.es.rl n (by omega) 0 _ rfl
        have r1 := S4.out.es.rl n (by omega) 1 _ rfl
        have fr := fun o => S4.out.es.free o
        have gl := S4.out.es.lt
        simp only [Nat.add_zero] at r0
        obtain ⟨c3, l3⟩ := HGE.out zn _ _ E3.out MS.out.tch
        go_upto_region 11 with fail
        generalize ((w4.setCell ⟨g, 2 + n * 3, none⟩ (.bool true)).setCell ⟨g, 2 + n * 3 + 1, none⟩ (.int .u64 now)) = w5 at *
        clear r0 r1 fr gl S4
        have hsm : (L.take i).length ≤ 20 := by omega
        go_wp2_with (at_builtin; refine wpList_append_lies _ rfl (.tmp 68) (.tmp 73) 35 rfl 0 3 i0 _ 1 8 Try.underlying35 hi0x hz0 hz1 hz2 rfl (by omega) sv (L.take i).length ((L.take i).map c64).flatten rfl (MS.out.keep ((Below.refl _ _).alloc (Nat.le_refl _) _)).row ⟨_, 0, none⟩ 1 1 (c64 (n : Int)) rfl rfl (World.news_of_block (cs := (c64 (n : Int)).toArray) (t := 3) (fr := (0, 0)) (heap_alloc_new _ _)) (c64_enc.one _) (by omega) ?c2 ?c3 ?c4 _ rfl ?_)
        case c2 => unfold maxLen; omega
        case c3 => omega
        case c4 => exact Nat.zero_le _
        intro g1 cap1 w9 hown hgrow hat hlt9
        have M4 := Lib.hid (MS.out.keep ((Below.refl _ _).alloc (Nat.le_refl _) (.cells (c64 (n : Int)).toArray 3)))
        have fin : ERow c64 1 3 w9 (.slice (some ⟨g1, 0, none⟩) (i + 1) cap1) (L.take i ++ [(n : Int)]) := erow_snoc hlen.symm (by rw [List.map_take]; exact hown)
        have hov : ∀ b, (Value.slice (some ⟨g1, 0, none⟩) (i + 1) cap1).ownBlock = some b → w3.heap.size ≤ b := fun b hb => by
          obtain rfl : g1 = b := by injection hb
          rcases hat with h | h
          · exact M4.out.own _ h
          · have := MS.out.tch.size; rw [h]; simp; omega
        have S5 := Lib.hid (M4.out.app E4.out hgrow fin hov)
        clear fin hov hown hgrow hat M4 MS c3 l3
        go_wp2
        go_roundw
        case rel => exact ⟨i + 1, HI1.out, by go_num, S5.out⟩
        case measure => simp [intOf]; omega
      · obtain rfl : i = L.length := by have := HLl.out; omega
        obtain ⟨a, cap2, hsv⟩ := erow_sl HS.out.row
        have F2 : Hid (NewE c64 1 3 L w ⟨a, (L.take L.length).length, cap2⟩ wr ∧ EAft g (asks now k L) w wr) := by
          have h1 := HS.out.row
          have h2 := HS.out.own
          have h3 := HS.out.es
          have h4 := HS.out.tch
          rw [hsv] at h1 h2
          rw [List.take_length] at h1 h2 h3 ⊢
          exact ⟨⟨h1, rfl, fun b hb => Nat.le_trans HB3.out.size (h2 b hb)⟩, h3, (Touch.of_below (fun b => b = g) HB3.out).trans h4 (fun _ _ h => h)⟩
        have hge : ¬ (((L.length : Nat) : Int) < N.length) := by omega
        subst hsv
        generalize (L.take L.length).length = nn at *
        clear HS HAT CN HEP
        go_wp2
        refine bodyPost_ret (v := (.slice a nn cap2)) (by simp [results, Try.results14, go_sem, *]) rfl ?_
        rw [← HLL.out]
        exact ⟨⟨a, nn, cap2⟩, rfl, F2.out⟩
end Go.Proofs.Ytdehpiaokjihjaa
