/- The statement NetWrong: hosts with no address, or the same one, boxes that may not be, or share an IP, make no net: whatever the plan, whatever is wrong in it. No conditions. -/
import Derived.Test.YtdpgmdkclaahdaaNePlan
import Derived.ChangeOld
import Derived.Lib.SmallJoins
import Derived.ChangeMaps5
import Derived.ShutString
import Derived.OpenShut
import Derived.SizedLaws
namespace Go.Proofs.Ytdpgmdkclaahdaa.Ne
open Go.Sort Go.RowKit Go.BigFrame Go.ChangeShapes Go.WideShapes Go.ChangeAt Go.Deep
open Go.ChangeMaps (open_string shut_string)
set_option linter.unusedVariables false
set_option linter.unusedSimpArgs false

theorem arg_u8m {w : World} {a : Option Addr} {len cap : Nat} {zs : List Int} (wz : ArgRow .u8 w a len cap zs) : ∃ ys : List Int, ys.length = len ∧ (∀ z ∈ ys, 0 ≤ z ∧ z < 256) ∧ Rd .u8 w w.heap.size a ys ∧ len ≤ 9223372036854775807 := by
  rcases wz with ⟨rfl, rfl, rfl, rfl⟩ | ⟨x, rfl, h1, h2, h3, h4, h5⟩
  · exact ⟨[], rfl, by simp, Rd.nil _ _ _ _, by omega⟩
  · have hl : (zs.take len).length = len := by rw [List.length_take]; omega
    refine ⟨zs.take len, hl, fun z hz => ?_, fun hp => ?_, by unfold maxLen at h2; omega⟩
    · have := bounds_u8 (h5 z (List.mem_of_mem_take hz)); omega
    · obtain ⟨b, off, spot⟩ := x
      have h0 := h4 0 (by omega)
      have hs : spot = none := by simpa [Addr.add] using World.cell?_spot h0
      subst hs
      refine ⟨b, off, rfl, by simpa [Addr.add] using World.block_lt_of_cell? _ _ h0, fun i hi => ?_⟩
      have := h4 i (by omega)
      rw [add_at] at this
      rw [this]
      have : i < len := by omega
      simp [List.getD_eq_getElem?_getD, List.getElem?_take, this]
/-- append(v, part...), v a slice of this call's own, the part readable, perhaps nil or empty -/
theorem append_part {P : Program} (w : World) {ops : Array Oper} {rest : List Oper} {o : Oper} {a : Act} {Q : Exit → Act → World → Prop} (hgd : o.guard = none) (s x : Operand) (t : TypeId)
    (ho : o.op = .call { callee := .builtin .append, args := #[s, x], argTypes := #[t, t] })
    (base : Nat) (e : TypeId) (i : TypeInfo) (z : Value) (size bytes : Nat) (ht : P.underlying t = some (.slice e)) (hi : P.info? e = some i) (hz : i.zero = some z) (hsize : i.size = size) (hby : i.bytes = bytes) (hzs : z.cells.size = size) (hsz : 0 < size)
    (v : Value) (n : Nat) (xs : List Value) (hs : a.eval s = v) (hown : w.ownsRow base e size v n xs)
    (A : Option Addr) (m c : Nat) (news : List Value) (hx : a.eval x = .slice A m c) (hm : news.length = m * size) (hr : ∀ ad, A = some ad → ∀ j u, news[j]? = some u → w.cell? (ad.add j) = some u) (h1 : ∀ u ∈ news, u.oneCell' = true) (hA : A = none → m = 0 ∧ c = 0)
    (h63 : n + m ≤ maxLen) (hbytes : (n + m) * bytes ≤ 140737488355328) (hbase : base ≤ w.heap.size)
    (h : ∀ v' w', w'.ownsRow base e size v' (n + m) (xs ++ news) → w.grownBy w' v.ownBlock → wpList P ops Q rest (a.put o.dst v') w') : wpList P ops Q (o :: rest) a w := by
  rcases A with _ | ad
  · obtain ⟨q1, q2⟩ := hA rfl
    subst q1 q2
    obtain rfl : news = [] := List.eq_nil_of_length_eq_zero (by rw [hm, Nat.zero_mul])
    exact wpList_append_own_none hgd s x t ho base e i size ht hi v n xs hs hown hx (h v w (by simpa using hown) (World.grownBy.refl w _))
  · exact wpList_append_own w hgd s x t ho base e i z size bytes ht hi hz hsize hby hzs hsz v n xs hs hown ad m c news hx hm (hr ad rfl) h1 h63 hbytes hbase fun v' w' q1 q2 _ => h v' w' q1 q2
theorem row_cap {α : Type} {c : α → List Value} {z : Nat} {T : TypeId} {w : World} {u : Sl} {L : List α} (he : Enc c z) (h : ERow c z T w u.v L) : L.length ≤ u.c ∧ (u.a = none → L.length = 0 ∧ u.c = 0) ∧ ∀ ad, u.a = some ad → ∀ j x, (L.map c).flatten[j]? = some x → w.cell? (ad.add j) = some x := by
  obtain ⟨a, n, k⟩ := u
  rcases erow_form h with ⟨h1, h2⟩ | ⟨g, cap, h1, _⟩
  · simp only [Sl.v, Value.slice.injEq] at h1
    obtain ⟨rfl, rfl, rfl⟩ := h1
    subst h2
    exact ⟨by simp, fun _ => ⟨rfl, rfl⟩, fun ad h => by cases h⟩
  · simp only [Sl.v, Value.slice.injEq] at h1
    obtain ⟨rfl, rfl, rfl⟩ := h1
    obtain ⟨-, C, hC, hcl, ht, hl, -⟩ := erow_open he h
    refine ⟨by rw [← hcl] at hl ⊢; exact hl, by intro h; simp at h, fun ad had => ?_⟩
    injection had with had
    subst had
    have := hC.sub (p := 0) he.pos (he.all L) (fun i c' hc => by
      rw [List.getElem?_map, Option.map_eq_some_iff] at hc
      obtain ⟨x, hx, rfl⟩ := hc
      rw [Nat.zero_add]; exact taken_at ht hx)
    rw [Nat.zero_mul] at this
    exact this
theorem rd_keep {w w' : World} {a : Option Addr} {zs : List Int} (h : Rd .u8 w w.heap.size a zs) (hb : Below w.heap.size w w') : Rd .u8 w' w'.heap.size a zs := fun hp => by
  obtain ⟨b, off, h1, h2, h3⟩ := h hp
  exact ⟨b, off, h1, Nat.lt_of_lt_of_le h2 hb.size, fun i hi => (hb.cell (p := ⟨b, off + i, none⟩) h2).trans (h3 i hi)⟩
/-- a cell of a row's first element is written -/
theorem St.first {α : Type} {c : α → List Value} {z : Nat} {T : TypeId} {w0 w : World} {u : Sl} {L : List α} {x : α} (he : Enc c z) (H1 H2 : List Hl) (s : St w0 (H1 ++ hW c z T u (x :: L) :: H2) w) : ∃ g, u.a = some ⟨g, 0, none⟩ ∧ g < w.heap.size ∧ (∀ k v, (c x)[k]? = some v → w.cell? ⟨g, k, none⟩ = some v ∧ w.frozen? ⟨g, k, none⟩ = false) ∧ ∀ k v x', k < z → c x' = (c x).set k v → St w0 (H1 ++ hW c z T u (x' :: L) :: H2) (w.setCell ⟨g, k, none⟩ v) := by
  have h : ERow c z T w u.v (x :: L) := s.get (h := hW c z T u (x :: L)) (by simp)
  obtain ⟨a, n, k0⟩ := u
  rcases erow_form h with ⟨_, h2⟩ | ⟨g, cap, h1, hlt⟩
  · cases h2
  · simp only [Sl.v, Value.slice.injEq] at h1
    obtain ⟨rfl, rfl, rfl⟩ := h1
    obtain ⟨-, C, hC, hcl, ht, hl, hm⟩ := erow_open he h
    have hc0 : C[0]? = some (c x) := taken_at ht (i := 0) (x := x) rfl
    refine ⟨g, rfl, hlt, fun k v hv => ⟨?_, hC.free k⟩, fun k v x' hk hx => ?_⟩
    · have := hC.cell 0 k _ v hc0 hv
      simpa using this
    · have hR := hC.field 0 k (c x) v hc0 hk
      rw [Nat.zero_mul, Nat.zero_add, ← hx] at hR
      refine s.aft (h' := hW c z T ⟨some ⟨g, 0, none⟩, (x :: L).length, k0⟩ (x' :: L)) (Touch.set (F := fun b => (Value.slice (some ⟨g, 0, none⟩) (x :: L).length k0).ownBlock = some b) (a := ⟨g, k, none⟩) (Touch.refl _ w) (fun _ => rfl) v) ?_ (fun b hb => .inl hb)
      have e := erow_close (T := T) (L := x' :: L) hR (by
        rw [List.length_cons] at ht ⊢
        rw [List.take_set, ht]; rfl) (by rw [List.length_set, hcl]; exact hl) (by rw [List.length_set, hcl]; exact hm)
      rw [List.length_set, hcl] at e
      exact e
set_option maxHeartbeats 12800000 in
set_option maxRecDepth 10000000 in
theorem wrong_walk (q0 q1 qz : Option Addr) (m0 k0 m1 k1 len kz : Nat) (own : Bool) (zs : List Int) (how : Int) (hzl : zs.length = len) (hz : ∀ z ∈ zs, 0 ≤ z ∧ z < 256) (hlen : len ≤ 9223372036854775807) (w : World) (hr : Rd .u8 w w.heap.size qz zs) (hh : 0 ≤ how ∧ how < 256) :
    Calls Try.prog 5 #[.agg #[.slice q0 m0 k0, .slice q1 m1 k1, .bool own, .slice qz len kz], .int .u8 how] w fun e w' => e = .returned (.bool true) ∧ Below w.heap.size w w' := by
  obtain ⟨q, hq⟩ : ∃ q, how % 8 = q := ⟨_, rfl⟩
  have hq2 : how.tmod 8 = q := by rw [tmod_pos _ _ hh.1]; exact hq
  have hq8 := IntWalk.u8_in q ⟨by omega, by omega⟩
  have QQ := Lib.hid (show q = 0 ∨ q = 1 ∨ q = 2 ∨ q = 3 ∨ q = 4 ∨ q = 5 ∨ q = 6 ∨ q = 7 by omega)
  have X := Lib.hid (Cs.new w [.slice q0 m0 k0, .slice q1 m1 k1, .bool own, .slice qz len kz] 52)
  have B1 := Lib.hid ((Below.refl w.heap.size w).alloc (Nat.le_refl _) (.cells #[.slice q0 m0 k0, .slice q1 m1 k1, .bool own, .slice qz len kz] 52))
  have ok := plOk hz (min len 5)
  have hk5 : min len 5 ≤ 5 := by omega
  have HP := Lib.hid (fun w hr => plan_any q0 q1 qz m0 k0 m1 k1 len kz zs hzl hz hlen w hr)
  have HR := Lib.hid hr
  generalize min len 5 = k at *
  clear hzl hz hr hh hq
  go_enter Try.func5, Try.ntmps5
  go_wp2_with fail
  refine (ex_any _).mono ?_; rintro e x0 ⟨rfl, b0⟩
  have X1 := X.out.keep b0
  have c0 := X1.cell 0 _ rfl
  have c1 := X1.cell 1 _ rfl
  have c2 := X1.cell 2 _ rfl
  have c3 := X1.cell 3 _ rfl
  have f2 := X1.free 2 _ rfl
  have cl := X1.lt
  have b2 : Below w.heap.size w (x0.setCell ⟨w.heap.size, 2, none⟩ (.bool true)) := (B1.out.trans (b0.mono B1.out.size)).setCell (Nat.le_refl _) _
  have B2 := Lib.hid b2
  have X2 := X1.set 2 (.bool true) (by simp)
  clear X B1 b0 X1 b2
  go_upto_region 5 with fail
  clear c0 c1 c2 c3 f2 cl
  generalize (x0.setCell ⟨w.heap.size, 2, none⟩ (.bool true)) = x1 at *
  replace X2 : Cs w.heap.size [.slice q0 m0 k0, .slice q1 m1 k1, .bool true, .slice qz len kz] x1 := X2
  have c0 := X2.cell 0 _ rfl
  have c1 := X2.cell 1 _ rfl
  have c2 := X2.cell 2 _ rfl
  have c3 := X2.cell 3 _ rfl
  have cl := X2.lt
  clear X2
  go_wp2_with fail
  refine (HP.out x1 (rd_keep HR.out B2.out)).mono ?_; rintro e w2 ⟨u, v, rfl, hu, hv, s⟩
  clear HP HR c0 c1 c2 c3 cl
  obtain ⟨n, hn⟩ := plNew ok hk5
  generalize (plS zs k).1 = hs at *
  generalize (plS zs k).2 = sp at *
  have rH : ERow cho 3 34 w2 u.v hs := s.get (h := hW cho 3 34 u hs) (by simp)
  have rS : ERow csp 5 38 w2 v.v sp := s.get (h := hW csp 5 38 v sp) (by simp)
  have B3 := Lib.hid (B2.out.trans (s.below.mono B2.out.size))
  have hl6 : hs.length ≤ 6 := by have := ok.hl; omega
  have hl1 : 0 < hs.length := by have := ok.hl; omega
  have hsl5 : sp.length ≤ 5 := by have := ok.sl; omega
  have hsp0 : ∀ x ∈ sp, 0 ≤ x.hold := fun x hx => (ok.s0 x hx).2.1
  have KN := new_l hn u.a u.c v.a v.c (by omega) (row_cap cho_enc rH).1 (by omega) hsp0 w2 (erow_rd cho_enc (n := u.n) (cap := u.c) rH) (erow_rd csp_enc (n := v.n) (cap := v.c) rS)
  have HO := Lib.hid hsp0
  clear s B2 ok hk5 hu hv hsp0
  go_wp2_with fail
  refine KN.mono ?_; rintro e w3 ⟨m, rfl, s3⟩
  have rH := erow_keep rH s3.below
  have rS := erow_keep rS s3.below
  have B4 := Lib.hid (B3.out.trans (s3.below.mono B3.out.size))
  clear KN B3 s3 hn
  have CH := Lib.hid (row_cap cho_enc rH)
  have l1 := Lib.hid (show (hs.map cho).flatten.length = hs.length * 3 by rw [flatten_len (z := 3) _ (cho_enc.all hs), List.length_map])
  have l2 := Lib.hid (show (sp.map csp).flatten.length = sp.length * 5 by rw [flatten_len (z := 5) _ (csp_enc.all sp), List.length_map])
  obtain ⟨i0, hi0, hz0, hz1, hz2⟩ := info_parts info_host
  obtain ⟨j0, hj0, hy0, hy1, hy2⟩ := info_parts info_spec
  obtain ⟨ua, un, uc⟩ := u
  obtain ⟨va, vn, vc⟩ := v
  simp only at CH
  go_wp2_with (at_builtin; refine append_part _ rfl (.const (.slice none 0 0)) (.tmp 30) 35 rfl w3.heap.size 34 i0 _ 3 16 Try.underlying35 hi0 hz0 hz1 hz2 rfl (by omega) (.slice none 0 0) 0 [] rfl (World.ownsRow_nil _ _ _ _) ua hs.length uc (hs.map cho).flatten rfl l1.out CH.out.2.2 (cho_enc.ones hs) CH.out.2.1 (by unfold maxLen; omega) (by omega) (Nat.le_refl _) ?_)
  intro v1 w4 hown hgrow
  obtain ⟨⟨ha, hn, hc⟩, hv⟩ := sl_of hown
  obtain rfl : v1 = .slice ha hn hc := hv
  have nH := new_of_own (v := ⟨ha, hn, hc⟩) (D := hs) (c := cho) (z := 3) (w := w3) (Nat.le_refl _) hown
  have bH : Below w3.heap.size w3 w4 := (Below.refl _ w3).grown hgrow (Nat.le_refl _) (fun k hk => by simp [Value.ownBlock] at hk)
  have sA := (St.start w3 w3 (Below.refl _ _)).more (h := hW cho 3 34 ⟨ha, hn, hc⟩ hs) bH nH.1 nH.2.2
  obtain rfl : hn = hs.length := nH.2.1
  have rS := erow_keep rS bH
  have CS := Lib.hid (row_cap csp_enc rS)
  simp only at CS
  have SA := Lib.hid sA
  clear sA nH hown hgrow bH CH rH
  go_wp2_with (at_builtin; refine append_part _ rfl (.const (.slice none 0 0)) (.tmp 32) 39 rfl w4.heap.size 38 j0 _ 5 40 Try.underlying39 hj0 hy0 hy1 hy2 rfl (by omega) (.slice none 0 0) 0 [] rfl (World.ownsRow_nil _ _ _ _) va sp.length vc (sp.map csp).flatten rfl l2.out CS.out.2.2 (csp_enc.ones sp) CS.out.2.1 (by unfold maxLen; omega) (by omega) (Nat.le_refl _) ?_)
  intro v2 w5 hown hgrow
  obtain ⟨⟨ba, bn, bc⟩, hv⟩ := sl_of hown
  obtain rfl : v2 = .slice ba bn bc := hv
  have nS := new_of_own (v := ⟨ba, bn, bc⟩) (D := sp) (c := csp) (z := 5) (w := w4) (Nat.le_refl _) hown
  have bS : Below w4.heap.size w4 w5 := (Below.refl _ w4).grown hgrow (Nat.le_refl _) (fun k hk => by simp [Value.ownBlock] at hk)
  have sA := SA.out.more (h := hW csp 5 38 ⟨ba, bn, bc⟩ sp) bS nS.1 nS.2.2
  obtain rfl : bn = sp.length := nS.2.1
  clear SA nS hown hgrow bS CS rS l1 l2
  obtain ⟨x, l, rfl⟩ : ∃ x l, hs = x :: l := by
    cases hs with
    | nil => simp at hl1
    | cons x l => exact ⟨x, l, rfl⟩
  have hll : l.length ≤ 5 := by simp at hl6; omega
  have ll0 : (0 : Int) < ((x :: l).length : Int) := by rw [List.length_cons]; omega
  have SA := Lib.hid sA
  clear sA hl6 hl1 hi0 hz0 hz1 hz2 hj0 hy0 hy1 hy2
  rcases QQ.out with rfl | rfl | rfl | rfl | rfl | rfl | rfl | rfl
  · skip
    obtain ⟨x1, x2, x3⟩ := x
    obtain ⟨g, hg, hgl, hcf, hst⟩ := St.first cho_enc [_] [] SA.out
    simp only at hg
    subst hg
    have c0 := (hcf 0 _ rfl).1
    have f0 := (hcf 0 _ rfl).2
    have c1 := (hcf 1 _ rfl).1
    have f1 := (hcf 1 _ rfl).2
    have c2 := (hcf 2 _ rfl).1
    have f2 := (hcf 2 _ rfl).2
    clear hcf
    go_upto_region 27 with fail
    have s6 := hst 0 (.int .u32 0) ⟨0, x2, x3⟩ (by decide) rfl
    obtain ⟨g_, hg_, -, -, hst2⟩ := St.first cho_enc [_] [] s6
    simp only [Option.some.injEq, Addr.mk.injEq, and_true] at hg_
    subst hg_
    have s7 := hst2 1 (.int .u16 0) ⟨0, 0, x3⟩ (by decide) rfl
    generalize ((w5.setCell ⟨g, 0, none⟩ (.int .u32 0)).setCell ⟨g, 1, none⟩ (.int .u16 0)) = w6 at *
    have rH : ERow cho 3 34 w6 (Sl.mk (some ⟨g, 0, none⟩) ((⟨0, 0, x3⟩ :: l) : List Ho).length hc).v ((⟨0, 0, x3⟩ :: l) : List Ho) := s7.get (h := hW cho 3 34 ⟨(some ⟨g, 0, none⟩), ((⟨0, 0, x3⟩ :: l) : List Ho).length, hc⟩ ((⟨0, 0, x3⟩ :: l) : List Ho)) (by simp)
    have rS : ERow csp 5 38 w6 (Sl.mk ba (sp : List Sp).length bc).v (sp : List Sp) := s7.get (h := hW csp 5 38 ⟨ba, (sp : List Sp).length, bc⟩ (sp : List Sp)) (by simp)
    have KN := new_none (wrong0 : newN ((⟨0, 0, x3⟩ :: l) : List Ho) (sp : List Sp) 9 = none) (some ⟨g, 0, none⟩) hc ba bc (by first | omega | (simp only [List.length_cons, List.length_append, List.length_nil]; omega)) (row_cap cho_enc rH).1 (by first | omega | (simp only [List.length_cons, List.length_append, List.length_nil]; omega)) HO.out w6 (erow_rd cho_enc (n := ((⟨0, 0, x3⟩ :: l) : List Ho).length) (cap := hc) rH) (erow_rd csp_enc (n := (sp : List Sp).length) (cap := bc) rS)
    have B6 := Lib.hid (B4.out.trans (s7.below.mono B4.out.size))
    clear s7 rH rS SA
    go_wp2_with fail
    refine KN.mono ?_; rintro e w7 ⟨rfl, b7⟩
    clear KN
    go_wp2
    go_ret
    exact ⟨rfl, B6.out.trans (b7.mono B6.out.size)⟩
  · skip
    obtain ⟨x1, x2, x3⟩ := x
    obtain ⟨g, hg, hgl, hcf, hst⟩ := St.first cho_enc [_] [] SA.out
    simp only at hg
    subst hg
    have c0 := (hcf 0 _ rfl).1
    have f0 := (hcf 0 _ rfl).2
    have c1 := (hcf 1 _ rfl).1
    have f1 := (hcf 1 _ rfl).2
    have c2 := (hcf 2 _ rfl).1
    have f2 := (hcf 2 _ rfl).2
    clear hcf
    have OW := Lib.hid (fun o => (SA.out.alloc o).rowW (c := cho) (z := 3) (T := 34) (u := ⟨some ⟨g, 0, none⟩, (⟨x1, x2, x3⟩ :: l : List Ho).length, hc⟩) (L := ⟨x1, x2, x3⟩ :: l) (by simp) rfl rfl)
    go_wp2_with (at_builtin; obtain ⟨i0, hi0, hz0, hz1, hz2⟩ := info_parts info_host; refine wpList_append_lies _ rfl (.tmp 44) (.tmp 48) 35 rfl 0 34 i0 _ 3 16 Try.underlying35 hi0 hz0 hz1 hz2 rfl (by omega) (.slice (some ⟨g, 0, none⟩) (⟨x1, x2, x3⟩ :: l : List Ho).length hc) (⟨x1, x2, x3⟩ :: l : List Ho).length ((⟨x1, x2, x3⟩ :: l : List Ho).map cho).flatten rfl (OW.out _) ⟨_, 0, none⟩ 1 1 (cho ⟨x1, x2, x3⟩) rfl rfl (World.news_of_block (cs := (cho ⟨x1, x2, x3⟩).toArray) (t := 34) (fr := (0, 0)) (heap_alloc_new _ _)) (cho_enc.one _) (by omega) ?c2z1 ?c3z1 ?c4z1 _ rfl ?_)
    case c2z1 => unfold maxLen; first | omega | (simp only [List.length_cons, List.length_append, List.length_nil]; omega)
    case c3z1 => first | omega | (simp only [List.length_cons, List.length_append, List.length_nil]; omega)
    (try case c4z1 => exact Nat.zero_le _)
    intro g2 cap2 w6 hown hgrow hat hlt6
    have s7 := St.pushW (x := (⟨x1, x2, x3⟩ : Ho)) [_] [] (SA.out.alloc (.cells (cho ⟨x1, x2, x3⟩).toArray 34)) rfl hown hgrow (hat.imp id (fun h => by rw [h]; simp))
    clear hown hgrow hat OW
    (try clear hi0 hz0 hz1 hz2)
    (try clear hj0 hy0 hy1 hy2)
    generalize hLN : (⟨x1, x2, x3⟩ :: l : List Ho).length + 1 = nL
    have HLN := Lib.hid hLN
    clear hLN
    have rH : ERow cho 3 34 w6 (Sl.mk (some ⟨g2, 0, none⟩) (((⟨x1, x2, x3⟩ :: l) ++ [(⟨x1, x2, x3⟩ : Ho)]) : List Ho).length cap2).v (((⟨x1, x2, x3⟩ :: l) ++ [(⟨x1, x2, x3⟩ : Ho)]) : List Ho) := s7.get (h := hW cho 3 34 ⟨(some ⟨g2, 0, none⟩), (((⟨x1, x2, x3⟩ :: l) ++ [(⟨x1, x2, x3⟩ : Ho)]) : List Ho).length, cap2⟩ (((⟨x1, x2, x3⟩ :: l) ++ [(⟨x1, x2, x3⟩ : Ho)]) : List Ho)) (by simp)
    have rS : ERow csp 5 38 w6 (Sl.mk ba (sp : List Sp).length bc).v (sp : List Sp) := s7.get (h := hW csp 5 38 ⟨ba, (sp : List Sp).length, bc⟩ (sp : List Sp)) (by simp)
    have KN := new_none (wrong1 : newN (((⟨x1, x2, x3⟩ :: l) ++ [(⟨x1, x2, x3⟩ : Ho)]) : List Ho) (sp : List Sp) 9 = none) (some ⟨g2, 0, none⟩) cap2 ba bc (by first | omega | (simp only [List.length_cons, List.length_append, List.length_nil]; omega)) (row_cap cho_enc rH).1 (by first | omega | (simp only [List.length_cons, List.length_append, List.length_nil]; omega)) HO.out w6 (erow_rd cho_enc (n := (((⟨x1, x2, x3⟩ :: l) ++ [(⟨x1, x2, x3⟩ : Ho)]) : List Ho).length) (cap := cap2) rH) (erow_rd csp_enc (n := (sp : List Sp).length) (cap := bc) rS)
    rw [show (((⟨x1, x2, x3⟩ :: l) ++ [(⟨x1, x2, x3⟩ : Ho)]) : List Ho).length = nL by rw [← HLN.out]; simp] at KN
    have B6 := Lib.hid (B4.out.trans (s7.below.mono B4.out.size))
    clear s7 rH rS SA
    go_wp2_with fail
    refine KN.mono ?_; rintro e w7 ⟨rfl, b7⟩
    clear KN
    go_wp2
    go_ret
    exact ⟨rfl, B6.out.trans (b7.mono B6.out.size)⟩
  · skip
    obtain ⟨x1, x2, x3⟩ := x
    obtain ⟨g, hg, hgl, hcf, hst⟩ := St.first cho_enc [_] [] SA.out
    simp only at hg
    subst hg
    have c0 := (hcf 0 _ rfl).1
    have f0 := (hcf 0 _ rfl).2
    have c1 := (hcf 1 _ rfl).1
    have f1 := (hcf 1 _ rfl).2
    have c2 := (hcf 2 _ rfl).1
    have f2 := (hcf 2 _ rfl).2
    clear hcf
    have h64 := IntWalk.i64_in ((sp.length : Int) + 1) ⟨by omega, by omega⟩
    go_upto_region 27 with fail
    have s7 := hst 2 (.int .i64 ((sp.length : Int) + 1)) ⟨x1, x2, ((sp.length : Int) + 1)⟩ (by decide) rfl
    generalize (w5.setCell ⟨g, 2, none⟩ (.int .i64 ((sp.length : Int) + 1))) = w6 at *
    have rH : ERow cho 3 34 w6 (Sl.mk (some ⟨g, 0, none⟩) ((⟨x1, x2, ((sp.length : Int) + 1)⟩ :: l) : List Ho).length hc).v ((⟨x1, x2, ((sp.length : Int) + 1)⟩ :: l) : List Ho) := s7.get (h := hW cho 3 34 ⟨(some ⟨g, 0, none⟩), ((⟨x1, x2, ((sp.length : Int) + 1)⟩ :: l) : List Ho).length, hc⟩ ((⟨x1, x2, ((sp.length : Int) + 1)⟩ :: l) : List Ho)) (by simp)
    have rS : ERow csp 5 38 w6 (Sl.mk ba (sp : List Sp).length bc).v (sp : List Sp) := s7.get (h := hW csp 5 38 ⟨ba, (sp : List Sp).length, bc⟩ (sp : List Sp)) (by simp)
    have KN := new_none (wrong2 : newN ((⟨x1, x2, ((sp.length : Int) + 1)⟩ :: l) : List Ho) (sp : List Sp) 9 = none) (some ⟨g, 0, none⟩) hc ba bc (by first | omega | (simp only [List.length_cons, List.length_append, List.length_nil]; omega)) (row_cap cho_enc rH).1 (by first | omega | (simp only [List.length_cons, List.length_append, List.length_nil]; omega)) HO.out w6 (erow_rd cho_enc (n := ((⟨x1, x2, ((sp.length : Int) + 1)⟩ :: l) : List Ho).length) (cap := hc) rH) (erow_rd csp_enc (n := (sp : List Sp).length) (cap := bc) rS)
    have B6 := Lib.hid (B4.out.trans (s7.below.mono B4.out.size))
    clear s7 rH rS SA
    go_wp2_with fail
    refine KN.mono ?_; rintro e w7 ⟨rfl, b7⟩
    clear KN
    go_wp2
    go_ret
    exact ⟨rfl, B6.out.trans (b7.mono B6.out.size)⟩
  · skip
    obtain ⟨x1, x2, x3⟩ := x
    obtain ⟨g, hg, hgl, hcf, hst⟩ := St.first cho_enc [_] [] SA.out
    simp only at hg
    subst hg
    have c0 := (hcf 0 _ rfl).1
    have f0 := (hcf 0 _ rfl).2
    have c1 := (hcf 1 _ rfl).1
    have f1 := (hcf 1 _ rfl).2
    have c2 := (hcf 2 _ rfl).1
    have f2 := (hcf 2 _ rfl).2
    clear hcf
    go_upto_region 27 with fail
    have s7 := hst 2 (.int .i64 (-1)) ⟨x1, x2, (-1)⟩ (by decide) rfl
    generalize (w5.setCell ⟨g, 2, none⟩ (.int .i64 (-1))) = w6 at *
    have rH : ERow cho 3 34 w6 (Sl.mk (some ⟨g, 0, none⟩) ((⟨x1, x2, (-1)⟩ :: l) : List Ho).length hc).v ((⟨x1, x2, (-1)⟩ :: l) : List Ho) := s7.get (h := hW cho 3 34 ⟨(some ⟨g, 0, none⟩), ((⟨x1, x2, (-1)⟩ :: l) : List Ho).length, hc⟩ ((⟨x1, x2, (-1)⟩ :: l) : List Ho)) (by simp)
    have rS : ERow csp 5 38 w6 (Sl.mk ba (sp : List Sp).length bc).v (sp : List Sp) := s7.get (h := hW csp 5 38 ⟨ba, (sp : List Sp).length, bc⟩ (sp : List Sp)) (by simp)
    have KN := new_none (wrong3 : newN ((⟨x1, x2, (-1)⟩ :: l) : List Ho) (sp : List Sp) 9 = none) (some ⟨g, 0, none⟩) hc ba bc (by first | omega | (simp only [List.length_cons, List.length_append, List.length_nil]; omega)) (row_cap cho_enc rH).1 (by first | omega | (simp only [List.length_cons, List.length_append, List.length_nil]; omega)) HO.out w6 (erow_rd cho_enc (n := ((⟨x1, x2, (-1)⟩ :: l) : List Ho).length) (cap := hc) rH) (erow_rd csp_enc (n := (sp : List Sp).length) (cap := bc) rS)
    have B6 := Lib.hid (B4.out.trans (s7.below.mono B4.out.size))
    clear s7 rH rS SA
    go_wp2_with fail
    refine KN.mono ?_; rintro e w7 ⟨rfl, b7⟩
    clear KN
    go_wp2
    go_ret
    exact ⟨rfl, B6.out.trans (b7.mono B6.out.size)⟩
  · skip
    obtain ⟨x1, x2, x3⟩ := x
    obtain ⟨g, hg, hgl, hcf, hst⟩ := St.first cho_enc [_] [] SA.out
    simp only at hg
    subst hg
    have c0 := (hcf 0 _ rfl).1
    have f0 := (hcf 0 _ rfl).2
    have c1 := (hcf 1 _ rfl).1
    have f1 := (hcf 1 _ rfl).2
    have c2 := (hcf 2 _ rfl).1
    have f2 := (hcf 2 _ rfl).2
    clear hcf
    have OW := Lib.hid (fun o => (SA.out.alloc o).rowW (c := csp) (z := 5) (T := 38) (u := ⟨ba, sp.length, bc⟩) (L := sp) (by simp) rfl rfl)
    go_wp2_with (at_builtin; obtain ⟨j0, hj0, hy0, hy1, hy2⟩ := info_parts info_spec; refine wpList_append_lies _ rfl (.tmp 65) (.tmp 72) 39 rfl 0 38 j0 _ 5 40 Try.underlying39 hj0 hy0 hy1 hy2 rfl (by omega) (.slice ba sp.length bc) sp.length (sp.map csp).flatten rfl (OW.out _) ⟨_, 0, none⟩ 1 1 (csp (⟨0, 0, x1, 1, 1⟩ : Sp)) rfl rfl (World.news_of_block (cs := (csp (⟨0, 0, x1, 1, 1⟩ : Sp)).toArray) (t := 38) (fr := (0, 0)) (heap_alloc_new _ _)) (csp_enc.one _) (by omega) ?c2z4 ?c3z4 ?c4z4 _ rfl ?_)
    case c2z4 => unfold maxLen; first | omega | (simp only [List.length_cons, List.length_append, List.length_nil]; omega)
    case c3z4 => first | omega | (simp only [List.length_cons, List.length_append, List.length_nil]; omega)
    (try case c4z4 => exact Nat.zero_le _)
    intro g2 cap2 w6 hown hgrow hat hlt6
    have s7 := St.pushW (x := ((⟨0, 0, x1, 1, 1⟩ : Sp) : Sp)) [] _ (SA.out.alloc (.cells (csp (⟨0, 0, x1, 1, 1⟩ : Sp)).toArray 38)) rfl hown hgrow (hat.imp id (fun h => by rw [h]; simp))
    clear hown hgrow hat OW
    (try clear hi0 hz0 hz1 hz2)
    (try clear hj0 hy0 hy1 hy2)
    generalize hLN : sp.length + 1 = nL
    have HLN := Lib.hid hLN
    clear hLN
    have rH : ERow cho 3 34 w6 (Sl.mk (some ⟨g, 0, none⟩) ((⟨x1, x2, x3⟩ :: l) : List Ho).length hc).v ((⟨x1, x2, x3⟩ :: l) : List Ho) := s7.get (h := hW cho 3 34 ⟨(some ⟨g, 0, none⟩), ((⟨x1, x2, x3⟩ :: l) : List Ho).length, hc⟩ ((⟨x1, x2, x3⟩ :: l) : List Ho)) (by simp)
    have rS : ERow csp 5 38 w6 (Sl.mk (some ⟨g2, 0, none⟩) ((sp ++ [(⟨0, 0, x1, 1, 1⟩ : Sp)]) : List Sp).length cap2).v ((sp ++ [(⟨0, 0, x1, 1, 1⟩ : Sp)]) : List Sp) := s7.get (h := hW csp 5 38 ⟨(some ⟨g2, 0, none⟩), ((sp ++ [(⟨0, 0, x1, 1, 1⟩ : Sp)]) : List Sp).length, cap2⟩ ((sp ++ [(⟨0, 0, x1, 1, 1⟩ : Sp)]) : List Sp)) (by simp)
    have KN := new_none (wrong4 : newN ((⟨x1, x2, x3⟩ :: l) : List Ho) ((sp ++ [(⟨0, 0, x1, 1, 1⟩ : Sp)]) : List Sp) 9 = none) (some ⟨g, 0, none⟩) hc (some ⟨g2, 0, none⟩) cap2 (by first | omega | (simp only [List.length_cons, List.length_append, List.length_nil]; omega)) (row_cap cho_enc rH).1 (by first | omega | (simp only [List.length_cons, List.length_append, List.length_nil]; omega)) (fun y hy => by simp at hy; rcases hy with hy | rfl; exact HO.out y hy; simp) w6 (erow_rd cho_enc (n := ((⟨x1, x2, x3⟩ :: l) : List Ho).length) (cap := hc) rH) (erow_rd csp_enc (n := ((sp ++ [(⟨0, 0, x1, 1, 1⟩ : Sp)]) : List Sp).length) (cap := cap2) rS)
    rw [show ((sp ++ [(⟨0, 0, x1, 1, 1⟩ : Sp)]) : List Sp).length = nL by rw [← HLN.out]; simp] at KN
    have B6 := Lib.hid (B4.out.trans (s7.below.mono B4.out.size))
    clear s7 rH rS SA
    go_wp2_with fail
    refine KN.mono ?_; rintro e w7 ⟨rfl, b7⟩
    clear KN
    go_wp2
    go_ret
    exact ⟨rfl, B6.out.trans (b7.mono B6.out.size)⟩
  · skip
    have OW := Lib.hid (fun o => (SA.out.alloc o).rowW (c := csp) (z := 5) (T := 38) (u := ⟨ba, sp.length, bc⟩) (L := sp) (by simp) rfl rfl)
    go_wp2_with (at_builtin; obtain ⟨j0, hj0, hy0, hy1, hy2⟩ := info_parts info_spec; refine wpList_append_lies _ rfl (.tmp 76) (.tmp 78) 39 rfl 0 38 j0 _ 5 40 Try.underlying39 hj0 hy0 hy1 hy2 rfl (by omega) (.slice ba sp.length bc) sp.length (sp.map csp).flatten rfl (OW.out _) ⟨_, 0, none⟩ 1 1 (csp (⟨0, 0, 77, 0, 1⟩ : Sp)) rfl rfl (World.news_of_block (cs := (csp (⟨0, 0, 77, 0, 1⟩ : Sp)).toArray) (t := 38) (fr := (0, 0)) (heap_alloc_new _ _)) (csp_enc.one _) (by omega) ?c2z5 ?c3z5 ?c4z5 _ rfl ?_)
    case c2z5 => unfold maxLen; first | omega | (simp only [List.length_cons, List.length_append, List.length_nil]; omega)
    case c3z5 => first | omega | (simp only [List.length_cons, List.length_append, List.length_nil]; omega)
    (try case c4z5 => exact Nat.zero_le _)
    intro g2 cap2 w6 hown hgrow hat hlt6
    have s7 := St.pushW (x := ((⟨0, 0, 77, 0, 1⟩ : Sp) : Sp)) [] _ (SA.out.alloc (.cells (csp (⟨0, 0, 77, 0, 1⟩ : Sp)).toArray 38)) rfl hown hgrow (hat.imp id (fun h => by rw [h]; simp))
    clear hown hgrow hat OW
    (try clear hi0 hz0 hz1 hz2)
    (try clear hj0 hy0 hy1 hy2)
    generalize hLN : sp.length + 1 = nL
    have HLN := Lib.hid hLN
    clear hLN
    have rH : ERow cho 3 34 w6 (Sl.mk ha ((x :: l) : List Ho).length hc).v ((x :: l) : List Ho) := s7.get (h := hW cho 3 34 ⟨ha, ((x :: l) : List Ho).length, hc⟩ ((x :: l) : List Ho)) (by simp)
    have rS : ERow csp 5 38 w6 (Sl.mk (some ⟨g2, 0, none⟩) ((sp ++ [(⟨0, 0, 77, 0, 1⟩ : Sp)]) : List Sp).length cap2).v ((sp ++ [(⟨0, 0, 77, 0, 1⟩ : Sp)]) : List Sp) := s7.get (h := hW csp 5 38 ⟨(some ⟨g2, 0, none⟩), ((sp ++ [(⟨0, 0, 77, 0, 1⟩ : Sp)]) : List Sp).length, cap2⟩ ((sp ++ [(⟨0, 0, 77, 0, 1⟩ : Sp)]) : List Sp)) (by simp)
    have KN := new_none (wrong5 : newN ((x :: l) : List Ho) ((sp ++ [(⟨0, 0, 77, 0, 1⟩ : Sp)]) : List Sp) 9 = none) ha hc (some ⟨g2, 0, none⟩) cap2 (by first | omega | (simp only [List.length_cons, List.length_append, List.length_nil]; omega)) (row_cap cho_enc rH).1 (by first | omega | (simp only [List.length_cons, List.length_append, List.length_nil]; omega)) (fun y hy => by simp at hy; rcases hy with hy | rfl; exact HO.out y hy; decide) w6 (erow_rd cho_enc (n := ((x :: l) : List Ho).length) (cap := hc) rH) (erow_rd csp_enc (n := ((sp ++ [(⟨0, 0, 77, 0, 1⟩ : Sp)]) : List Sp).length) (cap := cap2) rS)
    rw [show ((sp ++ [(⟨0, 0, 77, 0, 1⟩ : Sp)]) : List Sp).length = nL by rw [← HLN.out]; simp] at KN
    have B6 := Lib.hid (B4.out.trans (s7.below.mono B4.out.size))
    clear s7 rH rS SA
    go_wp2_with fail
    refine KN.mono ?_; rintro e w7 ⟨rfl, b7⟩
    clear KN
    go_wp2
    go_ret
    exact ⟨rfl, B6.out.trans (b7.mono B6.out.size)⟩
  · skip
    have OW := Lib.hid (fun o => (SA.out.alloc o).rowW (c := csp) (z := 5) (T := 38) (u := ⟨ba, sp.length, bc⟩) (L := sp) (by simp) rfl rfl)
    go_wp2_with (at_builtin; obtain ⟨j0, hj0, hy0, hy1, hy2⟩ := info_parts info_spec; refine wpList_append_lies _ rfl (.tmp 82) (.tmp 85) 39 rfl 0 38 j0 _ 5 40 Try.underlying39 hj0 hy0 hy1 hy2 rfl (by omega) (.slice ba sp.length bc) sp.length (sp.map csp).flatten rfl (OW.out _) ⟨_, 0, none⟩ 2 2 (csp (⟨0, 0, 77, 1, 1⟩ : Sp) ++ csp (⟨0, 0, 77, 1, 1⟩ : Sp)) rfl rfl (World.news_of_block (cs := (csp (⟨0, 0, 77, 1, 1⟩ : Sp) ++ csp (⟨0, 0, 77, 1, 1⟩ : Sp)).toArray) (t := 38) (fr := (0, 0)) (heap_alloc_new _ _)) (fun u hu => by rcases List.mem_append.1 hu with h | h; exact csp_enc.one _ u h; exact csp_enc.one _ u h) (by omega) ?c2z6 ?c3z6 ?c4z6 _ rfl ?_)
    case c2z6 => unfold maxLen; first | omega | (simp only [List.length_cons, List.length_append, List.length_nil]; omega)
    case c3z6 => first | omega | (simp only [List.length_cons, List.length_append, List.length_nil]; omega)
    (try case c4z6 => exact Nat.zero_le _)
    intro g2 cap2 w6 hown hgrow hat hlt6
    have s7 := St.aft (H1 := []) (H2 := [hW cho 3 34 ⟨ha, (x :: l).length, hc⟩ (x :: l)]) (h := hW csp 5 38 ⟨ba, sp.length, bc⟩ sp) (h' := hW csp 5 38 ⟨some ⟨g2, 0, none⟩, sp.length + 2, cap2⟩ (sp ++ [(⟨0, 0, 77, 1, 1⟩ : Sp), (⟨0, 0, 77, 1, 1⟩ : Sp)])) (SA.out.alloc (.cells (csp (⟨0, 0, 77, 1, 1⟩ : Sp) ++ csp (⟨0, 0, 77, 1, 1⟩ : Sp)).toArray 38)) (Touch.of_grown hgrow (fun _ h => h)) (by
      show ERow csp 5 _ _ _ _
      unfold ERow
      have e1 : (sp ++ [(⟨0, 0, 77, 1, 1⟩ : Sp), (⟨0, 0, 77, 1, 1⟩ : Sp)] : List Sp).length = sp.length + 2 := by simp
      have e2 : ((sp ++ [(⟨0, 0, 77, 1, 1⟩ : Sp), (⟨0, 0, 77, 1, 1⟩ : Sp)] : List Sp).map csp).flatten = (sp.map csp).flatten ++ (csp (⟨0, 0, 77, 1, 1⟩ : Sp) ++ csp (⟨0, 0, 77, 1, 1⟩ : Sp)) := by simp
      rw [e1, e2]
      exact hown) (fun b hb => by
      obtain rfl : g2 = b := by injection hb
      rcases hat with h | h
      · exact .inl h
      · exact .inr (by rw [h]; simp))
    clear hown hgrow hat OW
    (try clear hi0 hz0 hz1 hz2)
    (try clear hj0 hy0 hy1 hy2)
    generalize hLN : sp.length + 2 = nL
    have HLN := Lib.hid hLN
    clear hLN
    have rH : ERow cho 3 34 w6 (Sl.mk ha ((x :: l) : List Ho).length hc).v ((x :: l) : List Ho) := s7.get (h := hW cho 3 34 ⟨ha, ((x :: l) : List Ho).length, hc⟩ ((x :: l) : List Ho)) (by simp)
    have rS : ERow csp 5 38 w6 (Sl.mk (some ⟨g2, 0, none⟩) ((sp ++ [(⟨0, 0, 77, 1, 1⟩ : Sp), (⟨0, 0, 77, 1, 1⟩ : Sp)]) : List Sp).length cap2).v ((sp ++ [(⟨0, 0, 77, 1, 1⟩ : Sp), (⟨0, 0, 77, 1, 1⟩ : Sp)]) : List Sp) := s7.get (h := hW csp 5 38 ⟨(some ⟨g2, 0, none⟩), ((sp ++ [(⟨0, 0, 77, 1, 1⟩ : Sp), (⟨0, 0, 77, 1, 1⟩ : Sp)]) : List Sp).length, cap2⟩ ((sp ++ [(⟨0, 0, 77, 1, 1⟩ : Sp), (⟨0, 0, 77, 1, 1⟩ : Sp)]) : List Sp)) (by simp)
    have KN := new_none (wrong6 : newN ((x :: l) : List Ho) ((sp ++ [(⟨0, 0, 77, 1, 1⟩ : Sp), (⟨0, 0, 77, 1, 1⟩ : Sp)]) : List Sp) 9 = none) ha hc (some ⟨g2, 0, none⟩) cap2 (by first | omega | (simp only [List.length_cons, List.length_append, List.length_nil]; omega)) (row_cap cho_enc rH).1 (by first | omega | (simp only [List.length_cons, List.length_append, List.length_nil]; omega)) (fun y hy => by simp at hy; rcases hy with hy | rfl; exact HO.out y hy; decide) w6 (erow_rd cho_enc (n := ((x :: l) : List Ho).length) (cap := hc) rH) (erow_rd csp_enc (n := ((sp ++ [(⟨0, 0, 77, 1, 1⟩ : Sp), (⟨0, 0, 77, 1, 1⟩ : Sp)]) : List Sp).length) (cap := cap2) rS)
    rw [show ((sp ++ [(⟨0, 0, 77, 1, 1⟩ : Sp), (⟨0, 0, 77, 1, 1⟩ : Sp)]) : List Sp).length = nL by rw [← HLN.out]; simp] at KN
    have B6 := Lib.hid (B4.out.trans (s7.below.mono B4.out.size))
    clear s7 rH rS SA
    go_wp2_with fail
    refine KN.mono ?_; rintro e w7 ⟨rfl, b7⟩
    clear KN
    go_wp2
    go_ret
    exact ⟨rfl, B6.out.trans (b7.mono B6.out.size)⟩
  · skip
    go_upto_region 27 with fail
    have s7 := SA.out
    generalize w5 = w6 at *
    have rH : ERow cho 3 34 w6 (Sl.mk ha ((x :: l) : List Ho).length hc).v ((x :: l) : List Ho) := s7.get (h := hW cho 3 34 ⟨ha, ((x :: l) : List Ho).length, hc⟩ ((x :: l) : List Ho)) (by simp)
    have rS : ERow csp 5 38 w6 (Sl.mk ba (sp : List Sp).length bc).v (sp : List Sp) := s7.get (h := hW csp 5 38 ⟨ba, (sp : List Sp).length, bc⟩ (sp : List Sp)) (by simp)
    have KN := new_none (wrong7 : newN ((x :: l) : List Ho) (sp : List Sp) 0 = none) ha hc ba bc (by first | omega | (simp only [List.length_cons, List.length_append, List.length_nil]; omega)) (row_cap cho_enc rH).1 (by first | omega | (simp only [List.length_cons, List.length_append, List.length_nil]; omega)) HO.out w6 (erow_rd cho_enc (n := ((x :: l) : List Ho).length) (cap := hc) rH) (erow_rd csp_enc (n := (sp : List Sp).length) (cap := bc) rS)
    have B6 := Lib.hid (B4.out.trans (s7.below.mono B4.out.size))
    clear s7 rH rS SA
    go_wp2_with fail
    refine KN.mono ?_; rintro e w7 ⟨rfl, b7⟩
    clear KN
    go_wp2
    go_ret
    exact ⟨rfl, B6.out.trans (b7.mono B6.out.size)⟩
end Go.Proofs.Ytdpgmdkclaahdaa.Ne
namespace Go.Proofs.Ytdpgmdkclaahdaa
open Go.Sort Go.RowKit Go.BigFrame Go.ChangeShapes Go.WideShapes Go.ChangeAt Go.Deep
open Go.ChangeMaps (open_string shut_string)
set_option linter.unusedVariables false
set_option linter.unusedSimpArgs false
theorem wrong_run (q0 : Option Addr) (m0 k0 : Nat) (q1 : Option Addr) (m1 k1 : Nat) (own : Bool) (qz : Option Addr) (len kz : Nat) (zs : List Int) (how : Int) (w : World) (wz : ArgRow .u8 w qz len kz zs) (wh : (Lit.int .u8 how).wf = true) :
    Calls Try.prog 5 #[.agg #[.slice q0 m0 k0, .slice q1 m1 k1, .bool own, .slice qz len kz], .int .u8 how] w fun e w' => e = .returned (.bool true) ∧ Below w.heap.size w w' := by
  obtain ⟨za, h1, h2, h3, h4⟩ := Ne.arg_u8m wz
  have h6 := bounds_u8 wh
  exact Ne.wrong_walk q0 q1 qz m0 k0 m1 k1 len kz own za how h1 h2 h4 w h3 ⟨h6.1, by omega⟩
theorem netWrong_own : ownKnob Try.prog.godebug = none := by kernel_rfl
theorem netWrong_laid : laidOutB Try.prog = true := by kernel_rfl
set_option maxRecDepth 100000 in
theorem netWrong_lifted (os : Os) (started : os.Started) (H : Type) (enc : TypeId × Value → H) :
    ReturnsInHanded {} Try.checked os 5 .any (Rows.netWrongSpec.pre6 enc Try.prog Try.f5 Rows.netWrongRow.domain false) (Rows.netWrongSpec.post enc Try.prog Try.f5 false true false false) := by
  refine returnsInHanded_of_change (C := Try.checked) netWrong_own started (by kernel_rfl) Try.func5
    (ChangeSpec.witness6 (enc := enc) (C := Try.checked) false ⟨#[], #[.agg #[.slice none 0 0, .slice none 0 0, .bool false, .slice none 0 0], .int .u8 0], []⟩ 8 (by kernel_rfl) (by kernel_rfl) (by kernel_rfl) (by kernel_rfl)) ?_
  intro W base args ds gs before hval0 hW hcnd _
  have hval : ∀ (j : Nat) t v, Try.f5.params[j]? = some t → args[j]? = some v → Value.okWide Try.prog W .any base t v := hval0
  have hW' := hW
  obtain ⟨p, q, hA0, hV, rfl, hfz, hnd⟩ := hW
  have hA : DataW.TrodAll enc Try.prog W 0 (fun _ => true) true Try.f5.params.toList args.toList ds p := hA0
  rw [Try.params5] at hA hval
  obtain ⟨v0, vs0, d0, ds0, p0, q0, hargs, rfl, rfl, h0, r0⟩ := trodAll_cons hA
  obtain ⟨v1, vs1, d1, ds1, p1, q1, rfl, rfl, rfl, h1, r1⟩ := trodAll_cons r0
  obtain ⟨rfl, rfl, rfl⟩ := trodAll_nil r1
  obtain rfl : args = #[v0, v1] := by cases args; simp_all
  obtain ⟨rfl, rfl⟩ := trodVars_none hV
  have k0 := h0
  have lt0 : ∀ x ∈ p0, x.block < W.heap.size := by obtain ⟨m, hm⟩ := k0; exact DataW.trod_lt m _ _ _ hm
  obtain ⟨c0_0, c0_1, c0_2, c0_3, y0_0, y0_1, y0_2, y0_3, n0, rfl, rfl, rfl, t0_0, t0_1, t0_2, t0_3⟩ := Joins.open_agg4 Try.underlying52 (by kernel_rfl) (by kernel_rfl) (hval 0 52 v0 rfl rfl) h0
  obtain ⟨a0_0, l0_0, z0_0, rfl⟩ : ∃ a l c, c0_0 = Value.slice a l c := by
    rcases DataW.trod_slice Try.underlying35 t0_0 with ⟨e, _⟩ | ⟨a, len, cap, _, _, _, _, e, _⟩
    · exact ⟨none, 0, 0, (List.cons.inj e).1⟩
    · exact ⟨some a, len, cap, (List.cons.inj e).1⟩
  obtain ⟨a0_1, l0_1, z0_1, rfl⟩ : ∃ a l c, c0_1 = Value.slice a l c := by
    rcases DataW.trod_slice Try.underlying39 t0_1 with ⟨e, _⟩ | ⟨a, len, cap, _, _, _, _, e, _⟩
    · exact ⟨none, 0, 0, (List.cons.inj e).1⟩
    · exact ⟨some a, len, cap, (List.cons.inj e).1⟩
  obtain ⟨a0_2, e0_2, rfl⟩ := DataW.trod_bool Try.underlying4 t0_2
  obtain rfl := (List.cons.inj e0_2).1
  obtain ⟨a0_3, l0_3, z0_3, zz0, rfl, w0_3⟩ : ∃ a l c zs, c0_3 = Value.slice a l c ∧ ArgRow .u8 W a l c zs := by
    rcases open_ints Try.underlying50 Try.underlying5 (by kernel_rfl) t0_3 with ⟨hcs, _⟩ | ⟨x, l, c, zs, hcs, _, hl, hm, hz, _, hcell, hwz⟩
    · exact ⟨none, 0, 0, [], (List.cons.inj hcs).1, .inl ⟨rfl, rfl, rfl, rfl⟩⟩
    · exact ⟨some x, l, c, zs, (List.cons.inj hcs).1, .inr ⟨_, rfl, hl, hm, by simpa using hz, hcell, hwz⟩⟩
  obtain ⟨a1, rfl, rfl, rfl, w1⟩ := open_int Try.underlying5 (hval 1 5 v1 rfl rfl) h1
  clear hA0 hval0
  refine (wrong_run a0_0 l0_0 z0_0 a0_1 l0_1 z0_1 a0_2 a0_3 l0_3 z0_3 zz0 a1 W w0_3 w1).mono fun e W' ⟨he, bel⟩ => ?_
  subst he
  exact ⟨_, rfl, _, _, _, [], _, [], hW', trodAll_mk1 (shut_bool Try.underlying4 _), (trodAll_cons_mk (Below.trod netWrong_laid (by kernel_rfl) (of_decide_eq_true (by kernel_rfl)) k0 bel lt0) (trodAll_cons_mk (shut_int Try.underlying5 w1) trodAll_mk0)), rfl, bel.frame _, fun h => by cases h⟩
theorem netWrong_over : Rows.netWrongRow.holds Try.pinned (OpenSpec.ofChange Rows.netWrongSpec) :=
  OpenClaim.holds_of_wide 5 Try.f5 rfl rfl rfl rfl rfl rfl rfl ⟨rfl, rfl, rfl, rfl, rfl⟩ rfl rfl rfl rfl rfl (by kernel_rfl) Try.func5 (by kernel_rfl)
    (of_decide_eq_true (by kernel_rfl)) (by unfold Func.isWrapper; first | (rw [if_pos (by decide +kernel)]; kernel_rfl) | (rw [if_neg (by decide +kernel)]; exact ⟨rfl, rfl⟩))
    (fun os started H enc _ => netWrong_lifted os started H enc)
theorem netWrong_holds : Rows.NetWrongSaid := netWrong_over
#print axioms netWrong_holds
end Go.Proofs.Ytdpgmdkclaahdaa
