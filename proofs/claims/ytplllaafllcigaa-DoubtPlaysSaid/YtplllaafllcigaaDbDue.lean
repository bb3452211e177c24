/- The program's Due and Items. -/
import Derived.Test.YtplllaafllcigaaDbUp
namespace Go.Proofs.Ytplllaafllcigaa
open Go.Sort Go.RowKit Go.BigFrame
set_option linter.unusedVariables false
set_option linter.unusedSimpArgs false

def cutL (k : Nat → It) (l : List It) : Nat → It := l.foldl (fun k x => updD k x.id.toNat zIt) k
theorem cutL_succ (k : Nat → It) {l : List It} {j : Nat} (h : j < l.length) : cutL k (l.take (j + 1)) = updD (cutL k (l.take j)) l[j].id.toNat zIt := by
  unfold cutL
  rw [List.take_succ_eq_append_getElem h, List.foldl_append]; rfl
theorem cutL_at : ∀ (l : List It) (k : Nat → It) (j : Nat), cutL k l j = if l.any (fun x => x.id.toNat == j) = true then zIt else k j
  | [], k, j => by simp [cutL]
  | a :: l, k, j => by
    show cutL (updD k a.id.toNat zIt) l j = _
    rw [cutL_at l, List.any_cons]
    cases h : l.any (fun x => x.id.toNat == j) with
    | true => simp
    | false =>
      by_cases e : a.id.toNat = j
      · subst e; simp [updD_same]
      · rw [updD_ne (fun h => e h.symm)]; simp [e]
theorem cut_due {k : Nat → It} (h : OkD k) (now : Int) : cutL k (dueL k now) = restD k now := by
  funext j
  rw [cutL_at]
  unfold restD
  cases hd : dueB now (k j) with
  | true =>
    rw [if_pos rfl, if_pos]
    have hs : susp (k j) = true := by unfold dueB at hd; rw [Bool.and_eq_true] at hd; exact hd.1
    have ho := h.ok j hs
    rw [List.any_eq_true]
    refine ⟨k j, ?_, by rw [ho.id]; simp⟩
    unfold dueL
    rw [List.mem_filter]
    exact ⟨List.mem_map.2 ⟨j, by rw [List.mem_range]; have := ho.hi; omega, rfl⟩, hd⟩
  | false =>
    rw [if_neg, if_neg (by simp)]
    intro ha
    rw [List.any_eq_true] at ha
    obtain ⟨x, hx, hj⟩ := ha
    obtain ⟨i, hi, rfl, hq⟩ := mem_lo (p := dueB now) (i := 33) hx
    have hs : susp (k i) = true := by unfold dueB at hq; rw [Bool.and_eq_true] at hq; exact hq.1
    have ho := h.ok i hs
    rw [ho.id] at hj
    have : i = j := by simpa using hj
    subst this
    rw [hq] at hd; simp at hd
theorem Ds.wipe {g : Nat} {V : Nat → Sl} {k : Nat → It} {w : World} (h : Ds g V k w) {i : Nat} (hi : i < 33) : Ds g (updV V i nilS) (updD k i zIt) (w.setCells g (i * 5) (ci zIt nilS)) := by
  have h3 := heap_setCells g 61 (ci zIt nilS) (i * 5) w _ h.heap (by rw [ci_len]; simp [ci]; omega)
  have h4 := flatten_splice (z := 5) ((List.range 33).map fun j => ci (k j) (V j)) [ci zIt nilS] (ci5 k V) (by simp [ci]) i
  rw [splice_one _ _ _ (by simpa using hi)] at h4
  simp only [List.flatten_cons, List.flatten_nil, List.append_nil] at h4
  rw [h4] at h3
  exact h.put hi (h.ok.cut i) (fun _ => rfl) h3 (Touch.sets (Touch.refl (fun b => b = g ∨ (V i).v.ownBlock = some b) w) g (fun _ => .inl rfl) _ _) erow_nil (fun b hb => absurd hb (nil_own b))
theorem own_wipe {g : Nat} {V : Nat → Sl} {i : Nat} : ∀ b, DOwn g (updV V i nilS) b → DOwn g V b := by
  rintro b (rfl | ⟨j, hb⟩)
  · exact .inl rfl
  · by_cases e : j = i
    · rw [e, updV_same] at hb; exact absurd hb (nil_own b)
    · rw [updV_ne e] at hb; exact .inr ⟨j, hb⟩
def DueJ (g : Nat) (V : Nat → Sl) (k : Nat → It) (L : List It) (w1 : World) (j : Nat) (wr : World) : Prop := ∃ V', Ds g V' (cutL k (L.take j)) wr ∧ Touch (DOwn g V) w1 wr ∧ ∀ b, DOwn g V' b → DOwn g V b
theorem due_step {g : Nat} {V V' : Nat → Sl} {k : Nat → It} {L : List It} {w1 wr : World} {j n : Nat} (hj : j < L.length) (hn : n < 33) (hid : L[j].id = n) (h1 : Ds g V' (cutL k (L.take j)) wr) (h2 : Touch (DOwn g V) w1 wr) (h3 : ∀ b, DOwn g V' b → DOwn g V b) (o : Obj) : DueJ g V k L w1 (j + 1) (((wr.alloc o).setCells g (n * 5) (ci zIt nilS)).drew) := by
  have h4 := (h1.keep ((Below.refl _ wr).alloc (Nat.le_refl _) o)).wipe hn
  refine ⟨updV V' n nilS, ?_, ?_, fun b hb => h3 b (own_wipe b hb)⟩
  · rw [cutL_succ k hj, hid, Int.toNat_natCast]
    exact h4.keep (Below.refl _ _).drew
  · exact (Touch.sets (h2.alloc o) g (fun _ => .inl rfl) _ _).drew
def DuePost (g : Nat) (V : Nat → Sl) (k : Nat → It) (now : Int) (w : World) (e : Ending) (w' : World) : Prop :=
  ∃ (u : Sl) (P : List (It × Sl)) (V' : Nat → Sl), e = .returned (.slice u.a u.n u.c) ∧ P.map Prod.fst = dueL k now ∧ IRow 53 w' u.v P ∧ (∀ b, IOwn u.v P b → w.heap.size ≤ b) ∧ Ds g V' (restD k now) w' ∧ Touch (DOwn g V) w w' ∧ (∀ b, DOwn g V' b → DOwn g V b) ∧ (P = [] → u = nilS)
def DLJ (g : Nat) (V : Nat → Sl) (k : Nat → It) (L : List It) (w1 : World) (iv : Value) (wr : World) : Prop := ∃ j : Nat, j ≤ L.length ∧ iv = .int .i64 (j : Nat) ∧ DueJ g V k L w1 j wr
set_option maxHeartbeats 3200000 in
set_option maxRecDepth 100000 in
theorem due_any (g : Nat) (now : Int) (V : Nat → Sl) (k : Nat → It) (w : World) (h : Ds g V k w) :
    Calls Try.prog 16 #[.pointer (some ⟨g, 0, none⟩), .int .u64 now] w (DuePost g V k now w) := by
  have K := up_any g now V k w h
  have H := Lib.hid h
  clear h
  go_enter Try.func16, Try.ntmps16
  go_wp2_with fail
  refine K.mono ?_; rintro e w1 ⟨u, P, rfl, q1, q2, q3, b1, qn⟩
  have hun := erow_n q2.row
  obtain ⟨ua, un, uc⟩ := u
  simp only at hun
  subst hun
  obtain ⟨L, hL⟩ : ∃ L, dueL k now = L := ⟨_, rfl⟩
  have hlen : P.length = L.length := by rw [← hL, ← q1, List.length_map]
  rw [hL] at q1
  have HLL := Lib.hid hL
  have J0 : Hid (DueJ g V k L w1 0 w1) := ⟨V, by rw [List.take_zero]; exact H.out.keep b1, Touch.refl _ _, fun _ h => h⟩
  have hl33 : L.length ≤ 33 := by rw [← hL]; exact lo_len (dueB now) k 33
  have IK : Hid (∀ wr, Touch (DOwn g V) w1 wr → IRow 53 wr (Sl.v ⟨ua, P.length, uc⟩) P) := fun wr ht => q2.touch ht (fun b hb hd => by have h1 := q3 b hb; have h2 := H.out.lt b hd; omega)
  have IDS : Hid (∀ j, (hj : j < L.length) → ∃ n : Nat, n < 33 ∧ L[j].id = n) := fun j hj => by
    have hm : L[j] ∈ dueL k now := by rw [hL]; exact List.getElem_mem hj
    obtain ⟨i, hi, e, hq⟩ := mem_lo (p := dueB now) (i := 33) hm
    have hs : susp (k i) = true := by unfold dueB at hq; rw [Bool.and_eq_true] at hq; exact hq.1
    exact ⟨i, hi, by rw [e]; exact (H.out.ok.ok i hs).id⟩
  replace q1 := Lib.hid q1
  replace q2 := Lib.hid q2
  replace q3 := Lib.hid q3
  replace b1 := Lib.hid b1
  replace qn := Lib.hid qn
  clear K hL
  rw [hlen]
  have hl2 : (L.length : Int) ≤ 33 := by omega
  go_wp2_with fail
  go_loopw [13] (fun iv wr => DLJ g V k L w1 iv wr) (fun iv _ => L.length - (intOf iv).toNat)
  case atStart => exact ⟨0, Nat.zero_le _, rfl, J0.out⟩
  case round =>
    obtain ⟨j, hj, rfl, hJ⟩ := hrel
    obtain ⟨V', p1, p2, p3⟩ := hJ
    have hj0 : (0 : Int) ≤ j := by omega
    by_cases hlt : j < L.length
    · have hlt2 : (j : Int) < L.length := by omega
      obtain ⟨n, hn, hid⟩ := IDS.out j hlt
      have hn2 : (n : Int) < 33 := by omega
      have hn0 : (0 : Int) ≤ (n : Int) := by omega
      have RD := (IK.out wr p2)
      have hPj : j < P.length := by omega
      obtain ⟨b, off, hbo, hbl, hcc⟩ := (erow_rd cp_enc RD.row) (by omega)
      subst hbo
      have hpx : P[j]? = some P[j] := List.getElem?_eq_getElem hPj
      have hfst : P[j].1 = L[j] := by
        have h1 : (P.map Prod.fst)[j]? = L[j]? := by rw [q1.out]
        rw [List.getElem?_map, hpx, List.getElem?_eq_getElem hlt] at h1
        simpa using h1
      have c0 := hcc j _ hpx 0 _ rfl
      have c1 := hcc j _ hpx 1 _ rfl
      have c2 := hcc j _ hpx 2 _ rfl
      have c3 := hcc j _ hpx 3 _ rfl
      have c4 := hcc j _ hpx 4 _ rfl
      have ST := Lib.hid (fun o => due_step hlt hn hid p1 p2 p3 o)
      have HA : Hid (∀ o, Ds g V' (cutL k (L.take j)) (wr.alloc o)) := fun o => p1.keep ((Below.refl _ wr).alloc (Nat.le_refl _) o)
      have HI1 : Hid (j + 1 ≤ L.length) := hlt
      have glr := p1.glt
      simp only [hfst, hid] at c0 c1 c2 c3 c4
      clear hcc RD p1 p2 p3 hpx hfst
      generalize L[j] = x at *
      generalize P[j].2 = s at *
      obtain ⟨x1, x2, x3, x4, x5⟩ := x
      simp only [Nat.add_zero, ci] at hid c0 c1 c2 c3 c4 ST
      clear hid
      have X : Hid (Cs wr.heap.size [.int .i64 n, .int .u32 x2, .int .u64 x3, .int .u64 x4, .slice s.a s.n s.c] (wr.alloc (.cells #[.int .i64 n, .int .u32 x2, .int .u64 x3, .int .u64 x4, .slice s.a s.n s.c] 53))) := Cs.new wr _ _
      have SX := Lib.hid (ST.out (.cells #[.int .i64 n, .int .u32 x2, .int .u64 x3, .int .u64 x4, .slice s.a s.n s.c] 53))
      have HX := Lib.hid (HA.out (.cells #[.int .i64 n, .int .u32 x2, .int .u64 x3, .int .u64 x4, .slice s.a s.n s.c] 53))
      simp only [nilS, zIt] at SX
      have xne : Hid (wr.heap.size ≠ g) := fun e => by omega
      go_upto_region 5 with fail
      generalize (wr.alloc (.cells #[.int .i64 n, .int .u32 x2, .int .u64 x3, .int .u64 x4, .slice s.a s.n s.c] 53)) = w2 at *
      generalize wr.heap.size = xb at X xne ⊢
      have y0 := X.out.cell 0 _ rfl
      have xl := X.out.lt
      have gl := HX.out.glt
      have fr := fun o => HX.out.free o
      have d0 := HX.out.cell n hn 0 _ rfl
      have d1 := HX.out.cell n hn 1 _ rfl
      have d2 := HX.out.cell n hn 2 _ rfl
      have d3 := HX.out.cell n hn 3 _ rfl
      have d4 := HX.out.cell n hn 4 _ rfl
      simp only [Nat.add_zero] at d0
      generalize cutL k (L.take j) n = y at *
      generalize V' n = s2 at *
      clear HX X c0 c1 c2 c3 c4 glr HA ST
      go_region
      go_wp2
      go_roundw
      case rel => exact ⟨j + 1, HI1.out, by go_num, SX.out⟩
      case measure => simp [intOf]; omega
    · obtain rfl : j = L.length := by omega
      have hT := p2
      have F : Hid (DuePost g V k now w (.returned (.slice ua L.length uc)) wr) := by
        have e1 : cutL k L = restD k now := by rw [← HLL.out]; exact cut_due H.out.ok now
        rw [List.take_length, e1] at p1
        refine ⟨⟨ua, L.length, uc⟩, P, V', rfl, by rw [HLL.out]; exact q1.out, ?_, ?_, p1, (Touch.of_below _ b1.out).trans p2 (fun _ _ h => h), p3, ?_⟩
        · have := IK.out wr p2
          rw [hlen] at this
          exact this
        · have := q3.out
          rw [hlen] at this
          exact this
        · have := qn.out
          rw [hlen] at this
          exact this
      clear p1 p2 p3 hT IK IDS
      go_wp2
      refine bodyPost_ret (v := (.slice ua L.length uc)) (by simp [results, Try.results16, go_sem, *]) rfl ?_
      exact F.out
theorem items_any (g : Nat) (V : Nat → Sl) (k : Nat → It) (w : World) (h : Ds g V k w) :
    Calls Try.prog 22 #[.pointer (some ⟨g, 0, none⟩)] w (fun e w' => ∃ (u : Sl) (P : List (It × Sl)), e = .returned (.slice u.a u.n u.c) ∧ P.map Prod.fst = allL k ∧ IRow 53 w' u.v P ∧ (∀ b, IOwn u.v P b → w.heap.size ≤ b) ∧ Below w.heap.size w w' ∧ (P = [] → u = nilS)) := by
  have K := up_any g 18446744073709551615 V k w h
  have HE := Lib.hid (due_ever h.ok)
  clear h
  go_enter Try.func22, Try.ntmps22
  go_wp2_with fail
  refine K.mono ?_; rintro e w1 ⟨u, P, rfl, q1, q2, q3, b1, qn⟩
  replace qn := Lib.hid qn
  replace q1 := Lib.hid q1
  replace q2 := Lib.hid q2
  replace q3 := Lib.hid q3
  replace b1 := Lib.hid b1
  go_wp2
  refine bodyPost_ret (v := (.slice u.a u.n u.c)) (by simp [results, Try.results22, go_sem, *]) rfl ?_
  exact ⟨u, P, rfl, by rw [← HE.out]; exact q1.out, q2.out, q3.out, b1.out, qn.out⟩
end Go.Proofs.Ytplllaafllcigaa
