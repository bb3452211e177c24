/- The net's arrive. -/
import Derived.Test.YtdpgmdkclaahdaaNeSendN
namespace Go.Proofs.Ytdpgmdkclaahdaa.Ne
open Go.Sort Go.RowKit Go.BigFrame
set_option linter.unusedVariables false
set_option linter.unusedSimpArgs false

section
variable {w0 w w' : World} {m : Mem} {H : List Hl} {n n' : Nt}
theorem boxP_lt {bs : List Nb.Bx} {ip : Int} {j : Nat} (h : boxP bs ip = j + 1) : j < bs.length := by
  unfold boxP numP at h
  split at h
  · have := (List.findIdx?_eq_some_iff_getElem.1 (by assumption)).1; omega
  · omega
set_option maxHeartbeats 3200000 in
set_option maxRecDepth 20000 in
theorem arr_n (now fi fp ti tp t : Int) (b : ByteArray) (h0 : 0 ≤ now) (s : NN w0 m H n w) :
    Calls Try.prog 30 #[ptr m.g, .int .u64 now, .agg #[.int .u32 fi, .int .u16 fp, .int .u32 ti, .int .u16 tp, .string b, .int .u64 t]] w fun e w' => e = .returned (.int .i64 ((arrP n now ⟨fi, fp, ti, tp, b, t⟩).1 : Nat)) ∧ NN w0 m H (arrP n now ⟨fi, fp, ti, tp, b, t⟩).2 w' := by
  have hbl := s.ok.bl
  have hlb := s.lenB
  have KH : Hid (∀ H' nx i p bx w, nx.hs = n.hs → NN w0 m H' nx w → Calls Try.prog 43 #[ptr m.g, .agg #[.int .u32 i, .int .u16 p], .int .i64 bx] w fun e w' => e = .returned (.int .i64 (hostP n.hs i p bx : Nat)) ∧ NN w0 m H' nx w') := fun H' nx i p bx w he s => by
    rw [← he]
    exact (hostAt_n i p bx s).mono fun e w' ⟨h1, h2⟩ => ⟨h1, s.keep h2⟩
  have KA : Hid (∀ H' w, NN w0 m H' n w → Calls Try.prog 44 #[ptr m.g, .int .u32 ti] w fun e w' => e = .returned (.int .i64 (boxP n.bs ti : Nat)) ∧ NN w0 m H' n w') := fun H' w s => (boxAt_n ti s).mono fun e w' ⟨h1, h2⟩ => ⟨h1, s.keep h2⟩
  have s1 := s.new [.int .u32 fi, .int .u16 fp, .int .u32 ti, .int .u16 tp, .string b, .int .u64 t] 75
  have s2 := s1.new [.int .u32 ti, .int .u16 tp] 28
  have e1 : (w.alloc (.cells #[.int .u32 fi, .int .u16 fp, .int .u32 ti, .int .u16 tp, .string b, .int .u64 t] 75)).heap.size = w.heap.size + 1 := by simp
  rw [show ([.int .u32 fi, .int .u16 fp, .int .u32 ti, .int .u16 tp, .string b, .int .u64 t] : List Value).toArray = #[.int .u32 fi, .int .u16 fp, .int .u32 ti, .int .u16 tp, .string b, .int .u64 t] from rfl, show ([.int .u32 ti, .int .u16 tp] : List Value).toArray = #[.int .u32 ti, .int .u16 tp] from rfl, e1] at s2
  have SA := Lib.hid s2
  clear s s1 s2 e1
  obtain ⟨h1, hh1⟩ : ∃ k : Nat, hostP n.hs ti tp 0 = k := ⟨_, rfl⟩
  obtain ⟨b1, hb1⟩ : ∃ k : Nat, boxP n.bs ti = k := ⟨_, rfl⟩
  go_enter Try.func30, Try.ntmps30
  go_wp2
  refine wp_scope_fwd 0 rfl ?_
  go_upto_region 2 with fail
  generalize ((w.alloc (.cells #[.int .u32 fi, .int .u16 fp, .int .u32 ti, .int .u16 tp, .string b, .int .u64 t] 75)).alloc (.cells #[.int .u32 ti, .int .u16 tp] 28)) = w2 at *
  generalize w.heap.size = g1 at *
  have d0 := (SA.out.cs (b := g1 + 1) (vs := [.int .u32 ti, .int .u16 tp]) (.head _)).cell 0 _ rfl; have d1 := (SA.out.cs (b := g1 + 1) (vs := [.int .u32 ti, .int .u16 tp]) (.head _)).cell 1 _ rfl; have dl := (SA.out.cs (b := g1 + 1) (vs := [.int .u32 ti, .int .u16 tp]) (.head _)).lt
  go_wp2_with fail
  refine (KH.out _ n ti tp 0 _ rfl SA.out).mono ?_; rintro e w3 ⟨rfl, s⟩
  clear SA d0 d1 dl
  have SA := Lib.hid s
  clear s
  rw [hh1]
  by_cases hz : h1 = 0
  · subst hz
    have c0 := (SA.out.cs (b := g1) (vs := [.int .u32 fi, .int .u16 fp, .int .u32 ti, .int .u16 tp, .string b, .int .u64 t]) (.tail _ (.head _))).cell 0 _ rfl; have c1 := (SA.out.cs (b := g1) (vs := [.int .u32 fi, .int .u16 fp, .int .u32 ti, .int .u16 tp, .string b, .int .u64 t]) (.tail _ (.head _))).cell 1 _ rfl; have c2 := (SA.out.cs (b := g1) (vs := [.int .u32 fi, .int .u16 fp, .int .u32 ti, .int .u16 tp, .string b, .int .u64 t]) (.tail _ (.head _))).cell 2 _ rfl; have c3 := (SA.out.cs (b := g1) (vs := [.int .u32 fi, .int .u16 fp, .int .u32 ti, .int .u16 tp, .string b, .int .u64 t]) (.tail _ (.head _))).cell 3 _ rfl; have c4 := (SA.out.cs (b := g1) (vs := [.int .u32 fi, .int .u16 fp, .int .u32 ti, .int .u16 tp, .string b, .int .u64 t]) (.tail _ (.head _))).cell 4 _ rfl; have c5 := (SA.out.cs (b := g1) (vs := [.int .u32 fi, .int .u16 fp, .int .u32 ti, .int .u16 tp, .string b, .int .u64 t]) (.tail _ (.head _))).cell 5 _ rfl; have cl := (SA.out.cs (b := g1) (vs := [.int .u32 fi, .int .u16 fp, .int .u32 ti, .int .u16 tp, .string b, .int .u64 t]) (.tail _ (.head _))).lt
    go_wp2_with fail
    refine (KA.out _ _ SA.out).mono ?_; rintro e w4 ⟨rfl, s⟩
    clear SA c0 c1 c2 c3 c4 c5 cl
    have SA := Lib.hid s
    clear s
    rw [hb1]
    cases b1 with
    | zero =>
      have es : arrP n now ⟨fi, fp, ti, tp, b, t⟩ = (0, n) := by
        unfold arrP; simp only [hh1, hb1]; rfl
      have ES := Lib.hid es
      clear KH KA es
      go_wp2_with fail
      go_step3; go_wp2; refine ⟨rfl, ?_⟩; go_wp2; rw [Exit.noGoto_ret]
      go_ret
      exact ⟨by rw [ES.out]; rfl, by rw [ES.out]; exact SA.out.drop.drop⟩
    | succ j =>
      have hj := boxP_lt hb1
      have hq : m.gs[j]? = some (m.gs[j]'(by rw [hlb]; exact hj)) := List.getElem?_eq_getElem _
      have hx : n.bs[j]? = some n.bs[j] := List.getElem?_eq_getElem hj
      have es : arrP n now ⟨fi, fp, ti, tp, b, t⟩ = arrB n j (inB n.bs[j] now tp fi fp) := by
        unfold arrP; simp only [hh1, hb1, hx]; rfl
      unfold arrB at es
      have ES := Lib.hid es
      have KB : Hid (∀ H' w, NN w0 m H' n w → Calls Try.prog 19 #[ptr m.g, .int .i64 ((j + 1 : Nat) : Int)] w fun e w' => e = .returned (ptr (m.gs[j]'(by rw [hlb]; exact hj))) ∧ NN w0 m H' n w') := fun H' w s' => (box_n ((j + 1 : Nat) : Int) j _ (by omega) hq s').mono fun e w' ⟨h1, h2⟩ => ⟨h1, h2 ▸ s'⟩
      have KI : Hid (∀ H' w, NN w0 m H' n w → _) := fun H' w s' => in_n (n := n) now tp fi fp hq hx h0 s'
      have en : (setB n j (inB n.bs[j] now tp fi fp).2).hs = n.hs := rfl
      generalize (m.gs[j]'(by rw [hlb]; exact hj)) = q at *
      generalize inB n.bs[j] now tp fi fp = r at *
      obtain ⟨⟨ri, rp, re⟩, xr⟩ := r
      simp only at KI en ES
      generalize setB n j xr = nn at *
      have KHn := Lib.hid (fun H' i p bx w s => KH.out H' nn i p bx w en s)
      have eq1 : ((j + 1 : Nat) : Int) = (j : Int) + 1 := by omega
      have eq2 : ((j : Int) + 1 == 0) = false := by rw [beq_eq_false_iff_ne]; omega
      have eq3 : ¬ ((j : Int) + 1 = 0) := by omega
      rw [eq1] at KB
      rw [eq1]
      clear KA hq hx es hj hb1 hh1 KH en
      go_upto_region 6 with fail
      go_cut [9] (fun v9 wx => v9 = .int .i64 re ∧ NN w0 m (hC (g1 + 1) [.int .u32 ri, .int .u16 rp] :: hC g1 [.int .u32 fi, .int .u16 fp, .int .u32 ti, .int .u16 tp, .string b, .int .u64 t] :: H) nn wx)
      case first =>
        have mk0 : Hid (∀ v nx w', NN w0 m (hC (g1 + 1) v :: hC g1 [.int .u32 fi, .int .u16 fp, .int .u32 ti, .int .u16 tp, .string b, .int .u64 t] :: H) nx w' → w'.cell? ⟨g1, 0, none⟩ = some (.int .u32 fi) ∧ w'.cell? ⟨g1, 1, none⟩ = some (.int .u16 fp) ∧ w'.cell? ⟨g1, 3, none⟩ = some (.int .u16 tp) ∧ g1 < w'.heap.size ∧ True) := fun v nx w' s =>
          ⟨(s.cs (b := g1) (vs := [.int .u32 fi, .int .u16 fp, .int .u32 ti, .int .u16 tp, .string b, .int .u64 t]) (.tail _ (.head _))).cell 0 _ rfl, (s.cs (b := g1) (vs := [.int .u32 fi, .int .u16 fp, .int .u32 ti, .int .u16 tp, .string b, .int .u64 t]) (.tail _ (.head _))).cell 1 _ rfl, (s.cs (b := g1) (vs := [.int .u32 fi, .int .u16 fp, .int .u32 ti, .int .u16 tp, .string b, .int .u64 t]) (.tail _ (.head _))).cell 3 _ rfl, (s.cs (b := g1) (vs := [.int .u32 fi, .int .u16 fp, .int .u32 ti, .int .u16 tp, .string b, .int .u64 t]) (.tail _ (.head _))).lt, trivial⟩
        have glt := SA.out.glt
        go_region_held (fun w' => w'.cell? ⟨g1, 0, none⟩ = some (.int .u32 fi) ∧ w'.cell? ⟨g1, 1, none⟩ = some (.int .u16 fp) ∧ w'.cell? ⟨g1, 3, none⟩ = some (.int .u16 tp) ∧ g1 < w'.heap.size ∧ True) (first | exact mk0.out _ _ _ SA.out | exact mk0.out _ _ _ SA.out.drew | exact mk0.out _ _ _ ((SA.out.setc [] _ 0 (.int .u32 ri) (by simp)).setc [] _ 1 (.int .u16 rp) (by simp))) (first | (go_at_call 19; first | (refine (KB.out _ _ SA.out.drew).mono ?_; rintro e wA ⟨rfl, sA⟩; have SA := Lib.hid sA; clear sA) | (refine (KB.out _ _ SA.out).mono ?_; rintro e wA ⟨rfl, sA⟩; have SA := Lib.hid sA; clear sA)) | (go_at_call 45; first | (refine (KI.out _ _ SA.out).mono ?_; rintro e wA ⟨rfl, sA⟩; have SA := Lib.hid sA; clear sA; have y0 := (SA.out.cs (vs := [.int .u32 ti, .int .u16 tp]) (.head _)).cell 0 _ rfl; have y1 := (SA.out.cs (vs := [.int .u32 ti, .int .u16 tp]) (.head _)).cell 1 _ rfl; have z0 := (SA.out.cs (vs := [.int .u32 ti, .int .u16 tp]) (.head _)).free 0 _ rfl; have z1 := (SA.out.cs (vs := [.int .u32 ti, .int .u16 tp]) (.head _)).free 1 _ rfl; have yl := (SA.out.cs (vs := [.int .u32 ti, .int .u16 tp]) (.head _)).lt)) | fail)
        all_goals go_wp2_with fail
        all_goals go_meet
        all_goals exact ⟨rfl, (SA.out.setc [] _ 0 (.int .u32 ri) (by simp)).setc [] _ 1 (.int .u16 rp) (by simp)⟩
      case rest =>
        obtain ⟨rfl, s⟩ := hcut
        clear SA KB KI
        have SA := Lib.hid s
        clear s
        generalize wc = w5 at *
        have d0 := (SA.out.cs (b := g1 + 1) (vs := [.int .u32 ri, .int .u16 rp]) (.head _)).cell 0 _ rfl; have d1 := (SA.out.cs (b := g1 + 1) (vs := [.int .u32 ri, .int .u16 rp]) (.head _)).cell 1 _ rfl; have dl := (SA.out.cs (b := g1 + 1) (vs := [.int .u32 ri, .int .u16 rp]) (.head _)).lt
        by_cases hr : re = 0
        · have es := ES.out
          rw [if_pos hr] at es
          have ES2 := Lib.hid es
          clear es
          subst hr
          go_wp2_with fail
          refine (KHn.out _ ri rp _ _ SA.out).mono ?_; rintro e w6 ⟨rfl, s⟩
          clear SA d0 d1 dl
          have SA := Lib.hid s
          clear s
          go_wp2
          go_step3
          go_wp2
          simp only [Exit.jump]
          go_ret
          exact ⟨by rw [ES2.out]; rfl, by rw [ES2.out]; exact SA.out.drop.drop⟩
        · have es := ES.out
          rw [if_neg hr] at es
          have ES2 := Lib.hid es
          clear es
          have hr' : (re == 0) = false := by rw [beq_eq_false_iff_ne]; exact hr
          go_wp2_with fail
          go_step3; go_wp2; refine ⟨rfl, ?_⟩; go_wp2; rw [Exit.noGoto_ret]
          go_ret
          exact ⟨by rw [ES2.out]; rfl, by rw [ES2.out]; exact SA.out.drop.drop⟩
  · have es : arrP n now ⟨fi, fp, ti, tp, b, t⟩ = (h1, n) := by
      unfold arrP; simp only [hh1]; rw [if_pos hz]
    have ES := Lib.hid es
    have hz1 : ¬ ((h1 : Int) = 0) := by omega
    have hz2 : ((h1 : Int) == 0) = false := by rw [beq_eq_false_iff_ne]; omega
    clear KH KA hh1 hb1 es
    go_wp2_with fail
    go_step3; go_wp2; refine ⟨rfl, ?_⟩; go_wp2; rw [Exit.noGoto_ret]
    go_ret
    exact ⟨by rw [ES.out]; rfl, by rw [ES.out]; exact SA.out.drop.drop⟩
end
end Go.Proofs.Ytdpgmdkclaahdaa.Ne
