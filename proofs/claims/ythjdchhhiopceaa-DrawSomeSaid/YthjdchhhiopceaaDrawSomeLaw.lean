/- The statement DrawSome: for every seed, every length up to 20 and every k: some of a list are as many as asked for, each from another place; the list that is handed in stays. No conditions. -/
import Derived.Test.YthjdchhhiopceaaDrawSame
import Derived.ChangeOld
import Derived.ShutString
import Derived.OpenShut
namespace Go.Proofs.Ythjdchhhiopceaa
open Go.RowKit Go.ChangeShapes Go.WideShapes Go.ChangeAt
set_option linter.unusedVariables false
set_option linter.unusedSimpArgs false

/-- the list of the law: 100, 101, .. -/
def upL (n : Nat) : List Int := (List.range n).map fun (i : Nat) => 100 + (i : Int)
theorem upL_length (n : Nat) : (upL n).length = n := by simp [upL]
theorem upL_succ (n : Nat) : upL (n + 1) = upL n ++ [100 + (n : Int)] := by simp [upL, List.range_succ]
theorem upL_get (n i : Nat) (h : i < n) : (upL n).getD i 0 = 100 + (i : Int) := by simp [upL, List.getD_eq_getElem?_getD, h]
theorem upL_mem (n : Nat) (x : Int) : x ∈ upL n ↔ 100 ≤ x ∧ x < 100 + n := by
  simp only [upL, List.mem_map, List.mem_range]
  constructor
  · rintro ⟨i, hi, rfl⟩; omega
  · rintro ⟨h1, h2⟩; exact ⟨(x - 100).toNat, by omega, by omega⟩
theorem upL_nodup (n : Nat) : (upL n).Nodup := by
  induction n with
  | zero => simp [upL]
  | succ n ih =>
    rw [upL_succ, List.nodup_append]
    refine ⟨ih, by simp, ?_⟩
    intro a ha b hb
    rw [upL_mem] at ha
    simp at hb
    omega

def ListJ (w : World) (m : Nat) (i v : Value) (wr : World) : Prop :=
  ∃ k : Nat, i = .int .i64 k ∧ k ≤ m ∧ wr.ownsRow w.heap.size 3 1 v k ((upL k).map (Value.int .i64)) ∧ Below w.heap.size w wr

theorem list_step {w wr w2 : World} {m j : Nat} {v v2 : Value} (hj : j < m) (ho : wr.ownsRow w.heap.size 3 1 v j ((upL j).map (Value.int .i64))) (hb : Below w.heap.size w wr) {o : Obj}
    (h2 : w2.ownsRow w.heap.size 3 1 v2 (j + 1) ((upL j).map (Value.int .i64) ++ [100 + (j : Int)].map (Value.int .i64))) (hg : (wr.alloc o).grownBy w2 v.ownBlock) : ListJ w m (.int .i64 ((j : Int) + 1)) v2 w2 := by
  refine ⟨j + 1, by go_num, by omega, ?_, (hb.alloc hb.size o).grown hg (by have := hb.size; simp; omega) (fun g h => (ho.lt g h).1)⟩
  rw [upL_succ, List.map_append]
  exact h2

/-- which of the list have been met -/
def metRow (out : List Int) (i : Nat) : Nat → Value := fun j => .bool (decide (100 + (j : Int) ∈ out.take i))

def MetJ (W5 : World) (G : Nat) (out : List Int) (q : Nat) (i : Value) (wr : World) : Prop :=
  ∃ k : Nat, i = .int .i64 k ∧ k ≤ q ∧ wr.rowIs G 4 21 (metRow out k) ∧ Below G W5 wr

def UpJ (wz : World) (j : Nat) (t : Value) (wr : World) : Prop := ∃ a : Nat, t = .int .i64 a ∧ a ≤ j ∧ wz = wr

theorem out_facts {s : Int} {j q : Nat} {out : List Int} (ho : out = (mixL s (upL j)).1.take q) (hl : out.length = q) (i : Nat) (hi : i < q) :
    ∃ x : Nat, x < j ∧ out.getD i 0 = 100 + (x : Int) ∧ 100 + (x : Int) ∉ out.take i ∧ out.take (i + 1) = out.take i ++ [100 + (x : Int)] := by
  have hp := mixL_perm s (upL j)
  have hnd : out.Nodup := by rw [ho]; exact List.Sublist.nodup (List.take_sublist _ _) (hp.nodup_iff.2 (upL_nodup j))
  have hil : i < out.length := by omega
  have hg : out.getD i 0 = out[i] := by simp [List.getD_eq_getElem?_getD, hil]
  have hm : out[i] ∈ upL j := hp.mem_iff.1 (List.mem_of_mem_take (by rw [← ho]; exact List.getElem_mem hil))
  rw [upL_mem] at hm
  refine ⟨(out[i] - 100).toNat, by omega, by omega, ?_, ?_⟩
  · rw [show 100 + (((out[i] - 100).toNat : Nat) : Int) = out[i] from by omega]
    intro h
    obtain ⟨a, ha, he⟩ := List.mem_iff_getElem.1 h
    rw [List.length_take] at ha
    rw [List.getElem_take] at he
    exact List.pairwise_iff_getElem.1 hnd a i (by omega) hil (by omega) he
  · rw [show 100 + (((out[i] - 100).toNat : Nat) : Int) = out[i] from by omega, List.take_succ_eq_append_getElem hil]

theorem met_step {W5 wr : World} {G q i x : Nat} {out : List Int} (hi : i < q) (h : wr.rowIs G 4 21 (metRow out i)) (hb : Below G W5 wr) (ht : out.take (i + 1) = out.take i ++ [100 + (x : Int)]) :
    MetJ W5 G out q (.int .i64 ((i : Int) + 1)) (wr.setCell ⟨G, x, none⟩ (.bool true)) := by
  refine ⟨i + 1, by go_num, by omega, (h.set x (.bool true)).congr fun a ha => ?_, hb.setCell (Nat.le_refl _) _⟩
  unfold metRow
  rw [ht]
  by_cases h1 : a = x
  · subst h1; simp
  · have : ¬ (100 + (a : Int)) = 100 + (x : Int) := by omega
    simp [h1, this]

theorem met_zero (W5 : World) (out : List Int) (q : Nat) : MetJ W5 W5.heap.size out q (.int .i64 0) (W5.alloc (.cells (madeCells #[.bool false] 21) 4)) :=
  ⟨0, rfl, Nat.zero_le _, (World.rowIs_made W5 (.bool false) 21 4).congr fun a _ => by simp [metRow], (Below.refl _ _).alloc (Nat.le_refl _) _⟩

theorem info_bool : (Try.prog.info? 4).map (fun i => (i.zero, i.size, i.bytes)) = some (some (.bool false), 1, 1) := by kernel_rfl

set_option maxRecDepth 100000 in
set_option maxHeartbeats 1600000 in
theorem drawSome_walk (s n k : Int) (m q : Nat) (hm : Hid (n % 21 = (m : Int))) (hq : Hid (much k m = q)) (hs : 0 ≤ s ∧ s ≤ 18446744073709551615) (hn : 0 ≤ n ∧ n ≤ 255) (hk : -128 ≤ k ∧ k ≤ 127) (w : World) :
    Calls Try.prog 6 #[.int .u64 s, .int .u8 n, .int .i8 k] w fun e w' => e = .returned (.bool true) ∧ Below w.heap.size w w' := by
  obtain ⟨n0, n1⟩ := hn
  have hm20 : m ≤ 20 := by have := hm.out; omega
  have hq20 : q ≤ 20 := by have := hq.out; unfold much at this; omega
  go_enter Try.func6, Try.ntmps6
  go_wp2_with fail
  refine (examples_yes _).mono ?_; rintro e w1 ⟨rfl, b1⟩
  go_wp2_with fail
  go_loopw [8, 9] (fun v i wr => ListJ w m i v wr) (fun _ i _ => (n % 21 - intOf i).toNat)
  case atStart => exact ⟨0, rfl, Nat.zero_le _, World.ownsRow_nil _ _ _ _, b1⟩
  case round =>
    obtain ⟨j, rfl, hj, hown, hbel⟩ := hrel
    by_cases hlt : (j : Int) < n % 21
    · have hj2 : j < m := by have := hm.out; omega
      have HO := Lib.hid hown
      have HB := Lib.hid hbel
      clear hown hbel
      go_wp2_with (at_builtin; refine wpList_append_rd _ rfl (.tmp 28) (.tmp 31) 23 rfl w.heap.size 3 .i64 8 Try.underlying23 info_int _ j ((upL j).map (Value.int .i64)) rfl (HO.out.alloc _) _ (some ⟨wr.heap.size, 0, none⟩) 1 1 [100 + (j : Int)] rfl rfl (Rd.of_alloc _ _ _ _ rfl) (fun h => by cases h) ?c1 ?c2 ?c3 ?_)
      case c1 => omega
      case c2 => omega
      case c3 => have := HB.out.size; simp; omega
      intro v2 w2 hown2 hg2
      have R := Lib.hid (list_step hj2 HO.out HB.out hown2 hg2)
      clear hown2 hg2
      go_wp2
      go_roundw
      case rel => exact R.out
      case measure => simp [intOf] <;> omega
    · have hjm : j = m := by have := hm.out; omega
      subst hjm
      obtain ⟨A, c, hv⟩ := own_slice hown
      subst hv
      have hA : j ≤ c := by
        rcases hown.2 with ⟨h, h0⟩ | ⟨g, cap, cur, h, _, _, h2, _⟩
        · omega
        · injection h; omega
      have HR := Lib.hid (Rd.of_own hown)
      have HB := Lib.hid hbel
      clear hown hbel
      generalize wr = wl at *
      go_wp2_with fail
      refine (new_any _ _).mono ?_; rintro e w2 ⟨rfl, b2⟩
      go_wp2_with fail
      refine (some_all _ _ _ _ (upL j) k q hq (by omega) hA (upL_length j) _ ?r1).mono ?_; rotate_right; rintro e w3 ⟨A3, c3, rfl, h3, b3⟩
      case r1 => exact (HR.out.below b2).more b2.size
      obtain ⟨out, hout⟩ : ∃ out, out = (mixL s (upL j)).1.take q := ⟨_, rfl⟩
      obtain ⟨s9, hs9⟩ : ∃ s9, s9 = (mixL s (upL j)).2 := ⟨_, rfl⟩
      rw [← hout] at h3
      rw [← hs9]
      have HOUT := Lib.hid hout
      have H3 := Lib.hid h3
      have HS9 := Lib.hid hs9
      clear hout h3 hs9
      go_wp2_with fail
      refine (new_any _ _).mono ?_; rintro e w4 ⟨rfl, b4⟩; obtain ⟨hc4, hf4, hz4⟩ := bcell b4; (try simp at hz4); have kc4_0 := fun o => hc4 (w3.heap.size) o (by first | omega | (simp; done) | (simp; omega)); have kf4_0 := fun o => hf4 (w3.heap.size) o (by first | omega | (simp; done) | (simp; omega)); have kl4_0 : w3.heap.size < w4.heap.size := (by omega); clear hc4 hf4
      go_wp2_with fail
      refine (mix_ans _ _ _ _ (upL j) (by omega) hA (upL_length j) _ ?r2).mono ?_; rotate_right; rintro e w5 ⟨g5, rfl, h5, b5⟩; obtain ⟨hc5, hf5, hz5⟩ := bcell b5; (try simp at hz5); have kc5_0 := fun o => hc5 (w3.heap.size) o (by first | omega | (simp; done) | (simp; omega)); have kf5_0 := fun o => hf5 (w3.heap.size) o (by first | omega | (simp; done) | (simp; omega)); have kl5_0 : w3.heap.size < w5.heap.size := (by omega); clear hc5 hf5
      case r2 => exact ((HR.out.below (by (have zz0 := Below.size b4; (try simp at zz0); have zz1 := Below.size b3; (try simp at zz1); have zz2 := Below.size b2; (try simp at zz2); repeat (first | exact Below.refl _ _ | refine Below.drew ?_ | refine below_drewN ?_ _ | refine Below.alloc ?_ (by first | omega | (simp; done) | (simp; omega)) _ | refine Below.setCell ?_ (by first | omega | (simp; done) | (simp; omega)) _ | (with_reducible refine Below.trans ?_ (Below.mono b4 (by first | omega | (simp; done) | (simp; omega)))) | (with_reducible refine Below.trans ?_ (Below.mono b3 (by first | omega | (simp; done) | (simp; omega)))) | (with_reducible refine Below.trans ?_ (Below.mono b2 (by first | omega | (simp; done) | (simp; omega)))))))).more (by have := b2.size; have := b3.size; have := b4.size; simp at *; omega))
      rw [← HS9.out]
      have hmk := run_make_row' (P := Try.prog) 51 4 (.bool false) 1 Try.underlying51 info_bool rfl .i64 .i64 21 (by omega) (by omega)
      simp only [Int.cast_ofNat_Int] at hmk
      go_wp2_with fail
      go_loopw [15, 16] (fun i _ wr => MetJ (w5.alloc (Obj.cells #[Value.int IntKind.u64 s9] 26)) (w5.heap.size + 1) out q i wr) (fun i _ _ => q - (intOf i).toNat)
      case atStart => simpa using met_zero (w5.alloc (Obj.cells #[Value.int IntKind.u64 s9] 26)) out q
      case round =>
        obtain ⟨i, rfl, hi, hrow, hbel⟩ := hrel
        have HROW := Lib.hid hrow
        have HBEL := Lib.hid hbel
        clear hrow hbel
        by_cases hiq : i < q
        · obtain ⟨x, hxj, hx1, hx2, hx3⟩ := out_facts HOUT.out H3.out.1 i hiq
          have HX3 := Lib.hid hx3
          obtain ⟨g3, o3, hA3, hl3, hc3⟩ := H3.out.2.1 (by rw [H3.out.1]; omega)
          subst hA3
          have hci : wr.cell? ⟨g3, o3 + i, none⟩ = some (.int .i64 (100 + (x : Int))) := by
            have hz5 := b4.size
            have hz6 := b5.size
            simp at hz5 hz6
            rw [HBEL.out.cell (p := ⟨g3, o3 + i, none⟩) (by show g3 < _; omega), World.cell?_alloc_lt _ _ _ (by show g3 < _; omega),
              b5.cell (p := ⟨g3, o3 + i, none⟩) (by show g3 < _; omega), b4.cell (p := ⟨g3, o3 + i, none⟩) (by show g3 < _; simp; omega), World.cell?_alloc_lt _ _ _ (by show g3 < _; omega),
              hc3 i (by rw [H3.out.1]; omega), hx1]
          have hcm : wr.cell? ⟨w5.heap.size + 1, x, none⟩ = some (.bool false) := by
            rw [HROW.out.cell (by omega)]
            simp [metRow, hx2]
          have hfm : wr.frozen? ⟨w5.heap.size + 1, x, none⟩ = false := HROW.out.frozen _
          have hxj1 : (x : Int) < j := by omega
          have hx0 : (0 : Int) ≤ x := by omega
          have hx21 : (x : Int) < 21 := by omega
          clear hx1 hx2 hx3 hc3
          go_wp2
          go_roundw
          case rel => exact met_step hiq HROW.out HBEL.out HX3.out
          case measure => simp [intOf] <;> omega
        · have z2 := b2.size
          have z3 := b3.size
          have z4 := b4.size
          have z5 := b5.size
          simp at z4 z5
          have ca : wr.cell? ⟨w3.heap.size, 0, none⟩ = some (.int .u64 s9) := by
            rw [HBEL.out.cell (p := ⟨w3.heap.size, 0, none⟩) (by show w3.heap.size < _; omega)]
            go_simp
          have cb : wr.cell? ⟨w5.heap.size, 0, none⟩ = some (.int .u64 s9) := by
            rw [HBEL.out.cell (p := ⟨w5.heap.size, 0, none⟩) (by show w5.heap.size < _; omega)]
            go_simp
          have hbl : Below wl.heap.size wl wr := by
            have hb := HBEL.out
            (have zz0 := Below.size hb; (try simp at zz0); have zz1 := Below.size b5; (try simp at zz1); have zz2 := Below.size b4; (try simp at zz2); have zz3 := Below.size b3; (try simp at zz3); have zz4 := Below.size b2; (try simp at zz4); repeat (first | exact Below.refl _ _ | refine Below.drew ?_ | refine below_drewN ?_ _ | refine Below.alloc ?_ (by first | omega | (simp; done) | (simp; omega)) _ | refine Below.setCell ?_ (by first | omega | (simp; done) | (simp; omega)) _ | (with_reducible refine Below.trans ?_ (Below.mono hb (by first | omega | (simp; done) | (simp; omega)))) | (with_reducible refine Below.trans ?_ (Below.mono b5 (by first | omega | (simp; done) | (simp; omega)))) | (with_reducible refine Below.trans ?_ (Below.mono b4 (by first | omega | (simp; done) | (simp; omega)))) | (with_reducible refine Below.trans ?_ (Below.mono b3 (by first | omega | (simp; done) | (simp; omega)))) | (with_reducible refine Below.trans ?_ (Below.mono b2 (by first | omega | (simp; done) | (simp; omega))))))
          have HL := Lib.hid (HR.out.below hbl)
          have HBW := Lib.hid (HB.out.trans (hbl.mono HB.out.size))
          have hiq2 : i = q := by omega
          subst hiq2
          clear HBEL HROW hbl
          go_wp2_with fail
          generalize wr = wz at *
          go_loopw [17] (fun t wr => UpJ wz j t wr) (fun t _ => j - (intOf t).toNat)
          case atStart => exact ⟨0, rfl, Nat.zero_le _, rfl⟩
          case round =>
            obtain ⟨a, rfl, haj, rfl⟩ := hrel
            by_cases hal : a < j
            · obtain ⟨g1, o1, hA1, hl1, hc1⟩ := HL.out (by rw [upL_length]; omega)
              subst hA1
              have cl : wz.cell? ⟨g1, o1 + a, none⟩ = some (.int .i64 (100 + (a : Int))) := by rw [hc1 a (by rw [upL_length]; omega), upL_get j a hal]
              have ha0 : (0 : Int) ≤ a := by omega
              have haj2 : (a : Int) < j := by omega
              clear hc1
              go_wp2
              go_roundw
              case rel => exact ⟨a + 1, by go_num, by omega, rfl⟩
              case measure => simp [intOf] <;> omega
            · have hqo := hq.out
              unfold much at hqo
              by_cases k0 : k < 0
              · obtain rfl : i = 0 := by omega
                clear hqo
                go_wp2
                go_ret
                exact ⟨rfl, HBW.out⟩
              · by_cases k1 : k ≤ j
                · obtain rfl : k = (i : Int) := by omega
                  clear hqo
                  go_wp2
                  go_ret
                  exact ⟨rfl, HBW.out⟩
                · obtain rfl : i = j := by omega
                  clear hqo
                  go_wp2
                  go_ret
                  exact ⟨rfl, HBW.out⟩
theorem drawSome_run (s n k : Int) (w : World) (ws : (Lit.int .u64 s).wf = true) (wn : (Lit.int .u8 n).wf = true) (wk : (Lit.int .i8 k).wf = true) :
    Calls Try.prog 6 #[.int .u64 s, .int .u8 n, .int .i8 k] w fun e w' => e = .returned (.bool true) ∧ Below w.heap.size w w' := by
  have hn := bounds_u8 wn
  have h0 := Int.emod_nonneg n (show (21 : Int) ≠ 0 by omega)
  exact drawSome_walk s n k (n % 21).toNat _ (show n % 21 = (((n % 21).toNat : Nat) : Int) by omega) (Lib.hid rfl) (bounds_u64 ws) hn (bounds_i8 wk) w

theorem drawSome_own : ownKnob Try.prog.godebug = none := by kernel_rfl
theorem drawSome_laid : laidOutB Try.prog = true := by kernel_rfl
set_option maxRecDepth 100000 in
theorem drawSome_lifted (os : Os) (started : os.Started) (H : Type) (enc : TypeId × Value → H) :
    ReturnsInHanded {} Try.checked os 6 .any (Rows.drawSomeSpec.pre6 enc Try.prog Try.f6 Rows.drawSomeRow.domain false) (Rows.drawSomeSpec.post enc Try.prog Try.f6 false true false false) := by
  refine returnsInHanded_of_change (C := Try.checked) drawSome_own started (by kernel_rfl) Try.func6
    (ChangeSpec.witness6 (enc := enc) (C := Try.checked) false ⟨#[], #[.int .u64 0, .int .u8 0, .int .i8 0], []⟩ 8 (by kernel_rfl) (by kernel_rfl) (by kernel_rfl) (by kernel_rfl)) ?_
  intro W base args ds gs before hval0 hW hcnd _
  have hval : ∀ (j : Nat) t v, Try.f6.params[j]? = some t → args[j]? = some v → Value.okWide Try.prog W .any base t v := hval0
  have hW' := hW
  obtain ⟨p, q, hA0, hV, rfl, hfz, hnd⟩ := hW
  have hA : DataW.TrodAll enc Try.prog W 0 (fun _ => true) true Try.f6.params.toList args.toList ds p := hA0
  rw [Try.params6] at hA hval
  obtain ⟨v0, vs0, d0, ds0, p0, q0, hargs, rfl, rfl, h0, r0⟩ := trodAll_cons hA
  obtain ⟨v1, vs1, d1, ds1, p1, q1, rfl, rfl, rfl, h1, r1⟩ := trodAll_cons r0
  obtain ⟨v2, vs2, d2, ds2, p2, q2, rfl, rfl, rfl, h2, r2⟩ := trodAll_cons r1
  obtain ⟨rfl, rfl, rfl⟩ := trodAll_nil r2
  obtain rfl : args = #[v0, v1, v2] := by cases args; simp_all
  obtain ⟨rfl, rfl⟩ := trodVars_none hV
  obtain ⟨a0, rfl, rfl, rfl, w0⟩ := open_int Try.underlying22 (hval 0 22 v0 rfl rfl) h0
  obtain ⟨a1, rfl, rfl, rfl, w1⟩ := open_int Try.underlying5 (hval 1 5 v1 rfl rfl) h1
  obtain ⟨a2, rfl, rfl, rfl, w2⟩ := open_int Try.underlying50 (hval 2 50 v2 rfl rfl) h2
  clear hA0 hval0
  refine (drawSome_run a0 a1 a2 W w0 w1 w2).mono fun e W' ⟨he, bel⟩ => ?_
  subst he
  exact ⟨_, rfl, _, _, _, [], _, [], hW', trodAll_mk1 (shut_bool Try.underlying4 _), (trodAll_cons_mk (shut_int Try.underlying22 w0) (trodAll_cons_mk (shut_int Try.underlying5 w1) (trodAll_cons_mk (shut_int Try.underlying50 w2) trodAll_mk0))), rfl, bel.frame _, fun h => by cases h⟩
theorem drawSome_over : Rows.drawSomeRow.holds Try.pinned (OpenSpec.ofChange Rows.drawSomeSpec) :=
  OpenClaim.holds_of_wide 6 Try.f6 rfl rfl rfl rfl rfl rfl rfl ⟨rfl, rfl, rfl, rfl, rfl⟩ rfl rfl rfl rfl rfl (by kernel_rfl) Try.func6 (by kernel_rfl)
    (of_decide_eq_true (by kernel_rfl)) (by unfold Func.isWrapper; first | (rw [if_pos (by decide +kernel)]; kernel_rfl) | (rw [if_neg (by decide +kernel)]; exact ⟨rfl, rfl⟩))
    (fun os started H enc _ => drawSome_lifted os started H enc)
theorem drawSome_holds : Rows.DrawSomeSaid := drawSome_over
#print axioms drawSome_holds
end Go.Proofs.Ythjdchhhiopceaa
