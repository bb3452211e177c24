/- The program's table: Grant. -/
import Derived.Test.YtdehpiaokjihjaaLsSweep
namespace Go.Proofs.Ytdehpiaokjihjaa
open Go.Sort Go.RowKit Go.BigFrame
set_option linter.unusedVariables false
set_option linter.unusedSimpArgs false

theorem isC_node {k : Tb} {id : Int} (h : isC k id = true) : ∃ n : Nat, id = n ∧ 1 ≤ n ∧ n ≤ 32 := by
  unfold isC at h
  rw [Bool.and_eq_true] at h
  have hb := nodeI_iff.1 h.1
  exact ⟨id.toNat, by omega, by omega, by omega⟩
theorem grantE_arg {k : Tb} {id : Int} {ip pt : Nat} {now : Int} (h : nodeI id = false ∨ noneI ip pt = true ∨ 4611686018427387904 < now) : grantE k id ip pt now = 1 ∧ grantU k id ip pt now = 0 ∧ grantD k id ip pt now = k := by
  have e : grantE k id ip pt now = 1 := by unfold grantE; rw [if_pos h]
  exact ⟨e, by unfold grantU; rw [e]; rfl, by unfold grantD; rw [if_pos e]⟩
theorem grantE_no {k : Tb} {id : Int} {ip pt : Nat} {now : Int} (h1 : nodeI id = true) (h2 : noneI ip pt = false) (h3 : ¬ 4611686018427387904 < now) (h : isC (sweepD k now) id = false ∧ k.room ≤ ((allV (sweepD k now).cl).length : Nat)) : grantE k id ip pt now = 4 ∧ grantU k id ip pt now = 0 ∧ grantD k id ip pt now = sweepD k now := by
  have e : grantE k id ip pt now = 4 := by unfold grantE; rw [if_neg (by rw [h1, h2]; simp; omega), if_pos h]
  exact ⟨e, by unfold grantU; rw [e]; rfl, by unfold grantD; rw [e]; rfl⟩
theorem grantE_yes {k : Tb} {id : Int} {ip pt : Nat} {now : Int} (h1 : nodeI id = true) (h2 : noneI ip pt = false) (h3 : ¬ 4611686018427387904 < now) (h : ¬ (isC (sweepD k now) id = false ∧ k.room ≤ ((allV (sweepD k now).cl).length : Nat))) : grantE k id ip pt now = 0 ∧ grantU k id ip pt now = now + k.hold ∧ grantD k id ip pt now = { sweepD k now with cl := upd (sweepD k now).cl id.toNat ⟨id, ip, pt, now + k.hold⟩ } := by
  have e : grantE k id ip pt now = 0 := by unfold grantE; rw [if_neg (by rw [h1, h2]; simp; omega), if_neg h]
  exact ⟨e, by unfold grantU; rw [e]; rfl, by unfold grantD; rw [e]; rfl⟩
/-- behind the sweep: the table, and the address's box -/
structure GS (g : Nat) (s : Tb) (w : World) (b6 : Nat) (vs : List Value) (w' : World) : Prop where
  aft : TAft g s w w'
  box : Cs b6 vs w'
theorem GS.keep {g : Nat} {s : Tb} {w : World} {b6 : Nat} {vs : List Value} {w1 w2 : World} (h : GS g s w b6 vs w1) (hb : Below w1.heap.size w1 w2) : GS g s w b6 vs w2 := ⟨h.aft.then_ hb, h.box.keep hb⟩
def GrPost (g : Nat) (k : Tb) (id : Int) (ip pt : Nat) (now : Int) (w : World) (e : Ending) (w' : World) : Prop := e = .returned (.tuple #[.int .u64 (grantU k id ip pt now), .int .i64 (grantE k id ip pt now)]) ∧ TAft g (grantD k id ip pt now) w w'
set_option maxHeartbeats 6400000 in
set_option maxRecDepth 20000 in
theorem grant_any (id : Int) (ip pt : Nat) (now : Int) (hn : 0 ≤ now) (hip : ip < 4294967296) (hpt : pt < 65536) (g : Nat) (k : Tb) (w : World) (h : Ts g k w) :
    Calls Try.prog 11 #[.pointer (some ⟨g, 0, none⟩), .int .i64 id, .agg #[.int .u32 ip, .int .u16 pt], .int .u64 now] w (GrPost g k id ip pt now w) := by
  have gl := h.lt
  have X : Hid (Cs w.heap.size [.int .u32 ip, .int .u16 pt] (w.alloc (.cells #[.int .u32 ip, .int .u16 pt] 32))) := Cs.new w _ _
  have S0 := Lib.hid (h.same ((Below.refl _ w).alloc (Nat.le_refl _) (.cells #[.int .u32 ip, .int .u16 pt] 32)))
  have XN : Hid (w.heap.size ≠ g) := by show w.heap.size ≠ g; omega
  have GO := grant_ok h.ok id ip pt now hn hip hpt
  have KN := node_any id
  have KA := none_any ip pt hip hpt
  unfold GrPost
  clear h
  have x0 := X.out.cell 0 _ rfl
  have x1 := X.out.cell 1 _ rfl
  have xl := X.out.lt
  cases h1 : nodeI id with
  | false =>
    obtain ⟨e1, e2, e3⟩ := grantE_arg (k := k) (id := id) (ip := ip) (pt := pt) (now := now) (.inl h1)
    rw [e1, e2, e3]
    rw [h1] at KN
    clear e1 e2 e3 h1 GO KA
    go_enter Try.func11, Try.ntmps11
    go_wp2_with fail
    refine (KN _).mono ?_; rintro e w1 ⟨rfl, rfl⟩
    clear KN
    go_wp2
    refine bodyPost_ret (v := (.tuple #[.int .u64 0, .int .i64 1])) (by simp [results, Try.results11, go_sem, *]) rfl ?_
    exact ⟨rfl, S0.out⟩
  | true =>
    rw [h1] at KN
    cases h2 : noneI ip pt with
    | true =>
      obtain ⟨e1, e2, e3⟩ := grantE_arg (k := k) (id := id) (ip := ip) (pt := pt) (now := now) (.inr (.inl h2))
      rw [e1, e2, e3]
      rw [h2] at KA
      clear e1 e2 e3 h1 h2 GO
      go_enter Try.func11, Try.ntmps11
      go_wp2_with fail
      refine (KN _).mono ?_; rintro e w1 ⟨rfl, rfl⟩
      clear KN
      go_wp2_with fail
      refine (KA _).mono ?_; rintro e w2 ⟨rfl, b2⟩
      have F := Lib.hid (S0.out.then_ b2)
      clear KA b2
      go_wp2
      refine bodyPost_ret (v := (.tuple #[.int .u64 0, .int .i64 1])) (by simp [results, Try.results11, go_sem, *]) rfl ?_
      exact ⟨rfl, F.out⟩
    | false =>
      rw [h2] at KA
      by_cases h3 : 4611686018427387904 < now
      · obtain ⟨e1, e2, e3⟩ := grantE_arg (k := k) (id := id) (ip := ip) (pt := pt) (now := now) (.inr (.inr h3))
        rw [e1, e2, e3]
        clear e1 e2 e3 h1 h2 GO
        go_enter Try.func11, Try.ntmps11
        go_wp2_with fail
        refine (KN _).mono ?_; rintro e w1 ⟨rfl, rfl⟩
        clear KN
        go_wp2_with fail
        refine (KA _).mono ?_; rintro e w2 ⟨rfl, b2⟩
        have F := Lib.hid (S0.out.then_ b2)
        clear KA b2
        go_wp2
        refine bodyPost_ret (v := (.tuple #[.int .u64 0, .int .i64 1])) (by simp [results, Try.results11, go_sem, *]) rfl ?_
        exact ⟨rfl, F.out⟩
      · have h3' : decide (4611686018427387904 < now) = false := decide_eq_false h3
        have GN := grantE_no (k := k) h1 h2 h3
        have GY := grantE_yes (k := k) h1 h2 h3
        obtain ⟨n, rfl⟩ : ∃ n : Nat, id = n := ⟨id.toNat, by have := nodeI_iff.1 h1; omega⟩
        have hn0 : (0 : Int) ≤ n := by omega
        have hn1 : (n : Int) < 33 := by have := nodeI_iff.1 h1; omega
        have hn2 : n < 33 := by omega
        have HRM := sweep_room k now
        go_enter Try.func11, Try.ntmps11
        go_wp2_with fail
        refine (KN _).mono ?_; rintro e w1 ⟨rfl, rfl⟩
        clear KN
        go_wp2_with fail
        refine (KA _).mono ?_; rintro e w2 ⟨rfl, b2⟩
        have KS := sweep_any now g k w2 (S0.out.1.keep b2)
        have X2 := Lib.hid (X.out.keep b2)
        have S1 := Lib.hid (S0.out.then_ b2)
        generalize w.heap.size = b6 at XN X2 x0 x1 xl ⊢
        clear KA b2 X x0 x1 xl S0
        go_wp2_with fail
        refine KS.mono ?_; rintro e w3 ⟨u, rfl, -, ta⟩
        have X3 := Lib.hid (X2.out.touch ta.2 XN.out)
        have S3 : Hid (TAft g (sweepD k now) w w3) := ⟨ta.1, S1.out.2.trans ta.2 (fun _ _ h => h)⟩
        clear KS ta X2 S1
        have gl3 := S3.out.1.lt
        generalize hsd : sweepD k now = s at *
        have c0 := S3.out.1.hd 0 _ rfl
        have c1 := S3.out.1.hd 1 _ rfl
        have GS3 : Hid (GS g s w b6 [.int .u32 ip, .int .u16 pt] w3) := ⟨S3.out, X3.out⟩
        have hll := all_len s.cl
        clear hsd S3 X3 c0 c1 gl3
        obtain ⟨full, hfull⟩ : ∃ full, (!isC s n && decide (s.room ≤ ((allV s.cl).length : Nat))) = full := ⟨_, rfl⟩
        go_upto_region 4 with fail
        go_cut [38] (fun c wx => c = .bool full ∧ GS g s w b6 [.int .u32 ip, .int .u16 pt] wx)
        case first =>
          cases hc : isC s n with
          | true =>
            rw [hc] at hfull
            have hfull' : full = false := by rw [← hfull]; rfl
            have C := fun d os => Calls.regrown_of ((isC_any (n : Int) g s (grow (redrawn w3 d) os) (GS3.out.keep (below_regrown w3 d os)).aft.1).mono (R' := fun e w2 => e = .returned (.bool true) ∧ Below (grow (redrawn w3 d) os).heap.size (grow (redrawn w3 d) os) w2) (fun e w2 ⟨h1, h2⟩ => ⟨by rw [h1, hc], by rw [← h2]; exact Below.refl _ _⟩))
            clear hfull GN GY hc
            (refine wp_region_quiet_below (by kernel_rfl) (by kernel_rfl) ?_; (repeat (go_big_quiet_step (first | with_reducible exact C _ _))); refine wpQuiet_nil ?_; intro _ hw'; obtain ⟨⟨dq, osq⟩, hw''⟩ := hw'; subst hw'')
            go_wp2_with fail
            go_meet
            exact ⟨by rw [hfull'], GS3.out.keep (below_regrown w3 dq osq)⟩
          | false =>
            rw [hc] at hfull
            obtain ⟨L, hL⟩ : ∃ L, allV s.cl = L := ⟨_, rfl⟩
            rw [hL] at hfull hll
            have hll2 : (L.length : Int) ≤ 33 := by omega
            have hF : Hid (decide (s.room ≤ (L.length : Int)) = full) := by show _ = _; rw [← hfull]; rfl
            have KC : Hid (∀ wz, GS g s w b6 [.int .u32 ip, .int .u16 pt] wz → Calls Try.prog 20 #[.pointer (some ⟨g, 0, none⟩), .int .i64 n] wz fun e w' => e = .returned (.bool false) ∧ GS g s w b6 [.int .u32 ip, .int .u16 pt] w') := fun wz st => (isC_any (n : Int) g s wz st.aft.1).mono fun e w' ⟨q1, q2⟩ => ⟨by rw [q1, hc], by rw [← q2]; exact st⟩
            have KL : Hid (∀ wz, GS g s w b6 [.int .u32 ip, .int .u16 pt] wz → Calls Try.prog 10 #[.pointer (some ⟨g, 0, none⟩)] wz fun e w' => ∃ u : Sl, e = .returned (.slice u.a L.length u.c) ∧ GS g s w b6 [.int .u32 ip, .int .u16 pt] w') := fun wz st => (clients_any g s wz st.aft.1).mono fun e w' ⟨u, q1, q2, q3⟩ => ⟨u, by rw [q1, q2.2.1, hL], st.keep q3⟩
            have mkS : Hid (∀ w', GS g s w b6 [.int .u32 ip, .int .u16 pt] w' → w'.cell? ⟨g, 0, none⟩ = some (.int .i64 s.room) ∧ True) := fun w' st => ⟨st.aft.1.hd 0 _ rfl, trivial⟩
            have SA := Lib.hid (GS3.out.keep (Below.refl _ _).drew)
            clear hfull GN GY hc hL HRM GS3
            go_region_held (fun w' => w'.cell? ⟨g, 0, none⟩ = some (.int .i64 s.room) ∧ True) (exact mkS.out _ SA.out) (first
              | (go_at_call 20; refine (KC.out _ SA.out).mono ?_; rintro e wA ⟨rfl, sA⟩; have SA := Lib.hid sA; clear sA)
              | (go_at_call 10; refine (KL.out _ SA.out).mono ?_; rintro e wA ⟨uA, rfl, sA⟩; have SA := Lib.hid sA; clear sA)
              | fail)
            all_goals go_wp2_with fail
            all_goals go_meet
            all_goals exact ⟨by rw [← hF.out], SA.out⟩
        case rest =>
          obtain ⟨rfl, hs⟩ := hcut
          generalize wc = w4 at *
          clear GS3
          have HG := Lib.hid hs
          clear hs
          cases full with
          | true =>
            have hq : isC s n = false ∧ k.room ≤ ((allV s.cl).length : Nat) := by
              rw [Bool.and_eq_true, decide_eq_true_eq] at hfull
              rw [← HRM.1]; exact ⟨by simpa using hfull.1, hfull.2⟩
            have E := Lib.hid (GN hq)
            have F := Lib.hid HG.out.aft
            clear GN GY hq hfull HG GO HRM
            go_wp2
            refine bodyPost_ret (v := (.tuple #[.int .u64 0, .int .i64 4])) (by simp [results, Try.results11, go_sem, *]) rfl ?_
            exact ⟨by rw [E.out.1, E.out.2.1], by rw [E.out.2.2]; exact F.out⟩
          | false =>
            have hq : ¬ (isC s n = false ∧ k.room ≤ ((allV s.cl).length : Nat)) := by
              rintro ⟨q1, q2⟩
              rw [← HRM.1] at q2
              rw [q1, decide_eq_true q2] at hfull
              simp at hfull
            have E := Lib.hid (GY hq)
            have hk0 := HG.out.aft.1.ok.h0
            have hk1 := HG.out.aft.1.ok.h1
            rw [E.out.2.2] at GO
            rw [← HRM.2] at GO E
            simp only [Int.toNat_natCast] at GO E
            have F := Lib.hid (HG.out.aft.trans (HG.out.aft.1.put (i := n) hn2 ⟨n, ip, pt, now + s.hold⟩ GO))
            have F2 : Hid (TAft g { s with cl := upd s.cl n ⟨n, ip, pt, now + s.hold⟩ } w (w4.setCells g (2 + n * 4) (cv ⟨n, ip, pt, now + s.hold⟩)).drew) := F.out.then_ (Below.refl _ _).drew
            have p1 := IntWalk.u64_in (now + s.hold) ⟨by omega, by omega⟩
            have c1 := HG.out.aft.1.hd 1 _ rfl
            have v0 := HG.out.aft.1.cl n hn2 0 _ rfl
            have v1 := HG.out.aft.1.cl n hn2 1 _ rfl
            have v2 := HG.out.aft.1.cl n hn2 2 _ rfl
            have v3 := HG.out.aft.1.cl n hn2 3 _ rfl
            have fr := fun o => HG.out.aft.1.free o
            have gl4 := HG.out.aft.1.lt
            have x0 := HG.out.box.cell 0 _ rfl
            have x1 := HG.out.box.cell 1 _ rfl
            have xl := HG.out.box.lt
            have xn := XN.out
            simp only [cv, Nat.add_zero, World.setCells] at F2 v0
            clear GN GY hq hfull HG GO HRM F
            go_wp2_with fail
            go_region
            go_wp2
            refine bodyPost_ret (v := (.tuple #[.int .u64 (now + s.hold), .int .i64 0])) (by simp [results, Try.results11, go_sem, *]) rfl ?_
            exact ⟨by rw [E.out.1, E.out.2.1], by rw [E.out.2.2]; exact F2.out⟩
end Go.Proofs.Ytdehpiaokjihjaa
