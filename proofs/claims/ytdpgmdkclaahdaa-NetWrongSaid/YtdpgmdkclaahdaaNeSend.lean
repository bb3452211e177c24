/- The net's Inject, source, Send. -/
import Derived.Test.YtdpgmdkclaahdaaNeAt
namespace Go.Proofs.Ytdpgmdkclaahdaa.Ne
open Go.Sort Go.RowKit Go.BigFrame
set_option linter.unusedVariables false
set_option linter.unusedSimpArgs false

def cpi (x : Bg.Pi) : Array Value := #[.int .u32 x.fi, .int .u16 x.fp, .int .u32 x.ti, .int .u16 x.tp, .string x.b, .int .u64 x.t]
section
variable {w0 w w' : World} {m : Mem} {H : List Hl} {n n' : Nt}
theorem take_n (now pick : Int) (hp : pick ≤ 9223372036854775807) (s : NN w0 m H n w) :
    Calls Try.prog 29 #[ptr m.u, .int .u64 now, .int .i64 pick] w fun e w' => e = .returned (.tuple #[.agg (cpi (Bg.takeX now pick n.l)), .int .i64 (delE n now pick)]) ∧ NN w0 m H (tkN n now pick) w' :=
  s.bag _ _ _ (fun uv h => Bg.take_any now pick hp m.u n.room uv n.l w h)
theorem bdrop_n (pick : Int) (hp : pick ≤ 9223372036854775807) (s : NN w0 m H n w) :
    Calls Try.prog 31 #[ptr m.u, .int .i64 pick] w fun e w' => e = .returned (.tuple #[.agg (cpi (Bg.takeX 18446744073709551615 pick n.l)), .int .i64 (delE n 18446744073709551615 pick)]) ∧ NN w0 m H (dropP n pick) w' :=
  s.bag _ _ _ (fun uv h => Bg.drop_any pick hp m.u n.room uv n.l w h)
theorem btwice_n (pick : Int) (hp : pick ≤ 9223372036854775807) (s : NN w0 m H n w) :
    Calls Try.prog 36 #[ptr m.u, .int .i64 pick] w fun e w' => e = .returned (.int .i64 (Bg.twiceE n.room pick n.l)) ∧ NN w0 m H (twiceP n pick) w' :=
  s.bag _ _ _ (fun uv h => Bg.twice_any pick hp m.u n.room uv n.l w h)
theorem bdelay_n (pick by_ : Int) (hp : pick ≤ 9223372036854775807) (hb : 0 ≤ by_ ∧ by_ ≤ 18446744073709551615) (s : NN w0 m H n w) :
    Calls Try.prog 35 #[ptr m.u, .int .i64 pick, .int .u64 by_] w fun e w' => e = .returned (.int .i64 (delE n 18446744073709551615 pick)) ∧ NN w0 m H (delayP n pick by_) w' :=
  s.bag _ _ _ (fun uv h => Bg.delay_any pick by_ hp hb m.u n.room uv n.l w h)
theorem put_n (x1 x2 x3 x4 : Int) (x5 : ByteArray) (x6 : Int) (h0 : 0 ≤ x6) (h1 : x6 ≤ 18446744073709551615) (hs : x5.size ≤ 140737488355328) (s : NN w0 m H n w) :
    Calls Try.prog 32 #[ptr m.u, .agg #[.int .u32 x1, .int .u16 x2, .int .u32 x3, .int .u16 x4, .string x5, .int .u64 x6]] w fun e w' => e = .returned (.int .i64 (Bg.putE n.room ⟨x1, x2, x3, x4, x5, x6⟩ n.l)) ∧ NN w0 m H { n with l := Bg.putL n.room ⟨x1, x2, x3, x4, x5, x6⟩ n.l } w' :=
  s.bag _ _ _ (fun uv h => Bg.put_any x1 x2 x3 x4 x5 x6 h0 h1 hs m.u n.room uv n.l w h)
theorem aft0 {g : Nat} {S : Nat → Prop} {x : Nb.Bx} {w w' : World} (h : Nb.Aft 0 no g x S w w') : Nb.Aft 0 no g x S w w' := h
theorem out_n {j q : Nat} {x : Nb.Bx} (now si sp di dp : Int) (hj : m.gs[j]? = some q) (hx : n.bs[j]? = some x) (hb : Nb.badO si sp di dp now = false) (h0 : 0 ≤ now) (s : NN w0 m H n w) :
    Calls Try.prog 40 #[ptr q, .int .u64 now, .agg #[.int .u32 si, .int .u16 sp], .agg #[.int .u32 di, .int .u16 dp]] w fun e w' => e = .returned (.tuple #[.agg #[.int .u32 x.ip, .int .u16 (srcB x now si sp di dp).1], .int .i64 0]) ∧ NN w0 m H (setB n j (srcB x now si sp di dp).2) w' := by
  refine s.box hj _ _ _ (fun y S hy hB => ?_)
  obtain rfl : y = x := by rw [hy] at hx; injection hx
  exact Nb.out1 (Nat.zero_le _) (fun k hk => hk.elim) hB hb h0 rfl rfl
theorem in_n {j q : Nat} {x : Nb.Bx} (now port si sp : Int) (hj : m.gs[j]? = some q) (hx : n.bs[j]? = some x) (h0 : 0 ≤ now) (s : NN w0 m H n w) :
    Calls Try.prog 45 #[ptr q, .int .u64 now, .int .u16 port, .agg #[.int .u32 si, .int .u16 sp]] w fun e w' => e = .returned (.tuple #[.agg #[.int .u32 (inB x now port si sp).1.1, .int .u16 (inB x now port si sp).1.2.1], .int .i64 (inB x now port si sp).1.2.2]) ∧ NN w0 m H (setB n j (inB x now port si sp).2) w' := by
  refine s.box hj _ _ _ (fun y S hy hB => ?_)
  obtain rfl : y = x := by rw [hy] at hx; injection hx
  unfold inB
  by_cases hb : Nb.badI si sp now = true
  · rw [if_pos hb]
    refine (Nb.in_bad q port si sp now w hb).mono ?_
    rintro e w' ⟨rfl, hb⟩
    exact ⟨rfl, S, hB.keep hb, Touch.of_below _ hb, fun k hk => .inl hk⟩
  · rw [if_neg hb]
    exact Nb.in1 hB (by simpa using hb) h0 rfl
theorem reb_n {j q : Nat} {x : Nb.Bx} (ip : Int) (hip : ¬ ip = 0) (hj : m.gs[j]? = some q) (hx : n.bs[j]? = some x) (s : NN w0 m H n w) :
    Calls Try.prog 34 #[ptr q, .int .u32 ip] w fun e w' => e = .returned (.int .i64 0) ∧ NN w0 m H (setB n j ⟨x.m, x.f, ip, x.hold, x.room, []⟩) w' := by
  refine s.box hj _ _ _ (fun y S hy hB => ?_)
  obtain rfl : y = x := by rw [hy] at hx; injection hx
  exact Nb.rebind1 hip hB
end
section
variable {w0 w w' : World} {m : Mem} {H : List Hl} {n n' : Nt}
set_option maxHeartbeats 3200000 in
set_option maxRecDepth 20000 in
theorem inj_n (now fi fp ti tp : Int) (b : ByteArray) (h0 : 0 ≤ now) (hs : b.size ≤ 140737488355328) (s : NN w0 m H n w) :
    Calls Try.prog 14 #[ptr m.g, .int .u64 now, .agg #[.int .u32 fi, .int .u16 fp], .agg #[.int .u32 ti, .int .u16 tp], .string b] w fun e w' => e = .returned (.int .i64 (injP n now fi fp ti tp b).1) ∧ NN w0 m H (injP n now fi fp ti tp b).2 w' := by
  have s1 := s.new [.int .u32 fi, .int .u16 fp] 28
  have s2 := s1.new [.int .u32 ti, .int .u16 tp] 28
  have e1 : (w.alloc (.cells #[.int .u32 fi, .int .u16 fp] 28)).heap.size = w.heap.size + 1 := by simp
  rw [show ([.int .u32 fi, .int .u16 fp] : List Value).toArray = #[.int .u32 fi, .int .u16 fp] from rfl, e1] at s2
  clear s s1 e1
  unfold injP
  by_cases hn : 4611686018427387904 < now
  · rw [if_pos hn]
    have hn' : decide (4611686018427387904 < now) = true := decide_eq_true hn
    have SA := Lib.hid s2
    clear s2
    go_enter Try.func14, Try.ntmps14
    go_wp2
    go_ret
    exact ⟨rfl, SA.out.drop.drop⟩
  · rw [if_neg hn]
    have hn' : decide (4611686018427387904 < now) = false := decide_eq_false hn
    have hn2 : now ≤ 4611686018427387904 := by omega
    have hn3 : now + 1 ≤ 18446744073709551615 := by omega
    have hn4 : 0 ≤ now + 1 := by omega
    have hwr : IntKind.u64.wrap (now + 1) = now + 1 := by rw [IntKind.wrap_u64]; omega
    have KP : Hid (∀ H' w, NN w0 m H' n w → Calls Try.prog 32 #[ptr m.u, .agg #[.int .u32 fi, .int .u16 fp, .int .u32 ti, .int .u16 tp, .string b, .int .u64 (now + 1)]] w fun e w' => e = .returned (.int .i64 (Bg.putE n.room ⟨fi, fp, ti, tp, b, now + 1⟩ n.l)) ∧ NN w0 m H' { n with l := Bg.putL n.room ⟨fi, fp, ti, tp, b, now + 1⟩ n.l } w') := fun H' w s => put_n fi fp ti tp b (now + 1) (by omega) (by omega) hs s
    generalize Bg.putE n.room ⟨fi, fp, ti, tp, b, now + 1⟩ n.l = er at *
    generalize ({ n with l := Bg.putL n.room ⟨fi, fp, ti, tp, b, now + 1⟩ n.l } : Nt) = nn at *
    go_enter Try.func14, Try.ntmps14
    go_upto_region 3 with fail
    generalize ((w.alloc (.cells #[.int .u32 fi, .int .u16 fp] 28)).alloc (.cells #[.int .u32 ti, .int .u16 tp] 28)) = w2 at *
    generalize w.heap.size = g1 at *
    have SA := Lib.hid s2
    clear s2
    have glt := SA.out.glt
    go_region_held (fun w' => w'.cell? ⟨m.g, 2, none⟩ = some (ptr m.u) ∧ m.g < w'.heap.size ∧ w'.cell? ⟨g1, 0, none⟩ = some (.int .u32 fi) ∧ w'.cell? ⟨g1, 1, none⟩ = some (.int .u16 fp) ∧ w'.cell? ⟨g1 + 1, 0, none⟩ = some (.int .u32 ti) ∧ w'.cell? ⟨g1 + 1, 1, none⟩ = some (.int .u16 tp) ∧ True) (exact ⟨SA.out.pu, SA.out.glt, (SA.out.cs (b := g1) (vs := [.int .u32 fi, .int .u16 fp]) (.tail _ (.head _))).cell 0 _ rfl, (SA.out.cs (b := g1) (vs := [.int .u32 fi, .int .u16 fp]) (.tail _ (.head _))).cell 1 _ rfl, (SA.out.cs (b := g1 + 1) (vs := [.int .u32 ti, .int .u16 tp]) (.head _)).cell 0 _ rfl, (SA.out.cs (b := g1 + 1) (vs := [.int .u32 ti, .int .u16 tp]) (.head _)).cell 1 _ rfl, trivial⟩) (first | (go_at_call 32; refine (KP.out _ _ SA.out.drew).mono ?_; rintro e wA ⟨rfl, sA⟩; have SA := Lib.hid sA; clear sA) | fail)
    all_goals go_wp2
    all_goals go_ret
    all_goals exact ⟨rfl, SA.out.drop.drop⟩
end
end Go.Proofs.Ytdpgmdkclaahdaa.Ne
