/- The net's Send. -/
import Derived.Test.YtdpgmdkclaahdaaNeSend
namespace Go.Proofs.Ytdpgmdkclaahdaa.Ne
open Go.Sort Go.RowKit Go.BigFrame
set_option linter.unusedVariables false
set_option linter.unusedSimpArgs false

section
variable {w0 w w' : World} {m : Mem} {H : List Hl} {n n' : Nt}
set_option maxHeartbeats 3200000 in
set_option maxRecDepth 20000 in
theorem src_n (now hi hp hb di dp : Int) (h0 : 0 ≤ now) (hnow : now ≤ 4611686018427387904) (hd : Bg.noneA di dp = false) (ho : Bg.noneA hi hp = false) (hb0 : 0 ≤ hb) (hbl : hb ≤ n.bs.length) (s : NN w0 m H n w) :
    Calls Try.prog 28 #[ptr m.g, .int .u64 now, .agg #[.int .u32 hi, .int .u16 hp, .int .i64 hb], .agg #[.int .u32 di, .int .u16 dp]] w fun e w' => e = .returned (.agg #[.int .u32 (srcP n now ⟨hi, hp, hb⟩ di dp).1.1, .int .u16 (srcP n now ⟨hi, hp, hb⟩ di dp).1.2]) ∧ NN w0 m H (srcP n now ⟨hi, hp, hb⟩ di dp).2 w' := by
  have s1 := s.new [.int .u32 hi, .int .u16 hp, .int .i64 hb] 34
  have s2 := s1.new [.int .u32 di, .int .u16 dp] 28
  have s3 := s2.new [.int .u32 0, .int .u16 0] 28
  have e1 : (w.alloc (.cells #[.int .u32 hi, .int .u16 hp, .int .i64 hb] 34)).heap.size = w.heap.size + 1 := by simp
  have e2 : ((w.alloc (.cells #[.int .u32 hi, .int .u16 hp, .int .i64 hb] 34)).alloc (.cells #[.int .u32 di, .int .u16 dp] 28)).heap.size = w.heap.size + 1 + 1 := by simp
  rw [show ([.int .u32 hi, .int .u16 hp, .int .i64 hb] : List Value).toArray = #[.int .u32 hi, .int .u16 hp, .int .i64 hb] from rfl, show ([.int .u32 di, .int .u16 dp] : List Value).toArray = #[.int .u32 di, .int .u16 dp] from rfl, show ([.int .u32 0, .int .u16 0] : List Value).toArray = #[.int .u32 0, .int .u16 0] from rfl, e1, e2] at s3
  clear s1 s2 e1 e2
  by_cases hz : hb = 0
  · have es : srcP n now ⟨hi, hp, hb⟩ di dp = ((hi, hp), n) := by unfold srcP; rw [if_pos hz]
    rw [es]
    subst hz
    have SA := Lib.hid s3
    clear s s3 es ho hd
    go_enter Try.func28, Try.ntmps28
    go_upto_region 1 with fail
    generalize ((w.alloc (.cells #[.int .u32 hi, .int .u16 hp, .int .i64 0] 34)).alloc (.cells #[.int .u32 di, .int .u16 dp] 28)).alloc (.cells #[.int .u32 0, .int .u16 0] 28) = w3 at *
    generalize w.heap.size = g1 at *
    have c0 := (SA.out.cs (b := g1) (vs := [.int .u32 hi, .int .u16 hp, .int .i64 0]) (.tail _ (.tail _ (.head _)))).cell 0 _ rfl; have c1 := (SA.out.cs (b := g1) (vs := [.int .u32 hi, .int .u16 hp, .int .i64 0]) (.tail _ (.tail _ (.head _)))).cell 1 _ rfl; have c2 := (SA.out.cs (b := g1) (vs := [.int .u32 hi, .int .u16 hp, .int .i64 0]) (.tail _ (.tail _ (.head _)))).cell 2 _ rfl; have cl := (SA.out.cs (b := g1) (vs := [.int .u32 hi, .int .u16 hp, .int .i64 0]) (.tail _ (.tail _ (.head _)))).lt
    have d0 := (SA.out.cs (b := g1 + 1 + 1) (vs := [.int .u32 0, .int .u16 0]) (.head _)).cell 0 _ rfl; have d1 := (SA.out.cs (b := g1 + 1 + 1) (vs := [.int .u32 0, .int .u16 0]) (.head _)).cell 1 _ rfl; have dl := (SA.out.cs (b := g1 + 1 + 1) (vs := [.int .u32 0, .int .u16 0]) (.head _)).lt
    have f0 := (SA.out.cs (b := g1 + 1 + 1) (vs := [.int .u32 0, .int .u16 0]) (.head _)).free 0 _ rfl
    have f1 := (SA.out.cs (b := g1 + 1 + 1) (vs := [.int .u32 0, .int .u16 0]) (.head _)).free 1 _ rfl
    go_wp2
    refine bodyPost_ret (v := .agg #[.int .u32 hi, .int .u16 hp]) (by simp [results, Try.results28, go_sem, *]) rfl ⟨rfl, ?_⟩
    exact ((SA.out.setc [] _ 0 (.int .u32 hi) (by simp)).setc [] _ 1 (.int .u16 hp) (by simp)).drop.drop.drop
  · obtain ⟨j, hj⟩ : ∃ j : Nat, hb = (j : Int) + 1 := ⟨(hb - 1).toNat, by omega⟩
    have hjl : j < n.bs.length := by omega
    have hq : m.gs[j]? = some (m.gs[j]'(by rw [s.lenB]; exact hjl)) := List.getElem?_eq_getElem _
    have hx : n.bs[j]? = some n.bs[j] := List.getElem?_eq_getElem hjl
    have es : srcP n now ⟨hi, hp, hb⟩ di dp = ((n.bs[j].ip, (srcB n.bs[j] now hi hp di dp).1), setB n j (srcB n.bs[j] now hi hp di dp).2) := by
      unfold srcP; rw [if_neg hz]
      have : (hb - 1).toNat = j := by omega
      simp only [this, hx]
    rw [es]
    have hbad : Nb.badO hi hp di dp now = false := by
      unfold Nb.badO
      rw [show Nb.noneI hi hp = false from ho, show Nb.noneI di dp = false from hd]
      simp; omega
    have KB : Hid (∀ H' w, NN w0 m H' n w → Calls Try.prog 19 #[ptr m.g, .int .i64 hb] w fun e w' => e = .returned (ptr (m.gs[j]'(by rw [s.lenB]; exact hjl))) ∧ NN w0 m H' n w') := fun H' w s' => (box_n hb j _ hj hq s').mono fun e w' ⟨h1, h2⟩ => ⟨h1, h2 ▸ s'⟩
    have KO : Hid (∀ H' w, NN w0 m H' n w → _) := fun H' w s' => out_n (n := n) now hi hp di dp hq hx hbad h0 s'
    generalize (m.gs[j]'(by rw [s.lenB]; exact hjl)) = q at *
    generalize n.bs[j] = x at *
    generalize srcB x now hi hp di dp = r at *
    obtain ⟨po, xr⟩ := r
    generalize x.ip = xip at *
    generalize setB n j xr = nn at *
    have SA := Lib.hid s3
    have hb2 : ¬ hb = 0 := hz
    have hb3 : (hb == 0) = false := by rw [beq_eq_false_iff_ne]; exact hz
    clear s s3 es hbad hq hx ho hd hj hjl
    go_enter Try.func28, Try.ntmps28
    go_upto_region 1 with fail
    generalize ((w.alloc (.cells #[.int .u32 hi, .int .u16 hp, .int .i64 hb] 34)).alloc (.cells #[.int .u32 di, .int .u16 dp] 28)).alloc (.cells #[.int .u32 0, .int .u16 0] 28) = w3 at *
    generalize w.heap.size = g1 at *
    have c0 := (SA.out.cs (b := g1) (vs := [.int .u32 hi, .int .u16 hp, .int .i64 hb]) (.tail _ (.tail _ (.head _)))).cell 0 _ rfl; have c1 := (SA.out.cs (b := g1) (vs := [.int .u32 hi, .int .u16 hp, .int .i64 hb]) (.tail _ (.tail _ (.head _)))).cell 1 _ rfl; have c2 := (SA.out.cs (b := g1) (vs := [.int .u32 hi, .int .u16 hp, .int .i64 hb]) (.tail _ (.tail _ (.head _)))).cell 2 _ rfl; have cl := (SA.out.cs (b := g1) (vs := [.int .u32 hi, .int .u16 hp, .int .i64 hb]) (.tail _ (.tail _ (.head _)))).lt
    go_upto_region 3 with fail
    clear c0 c1 c2 cl
    go_cut [9] (fun v9 wx => ∃ g9 : Nat, v9 = .pointer (some ⟨g9, 0, none⟩) ∧ NN w0 m (hC g9 [.int .u32 xip, .int .u16 po] :: hC (g1 + 1 + 1) [.int .u32 0, .int .u16 0] :: hC (g1 + 1) [.int .u32 di, .int .u16 dp] :: hC g1 [.int .u32 hi, .int .u16 hp, .int .i64 hb] :: H) nn wx)
    case first =>
      have mk0 : Hid (∀ nx w', NN w0 m (hC (g1 + 1 + 1) [.int .u32 0, .int .u16 0] :: hC (g1 + 1) [.int .u32 di, .int .u16 dp] :: hC g1 [.int .u32 hi, .int .u16 hp, .int .i64 hb] :: H) nx w' → w'.cell? ⟨g1, 0, none⟩ = some (.int .u32 hi) ∧ w'.cell? ⟨g1, 1, none⟩ = some (.int .u16 hp) ∧ w'.cell? ⟨g1, 2, none⟩ = some (.int .i64 hb) ∧ w'.cell? ⟨g1 + 1, 0, none⟩ = some (.int .u32 di) ∧ w'.cell? ⟨g1 + 1, 1, none⟩ = some (.int .u16 dp) ∧ g1 + 1 < w'.heap.size ∧ True) := fun nx w' s =>
        ⟨(s.cs (b := g1) (vs := [.int .u32 hi, .int .u16 hp, .int .i64 hb]) (by simp)).cell 0 _ rfl, (s.cs (b := g1) (vs := [.int .u32 hi, .int .u16 hp, .int .i64 hb]) (by simp)).cell 1 _ rfl, (s.cs (b := g1) (vs := [.int .u32 hi, .int .u16 hp, .int .i64 hb]) (by simp)).cell 2 _ rfl, (s.cs (b := g1 + 1) (vs := [.int .u32 di, .int .u16 dp]) (by simp)).cell 0 _ rfl, (s.cs (b := g1 + 1) (vs := [.int .u32 di, .int .u16 dp]) (by simp)).cell 1 _ rfl, (s.cs (b := g1 + 1) (vs := [.int .u32 di, .int .u16 dp]) (by simp)).lt, trivial⟩
      have mk1 : Hid (∀ k nx w', NN w0 m (k :: hC (g1 + 1 + 1) [.int .u32 0, .int .u16 0] :: hC (g1 + 1) [.int .u32 di, .int .u16 dp] :: hC g1 [.int .u32 hi, .int .u16 hp, .int .i64 hb] :: H) nx w' → w'.cell? ⟨g1, 0, none⟩ = some (.int .u32 hi) ∧ w'.cell? ⟨g1, 1, none⟩ = some (.int .u16 hp) ∧ w'.cell? ⟨g1, 2, none⟩ = some (.int .i64 hb) ∧ w'.cell? ⟨g1 + 1, 0, none⟩ = some (.int .u32 di) ∧ w'.cell? ⟨g1 + 1, 1, none⟩ = some (.int .u16 dp) ∧ g1 + 1 < w'.heap.size ∧ True) := fun k nx w' s => mk0.out nx w' s.drop
      have glt := SA.out.glt
      (go_region_held (fun w' => w'.cell? ⟨g1, 0, none⟩ = some (.int .u32 hi) ∧ w'.cell? ⟨g1, 1, none⟩ = some (.int .u16 hp) ∧ w'.cell? ⟨g1, 2, none⟩ = some (.int .i64 hb) ∧ w'.cell? ⟨g1 + 1, 0, none⟩ = some (.int .u32 di) ∧ w'.cell? ⟨g1 + 1, 1, none⟩ = some (.int .u16 dp) ∧ g1 + 1 < w'.heap.size ∧ True) (first | exact mk0.out _ _ SA.out | exact mk0.out _ _ SA.out.drew | exact mk1.out _ _ _ SA.out | exact mk1.out _ _ _ SA.out.drew | exact mk1.out _ _ _ (SA.out.new [.int .u32 0, .int .u16 0] 28).drew | exact mk1.out _ _ _ (SA.out.new [.int .u32 0, .int .u16 0] 28) | exact mk1.out _ _ _ (SA.out.new [.int .u32 xip, .int .u16 po] 28) | exact mk1.out _ _ _ ((SA.out.setc [] _ 0 (.int .u32 xip) (by simp)).setc [] _ 1 (.int .u16 po) (by simp))) (first | (go_at_call 19; first | (refine (KB.out _ _ (SA.out.new [.int .u32 0, .int .u16 0] 28).drew).mono ?_; rintro e wA ⟨rfl, sA⟩; have SA := Lib.hid sA; clear sA; (try (have y0 := (SA.out.cs (vs := [.int .u32 0, .int .u16 0]) (.head _)).cell 0 _ rfl; have z0 := (SA.out.cs (vs := [.int .u32 0, .int .u16 0]) (.head _)).free 0 _ rfl; have y1 := (SA.out.cs (vs := [.int .u32 0, .int .u16 0]) (.head _)).cell 1 _ rfl; have z1 := (SA.out.cs (vs := [.int .u32 0, .int .u16 0]) (.head _)).free 1 _ rfl; have yl := (SA.out.cs (vs := [.int .u32 0, .int .u16 0]) (.head _)).lt))) | (refine (KB.out _ _ (SA.out.new [.int .u32 0, .int .u16 0] 28)).mono ?_; rintro e wA ⟨rfl, sA⟩; have SA := Lib.hid sA; clear sA; (try (have y0 := (SA.out.cs (vs := [.int .u32 0, .int .u16 0]) (.head _)).cell 0 _ rfl; have z0 := (SA.out.cs (vs := [.int .u32 0, .int .u16 0]) (.head _)).free 0 _ rfl; have y1 := (SA.out.cs (vs := [.int .u32 0, .int .u16 0]) (.head _)).cell 1 _ rfl; have z1 := (SA.out.cs (vs := [.int .u32 0, .int .u16 0]) (.head _)).free 1 _ rfl; have yl := (SA.out.cs (vs := [.int .u32 0, .int .u16 0]) (.head _)).lt))) | (refine (KB.out _ _ SA.out.drew).mono ?_; rintro e wA ⟨rfl, sA⟩; have SA := Lib.hid sA; clear sA; (try (have y0 := (SA.out.cs (vs := [.int .u32 0, .int .u16 0]) (.head _)).cell 0 _ rfl; have z0 := (SA.out.cs (vs := [.int .u32 0, .int .u16 0]) (.head _)).free 0 _ rfl; have y1 := (SA.out.cs (vs := [.int .u32 0, .int .u16 0]) (.head _)).cell 1 _ rfl; have z1 := (SA.out.cs (vs := [.int .u32 0, .int .u16 0]) (.head _)).free 1 _ rfl; have yl := (SA.out.cs (vs := [.int .u32 0, .int .u16 0]) (.head _)).lt))) | (refine (KB.out _ _ SA.out).mono ?_; rintro e wA ⟨rfl, sA⟩; have SA := Lib.hid sA; clear sA; (try (have y0 := (SA.out.cs (vs := [.int .u32 0, .int .u16 0]) (.head _)).cell 0 _ rfl; have z0 := (SA.out.cs (vs := [.int .u32 0, .int .u16 0]) (.head _)).free 0 _ rfl; have y1 := (SA.out.cs (vs := [.int .u32 0, .int .u16 0]) (.head _)).cell 1 _ rfl; have z1 := (SA.out.cs (vs := [.int .u32 0, .int .u16 0]) (.head _)).free 1 _ rfl; have yl := (SA.out.cs (vs := [.int .u32 0, .int .u16 0]) (.head _)).lt)))) | (go_at_call 40; first | (refine (KO.out _ _ (SA.out.new [.int .u32 0, .int .u16 0] 28).drew).mono ?_; rintro e wA ⟨rfl, sA⟩; have SA := Lib.hid sA; clear sA; (try (have y0 := (SA.out.cs (vs := [.int .u32 0, .int .u16 0]) (.head _)).cell 0 _ rfl; have z0 := (SA.out.cs (vs := [.int .u32 0, .int .u16 0]) (.head _)).free 0 _ rfl; have y1 := (SA.out.cs (vs := [.int .u32 0, .int .u16 0]) (.head _)).cell 1 _ rfl; have z1 := (SA.out.cs (vs := [.int .u32 0, .int .u16 0]) (.head _)).free 1 _ rfl; have yl := (SA.out.cs (vs := [.int .u32 0, .int .u16 0]) (.head _)).lt))) | (refine (KO.out _ _ (SA.out.new [.int .u32 0, .int .u16 0] 28)).mono ?_; rintro e wA ⟨rfl, sA⟩; have SA := Lib.hid sA; clear sA; (try (have y0 := (SA.out.cs (vs := [.int .u32 0, .int .u16 0]) (.head _)).cell 0 _ rfl; have z0 := (SA.out.cs (vs := [.int .u32 0, .int .u16 0]) (.head _)).free 0 _ rfl; have y1 := (SA.out.cs (vs := [.int .u32 0, .int .u16 0]) (.head _)).cell 1 _ rfl; have z1 := (SA.out.cs (vs := [.int .u32 0, .int .u16 0]) (.head _)).free 1 _ rfl; have yl := (SA.out.cs (vs := [.int .u32 0, .int .u16 0]) (.head _)).lt))) | (refine (KO.out _ _ SA.out.drew).mono ?_; rintro e wA ⟨rfl, sA⟩; have SA := Lib.hid sA; clear sA; (try (have y0 := (SA.out.cs (vs := [.int .u32 0, .int .u16 0]) (.head _)).cell 0 _ rfl; have z0 := (SA.out.cs (vs := [.int .u32 0, .int .u16 0]) (.head _)).free 0 _ rfl; have y1 := (SA.out.cs (vs := [.int .u32 0, .int .u16 0]) (.head _)).cell 1 _ rfl; have z1 := (SA.out.cs (vs := [.int .u32 0, .int .u16 0]) (.head _)).free 1 _ rfl; have yl := (SA.out.cs (vs := [.int .u32 0, .int .u16 0]) (.head _)).lt))) | (refine (KO.out _ _ SA.out).mono ?_; rintro e wA ⟨rfl, sA⟩; have SA := Lib.hid sA; clear sA; (try (have y0 := (SA.out.cs (vs := [.int .u32 0, .int .u16 0]) (.head _)).cell 0 _ rfl; have z0 := (SA.out.cs (vs := [.int .u32 0, .int .u16 0]) (.head _)).free 0 _ rfl; have y1 := (SA.out.cs (vs := [.int .u32 0, .int .u16 0]) (.head _)).cell 1 _ rfl; have z1 := (SA.out.cs (vs := [.int .u32 0, .int .u16 0]) (.head _)).free 1 _ rfl; have yl := (SA.out.cs (vs := [.int .u32 0, .int .u16 0]) (.head _)).lt)))) | fail); all_goals go_wp2_with fail; all_goals go_meet; all_goals first | exact ⟨_, rfl, (SA.out.new [.int .u32 xip, .int .u16 po] 28)⟩ | exact ⟨_, rfl, ((SA.out.setc [] _ 0 (.int .u32 xip) (by simp)).setc [] _ 1 (.int .u16 po) (by simp))⟩)
    case rest =>
      obtain ⟨g9, rfl, s⟩ := hcut
      clear SA KB KO
      have SA := Lib.hid s
      clear s
      generalize wc = w4 at *
      have c0 := (SA.out.cs (b := g9) (vs := [.int .u32 xip, .int .u16 po]) (.head _)).cell 0 _ rfl; have c1 := (SA.out.cs (b := g9) (vs := [.int .u32 xip, .int .u16 po]) (.head _)).cell 1 _ rfl; have cl := (SA.out.cs (b := g9) (vs := [.int .u32 xip, .int .u16 po]) (.head _)).lt
      have d0 := (SA.out.cs (b := g1 + 1 + 1) (vs := [.int .u32 0, .int .u16 0]) (.tail _ (.head _))).cell 0 _ rfl; have d1 := (SA.out.cs (b := g1 + 1 + 1) (vs := [.int .u32 0, .int .u16 0]) (.tail _ (.head _))).cell 1 _ rfl; have dl := (SA.out.cs (b := g1 + 1 + 1) (vs := [.int .u32 0, .int .u16 0]) (.tail _ (.head _))).lt
      have f0 := (SA.out.cs (b := g1 + 1 + 1) (vs := [.int .u32 0, .int .u16 0]) (.tail _ (.head _))).free 0 _ rfl
      have f1 := (SA.out.cs (b := g1 + 1 + 1) (vs := [.int .u32 0, .int .u16 0]) (.tail _ (.head _))).free 1 _ rfl
      go_wp2
      refine bodyPost_ret (v := .agg #[.int .u32 xip, .int .u16 po]) (by simp [results, Try.results28, go_sem, *]) rfl ⟨rfl, ?_⟩
      exact ((SA.out.drop.setc [] _ 0 (.int .u32 xip) (by simp)).setc [] _ 1 (.int .u16 po) (by simp)).drop.drop.drop
end
section
variable {w0 w w' : World} {m : Mem} {H : List Hl} {n n' : Nt}
theorem NN.host (s : NN w0 m H n w) {b off : Nat} (ha : m.hv.a = some ⟨b, off, none⟩) {j : Nat} {x : Ho} (hx : n.hs[j]? = some x) : b < w.heap.size ∧ ∀ k v, (cho x)[k]? = some v → w.cell? ⟨b, off + j * 3 + k, none⟩ = some v := by
  obtain ⟨b', off', h1, h2, h3⟩ := s.cells.2.1 (by have := (List.getElem?_eq_some_iff.1 hx).1; omega)
  rw [ha] at h1
  injection h1 with h1
  injection h1 with e1 e2
  subst e1; subst e2
  exact ⟨h2, fun k v hv => h3 j x hx k v hv⟩
theorem srcP_hs (now : Int) (h : Ho) (di dp : Int) : (srcP n now h di dp).2.hs = n.hs := by
  unfold srcP
  split
  · rfl
  · split <;> rfl
theorem injP_hs (now a b c d : Int) (t : ByteArray) : (injP n now a b c d t).2.hs = n.hs := by
  unfold injP
  split <;> rfl
set_option maxHeartbeats 3200000 in
set_option maxRecDepth 20000 in
theorem send_n (now host ti tp : Int) (b : ByteArray) (h0 : 0 ≤ now) (hs : b.size ≤ 140737488355328) (hok : OkH n) (s : NN w0 m H n w) :
    Calls Try.prog 11 #[ptr m.g, .int .u64 now, .int .i64 host, .agg #[.int .u32 ti, .int .u16 tp], .string b] w fun e w' => e = .returned (.int .i64 (sendP n now host ti tp b).1) ∧ NN w0 m H (sendP n now host ti tp b).2 w' := by
  have hsl := s.ok.hl
  have s1 := s.new [.int .u32 ti, .int .u16 tp] 28
  rw [show ([.int .u32 ti, .int .u16 tp] : List Value).toArray = #[.int .u32 ti, .int .u16 tp] from rfl] at s1
  have K1 := fun w => Nb.none_any ti tp w
  clear s
  by_cases hb : host < 1 ∨ (n.hs.length : Int) < host
  · have es : sendP n now host ti tp b = (1, n) := by
      unfold sendP
      rw [if_pos]
      rcases hb with h | h
      · simp [h]
      · simp [h]
    rw [es]
    have SA := Lib.hid s1
    have x0 := s1.ph
    have gl := s1.glt
    clear s1 es K1
    generalize n.hs.length = hl at *
    by_cases h1 : host < 1
    · have h1' : decide (host < 1) = true := decide_eq_true h1
      go_enter Try.func11, Try.ntmps11
      go_wp2
      go_ret
      exact ⟨rfl, SA.out.drop⟩
    · have h1' : decide (host < 1) = false := decide_eq_false h1
      have h2' : decide ((hl : Int) < host) = true := decide_eq_true (by omega)
      go_enter Try.func11, Try.ntmps11
      go_wp2
      go_ret
      exact ⟨rfl, SA.out.drop⟩
  · have h1 : decide (host < 1) = false := decide_eq_false (by omega)
    have h2 : decide ((n.hs.length : Int) < host) = false := decide_eq_false (by omega)
    obtain ⟨j, hj⟩ : ∃ j : Nat, host = (j : Int) + 1 := ⟨(host - 1).toNat, by omega⟩
    have hjl : j < n.hs.length := by omega
    by_cases hd : Bg.noneA ti tp = true
    · have es : sendP n now host ti tp b = (1, n) := by
        unfold sendP; rw [if_pos]; rw [hd]; simp
      rw [es]
      rw [show Nb.noneI ti tp = true from hd] at K1
      have x0 := s1.ph
      have gl := s1.glt
      have c0 := (s1.cs (b := w.heap.size) (vs := [.int .u32 ti, .int .u16 tp]) (.head _)).cell 0 _ rfl
      have c1 := (s1.cs (b := w.heap.size) (vs := [.int .u32 ti, .int .u16 tp]) (.head _)).cell 1 _ rfl
      have SA := Lib.hid s1
      clear s1 es hj hjl
      generalize n.hs.length = hl at *
      go_enter Try.func11, Try.ntmps11
      go_wp2_with fail
      refine (K1 _).mono ?_; rintro e w1 ⟨rfl, b1⟩
      have SB := Lib.hid (SA.out.keep b1)
      clear SA x0 c0 c1
      go_wp2
      go_ret
      exact ⟨rfl, SB.out.drop⟩
    · have hd : Bg.noneA ti tp = false := by simpa using hd
      rw [show Nb.noneI ti tp = false from hd] at K1
      by_cases hn : 4611686018427387904 < now
      · have hn' : decide (4611686018427387904 < now) = true := decide_eq_true hn
        have es : sendP n now host ti tp b = (1, n) := by
          unfold sendP; rw [if_pos]; rw [hn']; simp
        rw [es]
        have x0 := s1.ph
        have gl := s1.glt
        have c0 := (s1.cs (b := w.heap.size) (vs := [.int .u32 ti, .int .u16 tp]) (.head _)).cell 0 _ rfl
        have c1 := (s1.cs (b := w.heap.size) (vs := [.int .u32 ti, .int .u16 tp]) (.head _)).cell 1 _ rfl
        have SA := Lib.hid s1
        clear s1 es hj hjl
        generalize n.hs.length = hl at *
        go_enter Try.func11, Try.ntmps11
        go_wp2_with fail
        refine (K1 _).mono ?_; rintro e w1 ⟨rfl, b1⟩
        have SB := Lib.hid (SA.out.keep b1)
        clear SA x0 c0 c1
        go_wp2
        go_ret
        exact ⟨rfl, SB.out.drop⟩
      · have hn' : decide (4611686018427387904 < now) = false := decide_eq_false hn
        have hx : n.hs[j]? = some n.hs[j] := List.getElem?_eq_getElem hjl
        have hoh := hok n.hs[j] (List.getElem_mem hjl)
        have es : sendP n now host ti tp b = injP (srcP n now n.hs[j] ti tp).2 now (srcP n now n.hs[j] ti tp).1.1 (srcP n now n.hs[j] ti tp).1.2 ti tp b := by
          unfold sendP; rw [if_neg (by rw [h1, h2, hd, hn']; simp)]
          have : (host - 1).toNat = j := by omega
          simp only [this, hx]
        rw [es]
        obtain ⟨bh, off, ha, -, -⟩ := s1.cells.2.1 (by omega)
        have mk : Hid (∀ nx w', nx.hs = n.hs → NN w0 m (hC w.heap.size [.int .u32 ti, .int .u16 tp] :: H) nx w' → w'.cell? ⟨m.g, 0, none⟩ = some (.slice (some ⟨bh, off, none⟩) n.hs.length m.hv.c) ∧ m.g < w'.heap.size ∧ w'.cell? ⟨bh, off + j * 3, none⟩ = some (.int .u32 n.hs[j].i) ∧ w'.cell? ⟨bh, off + j * 3 + 1, none⟩ = some (.int .u16 n.hs[j].p) ∧ w'.cell? ⟨bh, off + j * 3 + 2, none⟩ = some (.int .i64 n.hs[j].b) ∧ w'.cell? ⟨w.heap.size, 0, none⟩ = some (.int .u32 ti) ∧ w'.cell? ⟨w.heap.size, 1, none⟩ = some (.int .u16 tp) ∧ bh < w'.heap.size ∧ True) := fun nx w' he s =>
          ⟨by rw [s.ph, he, ha], s.glt, (s.host ha (by rw [he]; exact hx)).2 0 _ rfl, (s.host ha (by rw [he]; exact hx)).2 1 _ rfl, (s.host ha (by rw [he]; exact hx)).2 2 _ rfl, (s.cs (b := w.heap.size) (vs := [.int .u32 ti, .int .u16 tp]) (.head _)).cell 0 _ rfl, (s.cs (b := w.heap.size) (vs := [.int .u32 ti, .int .u16 tp]) (.head _)).cell 1 _ rfl, (s.host ha (by rw [he]; exact hx)).1, trivial⟩
        have e1 := Lib.hid (srcP_hs (n := n) now n.hs[j] ti tp)
        have KS : Hid (∀ H' w, NN w0 m H' n w → _) := fun H' w s => src_n now n.hs[j].i n.hs[j].p n.hs[j].b ti tp h0 (by omega) hd hoh.1 hoh.2.1 hoh.2.2 s
        have KI : Hid (∀ H' w, NN w0 m H' (srcP n now n.hs[j] ti tp).2 w → _) := fun H' w s => inj_n now (srcP n now n.hs[j] ti tp).1.1 (srcP n now n.hs[j] ti tp).1.2 ti tp b h0 hs s
        have hjc : (j : Int) + 1 - 1 = (j : Int) := by omega
        have hj2 : (j : Int) < (n.hs.length : Int) := by omega
        have hj3 : (0 : Int) ≤ (j : Int) := by omega
        have hjw : IntKind.i64.wrap (j : Int) = (j : Int) := by rw [IntKind.wrap_i64]; omega
        subst hj
        have mk0 : Hid (∀ w', NN w0 m (hC w.heap.size [.int .u32 ti, .int .u16 tp] :: H) n w' → _) := fun w' s => mk.out n w' rfl s
        have mk1 : Hid (∀ w', NN w0 m (hC w.heap.size [.int .u32 ti, .int .u16 tp] :: H) (srcP n now n.hs[j] ti tp).2 w' → _) := fun w' s => mk.out _ w' e1.out s
        have mk2 : Hid (∀ w', NN w0 m (hC w.heap.size [.int .u32 ti, .int .u16 tp] :: H) (injP (srcP n now n.hs[j] ti tp).2 now (srcP n now n.hs[j] ti tp).1.1 (srcP n now n.hs[j] ti tp).1.2 ti tp b).2 w' → _) := fun w' s => mk.out _ w' ((injP_hs _ _ _ _ _ _).trans e1.out) s
        generalize n.hs[j] = x at *
        obtain ⟨xi, xp, xb⟩ := x
        simp only at mk0 mk1 mk2 KS KI
        generalize srcP n now ⟨xi, xp, xb⟩ ti tp = r at *
        obtain ⟨⟨fi, fp⟩, n1⟩ := r
        simp only at mk0 mk1 mk2 KS KI ⊢
        generalize injP n1 now fi fp ti tp b = r2 at *
        obtain ⟨er, n2⟩ := r2
        simp only at mk2 KI ⊢
        have x0 := s1.ph
        have gl := s1.glt
        have c0 := (s1.cs (b := w.heap.size) (vs := [.int .u32 ti, .int .u16 tp]) (.head _)).cell 0 _ rfl
        have c1 := (s1.cs (b := w.heap.size) (vs := [.int .u32 ti, .int .u16 tp]) (.head _)).cell 1 _ rfl
        rw [ha] at x0
        have SA := Lib.hid s1
        clear s1 es hok hoh mk e1 hx hd hb ha
        generalize n.hs.length = hl at *
        go_enter Try.func11, Try.ntmps11
        go_wp2_with fail
        refine (K1 _).mono ?_; rintro e w1 ⟨rfl, b1⟩
        have SB := Lib.hid (SA.out.keep b1)
        clear SA x0 c0 c1 K1 gl b1
        have SA := SB
        clear SB
        generalize w.heap.size = g1 at *
        go_upto_region 3 with fail
        go_region_held (fun w' => w'.cell? ⟨m.g, 0, none⟩ = some (.slice (some ⟨bh, off, none⟩) hl m.hv.c) ∧ m.g < w'.heap.size ∧ w'.cell? ⟨bh, off + j * 3, none⟩ = some (.int .u32 xi) ∧ w'.cell? ⟨bh, off + j * 3 + 1, none⟩ = some (.int .u16 xp) ∧ w'.cell? ⟨bh, off + j * 3 + 2, none⟩ = some (.int .i64 xb) ∧ w'.cell? ⟨g1, 0, none⟩ = some (.int .u32 ti) ∧ w'.cell? ⟨g1, 1, none⟩ = some (.int .u16 tp) ∧ bh < w'.heap.size ∧ True) (first | exact mk0.out _ SA.out | exact mk1.out _ SA.out | exact mk0.out _ SA.out.drew | exact mk1.out _ SA.out.drew | exact mk2.out _ SA.out) (first | (go_at_call 28; first | (refine (KS.out _ _ SA.out.drew).mono ?_; rintro e wA ⟨rfl, sA⟩; have SA := Lib.hid sA; clear sA) | (refine (KS.out _ _ SA.out).mono ?_; rintro e wA ⟨rfl, sA⟩; have SA := Lib.hid sA; clear sA)) | (go_at_call 14; first | (refine (KI.out _ _ SA.out).mono ?_; rintro e wA ⟨rfl, sA⟩; have SA := Lib.hid sA; clear sA) | (refine (KI.out _ _ SA.out.drew).mono ?_; rintro e wA ⟨rfl, sA⟩; have SA := Lib.hid sA; clear sA)) | fail)
        all_goals go_wp2
        all_goals go_ret
        all_goals exact ⟨rfl, SA.out.drop⟩
end
end Go.Proofs.Ytdpgmdkclaahdaa.Ne
