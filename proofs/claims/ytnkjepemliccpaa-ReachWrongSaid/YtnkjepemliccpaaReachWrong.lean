/- ReachWrong: rounds too many, or none, and a time that may not be, make none; a round is not begun too late: for all numbers. -/
import Derived.Test.YtnkjepemliccpaaRcEx
import Derived.Deep.DeepCutAuto
import Derived.ChangeOld
import Derived.ChangeMaps5
import Derived.ShutString
import Derived.OpenShut
import Derived.SizedLaws
namespace Go.Proofs.Ytnkjepemliccpaa
open Go.Sort Go.RowKit Go.BigFrame Go.ChangeShapes Go.WideShapes Go.Deep
set_option linter.unusedVariables false
set_option linter.unusedSimpArgs false

theorem argN_yes {r h : Int} (c : r < 1 ∨ 8 < r ∨ h = 0 ∨ 1000000 < h) : argN r h = true := by
  cases e : argN r h with
  | true => rfl
  | false =>
    have := argN_no e
    omega
theorem argN_good {r h : Int} (h1 : 1 ≤ r) (h2 : r ≤ 8) (h3 : 1 ≤ h) (h4 : h ≤ 1000000) : argN r h = false := by
  unfold argN
  rw [decide_eq_false (by omega), decide_eq_false (by omega), beq_eq_false_iff_ne.2 (by omega), decide_eq_false (by omega)]; rfl
theorem roundE_late {k : Rc} {now : Int} (h : 4611686018427387904 < now) : roundE k now = 1 := by unfold roundE; rw [if_pos h]
set_option maxHeartbeats 3200000 in
set_option maxRecDepth 20000 in
theorem wrong_a0 (r h now seq : Int) (h0 : 0 ≤ h) (c1 : r < 1) (hn : now ≤ 4611686018427387904) (w : World) :
    Calls Try.prog 8 #[.int .i64 r, .int .u64 h, .int .u64 now, .int .u32 seq] w fun e w' => e = .returned (.bool true) ∧ Below w.heap.size w w' := by
  have E := ex_any w
  have dc1 : decide (r < 1) = true := decide_eq_true c1
  have ec1 : decide (1 ≤ r) = false := decide_eq_false (by omega)
  have dn : decide (now ≤ 4611686018427387904) = true := decide_eq_true hn
  have HA : Hid (argN r h = true) := argN_yes (by omega)
  go_enter Try.func8, Try.ntmps8
  go_wp2_with fail
  refine E.mono ?_; rintro e w0 ⟨rfl, b0⟩
  have K := new_bad r h HA.out w0
  go_wp2_with fail
  refine K.mono ?_; rintro e w1 ⟨rfl, rfl⟩
  have s := St.start w w0 b0
  clear E b0 K
  have K := new_l (r := 3) (h := 9) (by decide) (by decide) (n := 3) rfl s
  clear s
  go_wp2_with fail
  refine K.mono ?_; rintro e w2 ⟨g, rfl, s⟩
  clear K
  have K := round_l (e := 0) (k' := { newR 3 9 with on := true, seq := seq, got := false }) seq now (roundD_yes (seq := seq) hn rfl).1 (roundD_yes hn rfl).2 [] _ s
  clear s
  go_wp2_with fail
  refine K.mono ?_; rintro e w3 ⟨rfl, s⟩
  clear K
  have HQ : heardB { newR 3 9 with on := true, seq := seq, got := false } seq = true := by unfold heardB; simp
  have K := heard_l (b := true) (k' := { newR 3 9 with on := true, seq := seq, got := true }) seq HQ (heardD_yes HQ) [] _ s
  clear HQ
  clear s
  go_upto_region 10 with fail
  try dsimp only [List.append]
  go_wp2_with fail
  refine K.mono ?_; rintro e w4 ⟨rfl, s⟩
  clear K
  have K := end_l (b := true) rfl rfl [] _ s
  clear s
  go_wp2_with fail
  refine K.mono ?_; rintro e w5 ⟨rfl, s⟩
  have F := Lib.hid s.below
  clear K s
  go_wp2
  go_ret
  exact ⟨rfl, F.out⟩
set_option maxHeartbeats 3200000 in
set_option maxRecDepth 20000 in
theorem wrong_a1 (r h now seq : Int) (h0 : 0 ≤ h) (c1 : r < 1) (hn : 4611686018427387904 < now) (w : World) :
    Calls Try.prog 8 #[.int .i64 r, .int .u64 h, .int .u64 now, .int .u32 seq] w fun e w' => e = .returned (.bool true) ∧ Below w.heap.size w w' := by
  have E := ex_any w
  have dc1 : decide (r < 1) = true := decide_eq_true c1
  have ec1 : decide (1 ≤ r) = false := decide_eq_false (by omega)
  have dn : decide (now ≤ 4611686018427387904) = false := decide_eq_false (by omega)
  have HA : Hid (argN r h = true) := argN_yes (by omega)
  go_enter Try.func8, Try.ntmps8
  go_wp2_with fail
  refine E.mono ?_; rintro e w0 ⟨rfl, b0⟩
  have K := new_bad r h HA.out w0
  go_wp2_with fail
  refine K.mono ?_; rintro e w1 ⟨rfl, rfl⟩
  have s := St.start w w0 b0
  clear E b0 K
  have K := new_l (r := 3) (h := 9) (by decide) (by decide) (n := 3) rfl s
  clear s
  go_wp2_with fail
  refine K.mono ?_; rintro e w2 ⟨g, rfl, s⟩
  clear K
  have K := round_l (e := 1) (k' := newR 3 9) seq now (roundE_late hn) (roundD_no (by rw [roundE_late hn]; decide)) [] _ s
  clear s
  go_wp2_with fail
  refine K.mono ?_; rintro e w3 ⟨rfl, s⟩
  clear K
  have K := heard_l (b := false) (k' := newR 3 9) seq rfl (heardD_no rfl) [] _ s
  clear s
  go_upto_region 10 with fail
  try dsimp only [List.append]
  go_wp2_with fail
  refine K.mono ?_; rintro e w4 ⟨rfl, s⟩
  clear K
  have K := end_l (b := false) (k' := newR 3 9) rfl (endD_no rfl) [] _ s
  clear s
  go_wp2_with fail
  refine K.mono ?_; rintro e w5 ⟨rfl, s⟩
  have F := Lib.hid s.below
  clear K s
  go_wp2
  go_ret
  exact ⟨rfl, F.out⟩
set_option maxHeartbeats 3200000 in
set_option maxRecDepth 20000 in
theorem wrong_b0 (r h now seq : Int) (h0 : 0 ≤ h) (g1 : 1 ≤ r) (c2 : 8 < r) (hn : now ≤ 4611686018427387904) (w : World) :
    Calls Try.prog 8 #[.int .i64 r, .int .u64 h, .int .u64 now, .int .u32 seq] w fun e w' => e = .returned (.bool true) ∧ Below w.heap.size w w' := by
  have E := ex_any w
  have dg1 : decide (1 ≤ r) = true := decide_eq_true g1
  have dc2 : decide (8 < r) = true := decide_eq_true c2
  have ec2 : decide (r ≤ 8) = false := decide_eq_false (by omega)
  have dn : decide (now ≤ 4611686018427387904) = true := decide_eq_true hn
  have HA : Hid (argN r h = true) := argN_yes (by omega)
  go_enter Try.func8, Try.ntmps8
  go_wp2_with fail
  refine E.mono ?_; rintro e w0 ⟨rfl, b0⟩
  have K := new_bad r h HA.out w0
  go_wp2_with fail
  refine K.mono ?_; rintro e w1 ⟨rfl, rfl⟩
  have s := St.start w w0 b0
  clear E b0 K
  have K := new_l (r := 3) (h := 9) (by decide) (by decide) (n := 3) rfl s
  clear s
  go_wp2_with fail
  refine K.mono ?_; rintro e w2 ⟨g, rfl, s⟩
  clear K
  have K := round_l (e := 0) (k' := { newR 3 9 with on := true, seq := seq, got := false }) seq now (roundD_yes (seq := seq) hn rfl).1 (roundD_yes hn rfl).2 [] _ s
  clear s
  go_wp2_with fail
  refine K.mono ?_; rintro e w3 ⟨rfl, s⟩
  clear K
  have HQ : heardB { newR 3 9 with on := true, seq := seq, got := false } seq = true := by unfold heardB; simp
  have K := heard_l (b := true) (k' := { newR 3 9 with on := true, seq := seq, got := true }) seq HQ (heardD_yes HQ) [] _ s
  clear HQ
  clear s
  go_upto_region 10 with fail
  try dsimp only [List.append]
  go_wp2_with fail
  refine K.mono ?_; rintro e w4 ⟨rfl, s⟩
  clear K
  have K := end_l (b := true) rfl rfl [] _ s
  clear s
  go_wp2_with fail
  refine K.mono ?_; rintro e w5 ⟨rfl, s⟩
  have F := Lib.hid s.below
  clear K s
  go_wp2
  go_ret
  exact ⟨rfl, F.out⟩
set_option maxHeartbeats 3200000 in
set_option maxRecDepth 20000 in
theorem wrong_b1 (r h now seq : Int) (h0 : 0 ≤ h) (g1 : 1 ≤ r) (c2 : 8 < r) (hn : 4611686018427387904 < now) (w : World) :
    Calls Try.prog 8 #[.int .i64 r, .int .u64 h, .int .u64 now, .int .u32 seq] w fun e w' => e = .returned (.bool true) ∧ Below w.heap.size w w' := by
  have E := ex_any w
  have dg1 : decide (1 ≤ r) = true := decide_eq_true g1
  have dc2 : decide (8 < r) = true := decide_eq_true c2
  have ec2 : decide (r ≤ 8) = false := decide_eq_false (by omega)
  have dn : decide (now ≤ 4611686018427387904) = false := decide_eq_false (by omega)
  have HA : Hid (argN r h = true) := argN_yes (by omega)
  go_enter Try.func8, Try.ntmps8
  go_wp2_with fail
  refine E.mono ?_; rintro e w0 ⟨rfl, b0⟩
  have K := new_bad r h HA.out w0
  go_wp2_with fail
  refine K.mono ?_; rintro e w1 ⟨rfl, rfl⟩
  have s := St.start w w0 b0
  clear E b0 K
  have K := new_l (r := 3) (h := 9) (by decide) (by decide) (n := 3) rfl s
  clear s
  go_wp2_with fail
  refine K.mono ?_; rintro e w2 ⟨g, rfl, s⟩
  clear K
  have K := round_l (e := 1) (k' := newR 3 9) seq now (roundE_late hn) (roundD_no (by rw [roundE_late hn]; decide)) [] _ s
  clear s
  go_wp2_with fail
  refine K.mono ?_; rintro e w3 ⟨rfl, s⟩
  clear K
  have K := heard_l (b := false) (k' := newR 3 9) seq rfl (heardD_no rfl) [] _ s
  clear s
  go_upto_region 10 with fail
  try dsimp only [List.append]
  go_wp2_with fail
  refine K.mono ?_; rintro e w4 ⟨rfl, s⟩
  clear K
  have K := end_l (b := false) (k' := newR 3 9) rfl (endD_no rfl) [] _ s
  clear s
  go_wp2_with fail
  refine K.mono ?_; rintro e w5 ⟨rfl, s⟩
  have F := Lib.hid s.below
  clear K s
  go_wp2
  go_ret
  exact ⟨rfl, F.out⟩
set_option maxHeartbeats 3200000 in
set_option maxRecDepth 20000 in
theorem wrong_c0 (r h now seq : Int) (h0 : 0 ≤ h) (g1 : 1 ≤ r) (g2 : r ≤ 8) (c3 : h = 0) (hn : now ≤ 4611686018427387904) (w : World) :
    Calls Try.prog 8 #[.int .i64 r, .int .u64 h, .int .u64 now, .int .u32 seq] w fun e w' => e = .returned (.bool true) ∧ Below w.heap.size w w' := by
  have E := ex_any w
  subst c3
  have dg1 : decide (1 ≤ r) = true := decide_eq_true g1
  have dg2 : decide (r ≤ 8) = true := decide_eq_true g2
  have dn : decide (now ≤ 4611686018427387904) = true := decide_eq_true hn
  have HA : Hid (argN r 0 = true) := argN_yes (by omega)
  go_enter Try.func8, Try.ntmps8
  go_wp2_with fail
  refine E.mono ?_; rintro e w0 ⟨rfl, b0⟩
  have K := new_bad r 0 HA.out w0
  go_wp2_with fail
  refine K.mono ?_; rintro e w1 ⟨rfl, rfl⟩
  have s := St.start w w0 b0
  clear E b0 K
  have K := new_l (r := 3) (h := 9) (by decide) (by decide) (n := 3) rfl s
  clear s
  go_wp2_with fail
  refine K.mono ?_; rintro e w2 ⟨g, rfl, s⟩
  clear K
  have K := round_l (e := 0) (k' := { newR 3 9 with on := true, seq := seq, got := false }) seq now (roundD_yes (seq := seq) hn rfl).1 (roundD_yes hn rfl).2 [] _ s
  clear s
  go_wp2_with fail
  refine K.mono ?_; rintro e w3 ⟨rfl, s⟩
  clear K
  have HQ : heardB { newR 3 9 with on := true, seq := seq, got := false } seq = true := by unfold heardB; simp
  have K := heard_l (b := true) (k' := { newR 3 9 with on := true, seq := seq, got := true }) seq HQ (heardD_yes HQ) [] _ s
  clear HQ
  clear s
  go_upto_region 10 with fail
  try dsimp only [List.append]
  go_wp2_with fail
  refine K.mono ?_; rintro e w4 ⟨rfl, s⟩
  clear K
  have K := end_l (b := true) rfl rfl [] _ s
  clear s
  go_wp2_with fail
  refine K.mono ?_; rintro e w5 ⟨rfl, s⟩
  have F := Lib.hid s.below
  clear K s
  go_wp2
  go_ret
  exact ⟨rfl, F.out⟩
set_option maxHeartbeats 3200000 in
set_option maxRecDepth 20000 in
theorem wrong_c1 (r h now seq : Int) (h0 : 0 ≤ h) (g1 : 1 ≤ r) (g2 : r ≤ 8) (c3 : h = 0) (hn : 4611686018427387904 < now) (w : World) :
    Calls Try.prog 8 #[.int .i64 r, .int .u64 h, .int .u64 now, .int .u32 seq] w fun e w' => e = .returned (.bool true) ∧ Below w.heap.size w w' := by
  have E := ex_any w
  subst c3
  have dg1 : decide (1 ≤ r) = true := decide_eq_true g1
  have dg2 : decide (r ≤ 8) = true := decide_eq_true g2
  have dn : decide (now ≤ 4611686018427387904) = false := decide_eq_false (by omega)
  have HA : Hid (argN r 0 = true) := argN_yes (by omega)
  go_enter Try.func8, Try.ntmps8
  go_wp2_with fail
  refine E.mono ?_; rintro e w0 ⟨rfl, b0⟩
  have K := new_bad r 0 HA.out w0
  go_wp2_with fail
  refine K.mono ?_; rintro e w1 ⟨rfl, rfl⟩
  have s := St.start w w0 b0
  clear E b0 K
  have K := new_l (r := 3) (h := 9) (by decide) (by decide) (n := 3) rfl s
  clear s
  go_wp2_with fail
  refine K.mono ?_; rintro e w2 ⟨g, rfl, s⟩
  clear K
  have K := round_l (e := 1) (k' := newR 3 9) seq now (roundE_late hn) (roundD_no (by rw [roundE_late hn]; decide)) [] _ s
  clear s
  go_wp2_with fail
  refine K.mono ?_; rintro e w3 ⟨rfl, s⟩
  clear K
  have K := heard_l (b := false) (k' := newR 3 9) seq rfl (heardD_no rfl) [] _ s
  clear s
  go_upto_region 10 with fail
  try dsimp only [List.append]
  go_wp2_with fail
  refine K.mono ?_; rintro e w4 ⟨rfl, s⟩
  clear K
  have K := end_l (b := false) (k' := newR 3 9) rfl (endD_no rfl) [] _ s
  clear s
  go_wp2_with fail
  refine K.mono ?_; rintro e w5 ⟨rfl, s⟩
  have F := Lib.hid s.below
  clear K s
  go_wp2
  go_ret
  exact ⟨rfl, F.out⟩
set_option maxHeartbeats 3200000 in
set_option maxRecDepth 20000 in
theorem wrong_d0 (r h now seq : Int) (h0 : 0 ≤ h) (g1 : 1 ≤ r) (g2 : r ≤ 8) (g3 : 1 ≤ h) (c4 : 1000000 < h) (hn : now ≤ 4611686018427387904) (w : World) :
    Calls Try.prog 8 #[.int .i64 r, .int .u64 h, .int .u64 now, .int .u32 seq] w fun e w' => e = .returned (.bool true) ∧ Below w.heap.size w w' := by
  have E := ex_any w
  have dg1 : decide (1 ≤ r) = true := decide_eq_true g1
  have dg2 : decide (r ≤ 8) = true := decide_eq_true g2
  have dg3 : decide (1 ≤ h) = true := decide_eq_true g3
  have dc4 : decide (1000000 < h) = true := decide_eq_true c4
  have ec4 : decide (h ≤ 1000000) = false := decide_eq_false (by omega)
  have dn : decide (now ≤ 4611686018427387904) = true := decide_eq_true hn
  have HA : Hid (argN r h = true) := argN_yes (by omega)
  go_enter Try.func8, Try.ntmps8
  go_wp2_with fail
  refine E.mono ?_; rintro e w0 ⟨rfl, b0⟩
  have K := new_bad r h HA.out w0
  go_wp2_with fail
  refine K.mono ?_; rintro e w1 ⟨rfl, rfl⟩
  have s := St.start w w0 b0
  clear E b0 K
  have K := new_l (r := 3) (h := 9) (by decide) (by decide) (n := 3) rfl s
  clear s
  go_wp2_with fail
  refine K.mono ?_; rintro e w2 ⟨g, rfl, s⟩
  clear K
  have K := round_l (e := 0) (k' := { newR 3 9 with on := true, seq := seq, got := false }) seq now (roundD_yes (seq := seq) hn rfl).1 (roundD_yes hn rfl).2 [] _ s
  clear s
  go_wp2_with fail
  refine K.mono ?_; rintro e w3 ⟨rfl, s⟩
  clear K
  have HQ : heardB { newR 3 9 with on := true, seq := seq, got := false } seq = true := by unfold heardB; simp
  have K := heard_l (b := true) (k' := { newR 3 9 with on := true, seq := seq, got := true }) seq HQ (heardD_yes HQ) [] _ s
  clear HQ
  clear s
  go_upto_region 10 with fail
  try dsimp only [List.append]
  go_wp2_with fail
  refine K.mono ?_; rintro e w4 ⟨rfl, s⟩
  clear K
  have K := end_l (b := true) rfl rfl [] _ s
  clear s
  go_wp2_with fail
  refine K.mono ?_; rintro e w5 ⟨rfl, s⟩
  have F := Lib.hid s.below
  clear K s
  go_wp2
  go_ret
  exact ⟨rfl, F.out⟩
set_option maxHeartbeats 3200000 in
set_option maxRecDepth 20000 in
theorem wrong_d1 (r h now seq : Int) (h0 : 0 ≤ h) (g1 : 1 ≤ r) (g2 : r ≤ 8) (g3 : 1 ≤ h) (c4 : 1000000 < h) (hn : 4611686018427387904 < now) (w : World) :
    Calls Try.prog 8 #[.int .i64 r, .int .u64 h, .int .u64 now, .int .u32 seq] w fun e w' => e = .returned (.bool true) ∧ Below w.heap.size w w' := by
  have E := ex_any w
  have dg1 : decide (1 ≤ r) = true := decide_eq_true g1
  have dg2 : decide (r ≤ 8) = true := decide_eq_true g2
  have dg3 : decide (1 ≤ h) = true := decide_eq_true g3
  have dc4 : decide (1000000 < h) = true := decide_eq_true c4
  have ec4 : decide (h ≤ 1000000) = false := decide_eq_false (by omega)
  have dn : decide (now ≤ 4611686018427387904) = false := decide_eq_false (by omega)
  have HA : Hid (argN r h = true) := argN_yes (by omega)
  go_enter Try.func8, Try.ntmps8
  go_wp2_with fail
  refine E.mono ?_; rintro e w0 ⟨rfl, b0⟩
  have K := new_bad r h HA.out w0
  go_wp2_with fail
  refine K.mono ?_; rintro e w1 ⟨rfl, rfl⟩
  have s := St.start w w0 b0
  clear E b0 K
  have K := new_l (r := 3) (h := 9) (by decide) (by decide) (n := 3) rfl s
  clear s
  go_wp2_with fail
  refine K.mono ?_; rintro e w2 ⟨g, rfl, s⟩
  clear K
  have K := round_l (e := 1) (k' := newR 3 9) seq now (roundE_late hn) (roundD_no (by rw [roundE_late hn]; decide)) [] _ s
  clear s
  go_wp2_with fail
  refine K.mono ?_; rintro e w3 ⟨rfl, s⟩
  clear K
  have K := heard_l (b := false) (k' := newR 3 9) seq rfl (heardD_no rfl) [] _ s
  clear s
  go_upto_region 10 with fail
  try dsimp only [List.append]
  go_wp2_with fail
  refine K.mono ?_; rintro e w4 ⟨rfl, s⟩
  clear K
  have K := end_l (b := false) (k' := newR 3 9) rfl (endD_no rfl) [] _ s
  clear s
  go_wp2_with fail
  refine K.mono ?_; rintro e w5 ⟨rfl, s⟩
  have F := Lib.hid s.below
  clear K s
  go_wp2
  go_ret
  exact ⟨rfl, F.out⟩
set_option maxHeartbeats 3200000 in
set_option maxRecDepth 20000 in
theorem wrong_e0 (r h now seq : Int) (h0 : 0 ≤ h) (g1 : 1 ≤ r) (g2 : r ≤ 8) (g3 : 1 ≤ h) (g4 : h ≤ 1000000) (hn : now ≤ 4611686018427387904) (w : World) :
    Calls Try.prog 8 #[.int .i64 r, .int .u64 h, .int .u64 now, .int .u32 seq] w fun e w' => e = .returned (.bool true) ∧ Below w.heap.size w w' := by
  have E := ex_any w
  have dg1 : decide (1 ≤ r) = true := decide_eq_true g1
  have dg2 : decide (r ≤ 8) = true := decide_eq_true g2
  have dg3 : decide (1 ≤ h) = true := decide_eq_true g3
  have dg4 : decide (h ≤ 1000000) = true := decide_eq_true g4
  have dn : decide (now ≤ 4611686018427387904) = true := decide_eq_true hn
  have HA := Lib.hid (argN_good g1 g2 g3 g4)
  go_enter Try.func8, Try.ntmps8
  go_wp2_with fail
  refine E.mono ?_; rintro e w0 ⟨rfl, b0⟩
  have K := new_l HA.out h0 (n := r.toNat) rfl (St.start w w0 b0)
  clear E b0
  go_wp2_with fail
  refine K.mono ?_; rintro e w1 ⟨g0, rfl, s⟩
  clear K
  have K := new_l (r := 3) (h := 9) (by decide) (by decide) (n := 3) rfl s
  clear s
  go_wp2_with fail
  refine K.mono ?_; rintro e w2 ⟨g, rfl, s⟩
  clear K
  have K := round_l (e := 0) (k' := { newR 3 9 with on := true, seq := seq, got := false }) seq now (roundD_yes (seq := seq) hn rfl).1 (roundD_yes hn rfl).2 [] _ s
  clear s
  go_wp2_with fail
  refine K.mono ?_; rintro e w3 ⟨rfl, s⟩
  clear K
  have HQ : heardB { newR 3 9 with on := true, seq := seq, got := false } seq = true := by unfold heardB; simp
  have K := heard_l (b := true) (k' := { newR 3 9 with on := true, seq := seq, got := true }) seq HQ (heardD_yes HQ) [] _ s
  clear HQ
  clear s
  go_upto_region 10 with fail
  try dsimp only [List.append]
  go_wp2_with fail
  refine K.mono ?_; rintro e w4 ⟨rfl, s⟩
  clear K
  have K := end_l (b := true) rfl rfl [] _ s
  clear s
  go_wp2_with fail
  refine K.mono ?_; rintro e w5 ⟨rfl, s⟩
  have F := Lib.hid s.below
  clear K s
  go_wp2
  go_ret
  exact ⟨rfl, F.out⟩
set_option maxHeartbeats 3200000 in
set_option maxRecDepth 20000 in
theorem wrong_e1 (r h now seq : Int) (h0 : 0 ≤ h) (g1 : 1 ≤ r) (g2 : r ≤ 8) (g3 : 1 ≤ h) (g4 : h ≤ 1000000) (hn : 4611686018427387904 < now) (w : World) :
    Calls Try.prog 8 #[.int .i64 r, .int .u64 h, .int .u64 now, .int .u32 seq] w fun e w' => e = .returned (.bool true) ∧ Below w.heap.size w w' := by
  have E := ex_any w
  have dg1 : decide (1 ≤ r) = true := decide_eq_true g1
  have dg2 : decide (r ≤ 8) = true := decide_eq_true g2
  have dg3 : decide (1 ≤ h) = true := decide_eq_true g3
  have dg4 : decide (h ≤ 1000000) = true := decide_eq_true g4
  have dn : decide (now ≤ 4611686018427387904) = false := decide_eq_false (by omega)
  have HA := Lib.hid (argN_good g1 g2 g3 g4)
  go_enter Try.func8, Try.ntmps8
  go_wp2_with fail
  refine E.mono ?_; rintro e w0 ⟨rfl, b0⟩
  have K := new_l HA.out h0 (n := r.toNat) rfl (St.start w w0 b0)
  clear E b0
  go_wp2_with fail
  refine K.mono ?_; rintro e w1 ⟨g0, rfl, s⟩
  clear K
  have K := new_l (r := 3) (h := 9) (by decide) (by decide) (n := 3) rfl s
  clear s
  go_wp2_with fail
  refine K.mono ?_; rintro e w2 ⟨g, rfl, s⟩
  clear K
  have K := round_l (e := 1) (k' := newR 3 9) seq now (roundE_late hn) (roundD_no (by rw [roundE_late hn]; decide)) [] _ s
  clear s
  go_wp2_with fail
  refine K.mono ?_; rintro e w3 ⟨rfl, s⟩
  clear K
  have K := heard_l (b := false) (k' := newR 3 9) seq rfl (heardD_no rfl) [] _ s
  clear s
  go_upto_region 10 with fail
  try dsimp only [List.append]
  go_wp2_with fail
  refine K.mono ?_; rintro e w4 ⟨rfl, s⟩
  clear K
  have K := end_l (b := false) (k' := newR 3 9) rfl (endD_no rfl) [] _ s
  clear s
  go_wp2_with fail
  refine K.mono ?_; rintro e w5 ⟨rfl, s⟩
  have F := Lib.hid s.below
  clear K s
  go_wp2
  go_ret
  exact ⟨rfl, F.out⟩
theorem wrong_walk (r h now seq : Int) (h0 : 0 ≤ h) (w : World) :
    Calls Try.prog 8 #[.int .i64 r, .int .u64 h, .int .u64 now, .int .u32 seq] w fun e w' => e = .returned (.bool true) ∧ Below w.heap.size w w' := by
  by_cases hn : now ≤ 4611686018427387904
  · skip
    by_cases g1 : 1 ≤ r
    · by_cases g2 : r ≤ 8
      · by_cases g3 : 1 ≤ h
        · by_cases g4 : h ≤ 1000000
          · exact wrong_e0 r h now seq h0 g1 g2 g3 g4 hn w
          · exact wrong_d0 r h now seq h0 g1 g2 g3 (by omega) hn w
        · exact wrong_c0 r h now seq h0 g1 g2 (by omega) hn w
      · exact wrong_b0 r h now seq h0 g1 (by omega) hn w
    · exact wrong_a0 r h now seq h0 (by omega) hn w
  · replace hn : 4611686018427387904 < now := by omega
    by_cases g1 : 1 ≤ r
    · by_cases g2 : r ≤ 8
      · by_cases g3 : 1 ≤ h
        · by_cases g4 : h ≤ 1000000
          · exact wrong_e1 r h now seq h0 g1 g2 g3 g4 hn w
          · exact wrong_d1 r h now seq h0 g1 g2 g3 (by omega) hn w
        · exact wrong_c1 r h now seq h0 g1 g2 (by omega) hn w
      · exact wrong_b1 r h now seq h0 g1 (by omega) hn w
    · exact wrong_a1 r h now seq h0 (by omega) hn w
theorem wrong_run (r h now seq : Int) (w : World) (wr : (Lit.int .i64 r).wf = true) (wh : (Lit.int .u64 h).wf = true) (wn : (Lit.int .u64 now).wf = true) (ws : (Lit.int .u32 seq).wf = true) :
    Calls Try.prog 8 #[.int .i64 r, .int .u64 h, .int .u64 now, .int .u32 seq] w fun e w' => e = .returned (.bool true) ∧ Below w.heap.size w w' :=
  wrong_walk r h now seq (bounds_u64 wh).1 w
theorem reachWrong_own : ownKnob Try.prog.godebug = none := by kernel_rfl
theorem reachWrong_laid : laidOutB Try.prog = true := by kernel_rfl
set_option maxRecDepth 100000 in
theorem reachWrong_lifted (os : Os) (started : os.Started) (H : Type) (enc : TypeId × Value → H) :
    ReturnsInHanded {} Try.checked os 8 .any (Rows.reachWrongSpec.pre6 enc Try.prog Try.f8 Rows.reachWrongRow.domain false) (Rows.reachWrongSpec.post enc Try.prog Try.f8 false true false false) := by
  refine returnsInHanded_of_change (C := Try.checked) reachWrong_own started (by kernel_rfl) Try.func8
    (ChangeSpec.witness6 (enc := enc) (C := Try.checked) false ⟨#[], #[.int .i64 0, .int .u64 0, .int .u64 0, .int .u32 0], []⟩ 8 (by kernel_rfl) (by kernel_rfl) (by kernel_rfl) (by kernel_rfl)) ?_
  intro W base args ds gs before hval0 hW hcnd _
  have hval : ∀ (j : Nat) t v, Try.f8.params[j]? = some t → args[j]? = some v → Value.okWide Try.prog W .any base t v := hval0
  have hW' := hW
  obtain ⟨p, q, hA0, hV, rfl, hfz, hnd⟩ := hW
  have hA : DataW.TrodAll enc Try.prog W 0 (fun _ => true) true Try.f8.params.toList args.toList ds p := hA0
  rw [Try.params8] at hA hval
  obtain ⟨v0, vs0, d0, ds0, p0, q0, hargs, rfl, rfl, h0, r0⟩ := trodAll_cons hA
  obtain ⟨v1, vs1, d1, ds1, p1, q1, rfl, rfl, rfl, h1, r1⟩ := trodAll_cons r0
  obtain ⟨v2, vs2, d2, ds2, p2, q2, rfl, rfl, rfl, h2, r2⟩ := trodAll_cons r1
  obtain ⟨v3, vs3, d3, ds3, p3, q3, rfl, rfl, rfl, h3, r3⟩ := trodAll_cons r2
  obtain ⟨rfl, rfl, rfl⟩ := trodAll_nil r3
  obtain rfl : args = #[v0, v1, v2, v3] := by cases args; simp_all
  obtain ⟨rfl, rfl⟩ := trodVars_none hV
  obtain ⟨a0, rfl, rfl, rfl, w0⟩ := open_int Try.underlying3 (hval 0 3 v0 rfl rfl) h0
  obtain ⟨a1, rfl, rfl, rfl, w1⟩ := open_int Try.underlying22 (hval 1 22 v1 rfl rfl) h1
  obtain ⟨a2, rfl, rfl, rfl, w2⟩ := open_int Try.underlying22 (hval 2 22 v2 rfl rfl) h2
  obtain ⟨a3, rfl, rfl, rfl, w3⟩ := open_int Try.underlying32 (hval 3 32 v3 rfl rfl) h3
  clear hA0 hval0
  refine (wrong_run a0 a1 a2 a3 W w0 w1 w2 w3).mono fun e W' ⟨he, bel⟩ => ?_
  subst he
  exact ⟨_, rfl, _, _, _, [], _, [], hW', trodAll_mk1 (shut_bool Try.underlying4 _), (trodAll_cons_mk (shut_int Try.underlying3 w0) (trodAll_cons_mk (shut_int Try.underlying22 w1) (trodAll_cons_mk (shut_int Try.underlying22 w2) (trodAll_cons_mk (shut_int Try.underlying32 w3) trodAll_mk0)))), rfl, bel.frame _, fun h => by cases h⟩
theorem reachWrong_over : Rows.reachWrongRow.holds Try.pinned (OpenSpec.ofChange Rows.reachWrongSpec) :=
  OpenClaim.holds_of_wide 8 Try.f8 rfl rfl rfl rfl rfl rfl rfl ⟨rfl, rfl, rfl, rfl, rfl⟩ rfl rfl rfl rfl rfl (by kernel_rfl) Try.func8 (by kernel_rfl)
    (of_decide_eq_true (by kernel_rfl)) (by unfold Func.isWrapper; first | (rw [if_pos (by decide +kernel)]; kernel_rfl) | (rw [if_neg (by decide +kernel)]; exact ⟨rfl, rfl⟩))
    (fun os started H enc _ => reachWrong_lifted os started H enc)
theorem reachWrong_holds : Rows.ReachWrongSaid := reachWrong_over
#print axioms reachWrong_holds
end Go.Proofs.Ytnkjepemliccpaa
