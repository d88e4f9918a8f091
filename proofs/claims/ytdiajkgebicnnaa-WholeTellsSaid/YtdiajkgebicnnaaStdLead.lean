/- The contracts of package std's makers of cycles. -/
import Derived.Test.YtdiajkgebicnnaaChecked
import Derived.Test.YtdiajkgebicnnaaStdSmall
import Derived.Below
import Derived.BigQuiet
import Derived.ChangeMaps5
import Derived.Deep.DeepAppendWide
import Derived.Deep.DeepCutAuto
import Derived.Deep.Draws
import Derived.Deep.MidRow
import Derived.Deep.OwnRows
import Derived.Deep.QuietTactic
import Derived.Deep.RegionWith
import Derived.Deep.Slices
import Derived.Deep.WholeRow
import Derived.Laws.OwnMore
import Derived.Lib.Hide
import Derived.Lib.SmallJoins
import Derived.OpenShut
import Derived.OwnWalk
import Derived.RowKit3
import Derived.WalkKit
namespace Go.Proofs.Ytdiajkgebicnnaa
open Go.RowKit
set_option maxRecDepth 100000
set_option maxHeartbeats 4000000 in
theorem absolute_std (w : World) :
    Calls Try.prog 158 #[] w fun e w' => ∃ a n c, e = .returned (.slice a n c) ∧ cyclesO w.heap.size w' (.slice a n c) absC ∧ Below w.heap.size w w' := by
  go_enter Try.func158, Try.ntmps158
  go_wp2_with (go_at_call 117; refine (with_std _ _ _ _).mono ?_)
  rintro e w1 ⟨rfl, h1⟩
  have c_w_w1 := h1
  go_wp2_with (go_at_call 121; refine (read_std _ _ _ _ _ _).mono ?_)
  rintro e w2 ⟨rfl, h2⟩
  have c_w_w2 := below_step (below_al c_w_w1 _) h2
  have c_w1_w2 := below_step (below_laid1 _ _) h2
  have s1 := steps_built h2 [⟨18, 8, 5, 0⟩] rfl rfl (by decide)
  go_wp2_with (go_at_call 117; refine (with_std _ _ _ _).mono ?_)
  rintro e w3 ⟨rfl, h3⟩
  have c_w_w3 := below_step c_w_w2 h3
  have c_w1_w3 := below_step c_w1_w2 h3
  have c_w2_w3 := h3
  go_wp2_with (go_at_call 121; refine (read_std _ _ _ _ _ _).mono ?_)
  rintro e w4 ⟨rfl, h4⟩
  have c_w_w4 := below_step (below_al c_w_w3 _) h4
  have c_w1_w4 := below_step (below_al c_w1_w3 _) h4
  have c_w2_w4 := below_step (below_al c_w2_w3 _) h4
  have c_w3_w4 := below_step (below_laid1 _ _) h4
  have s2 := steps_built h4 [⟨19, 8, 5, 0⟩] rfl rfl (by decide)
  go_wp2_with fail
  go_ret
  exact ⟨_, _, _, rfl, cyclesO_mono (own_cycles [(⟨1, 0, 5, [⟨18, 8, 5, 0⟩]⟩, _), (⟨1, 0, 5, [⟨19, 8, 5, 0⟩]⟩, _)] ⟨⟨_, (stepsO_below s1 c_w2_w4)⟩, ⟨_, s2⟩, trivial⟩ rfl rfl (Nat.le_of_ble_eq_true rfl)) c_w_w4.size, below_al c_w_w4 _⟩
set_option maxHeartbeats 4000000 in
theorem lead0_std (w : World) :
    Calls Try.prog 147 #[.int .i64 0] w fun e w' => ∃ a n c, e = .returned (.slice a n c) ∧ cyclesO w.heap.size w' (.slice a n c) (leadC 0) ∧ Below w.heap.size w w' := by
  go_enter Try.func147, Try.ntmps147
  go_wp2_with fail
  go_ret
  exact ⟨_, _, _, rfl, ownArr_nil _ _ _ _ _, Below.refl _ _⟩
set_option maxHeartbeats 4000000 in
theorem lead1_std (w : World) :
    Calls Try.prog 147 #[.int .i64 1] w fun e w' => ∃ a n c, e = .returned (.slice a n c) ∧ cyclesO w.heap.size w' (.slice a n c) (leadC 1) ∧ Below w.heap.size w w' := by
  go_enter Try.func147, Try.ntmps147
  go_wp2_with fail
  go_ret
  exact ⟨_, _, _, rfl, ownArr_nil _ _ _ _ _, Below.refl _ _⟩
set_option maxHeartbeats 4000000 in
theorem lead7_std (w : World) :
    Calls Try.prog 147 #[.int .i64 7] w fun e w' => ∃ a n c, e = .returned (.slice a n c) ∧ cyclesO w.heap.size w' (.slice a n c) (leadC 7) ∧ Below w.heap.size w w' := by
  go_enter Try.func147, Try.ntmps147
  go_wp2_with fail
  go_ret
  exact ⟨_, _, _, rfl, ownArr_nil _ _ _ _ _, Below.refl _ _⟩
set_option maxHeartbeats 4000000 in
theorem lead2_std (w : World) :
    Calls Try.prog 147 #[.int .i64 2] w fun e w' => ∃ a n c, e = .returned (.slice a n c) ∧ cyclesO w.heap.size w' (.slice a n c) (leadC 2) ∧ Below w.heap.size w w' := by
  go_enter Try.func147, Try.ntmps147
  go_wp2_with (go_at_call 157; refine (zero_std _).mono ?_)
  rintro e w1 ⟨a1, n1, k1, rfl, z1, h1⟩
  have c_w_w1 := h1
  go_wp2_with (go_at_call 121; refine (read_std _ _ _ _ _ _).mono ?_)
  rintro e w2 ⟨rfl, h2⟩
  have c_w_w2 := below_step c_w_w1 h2
  have c_w1_w2 := h2
  go_wp2_with fail
  go_ret
  exact ⟨_, _, _, rfl, cyclesO_mono (own_cycles [(⟨1, 0, 5, zeroS⟩, _)] ⟨⟨_, (stepsO_below z1 c_w1_w2)⟩, trivial⟩ rfl rfl (Nat.le_of_ble_eq_true rfl)) c_w_w2.size, below_al c_w_w2 _⟩
set_option maxHeartbeats 4000000 in
theorem lead3_std (w : World) :
    Calls Try.prog 147 #[.int .i64 3] w fun e w' => ∃ a n c, e = .returned (.slice a n c) ∧ cyclesO w.heap.size w' (.slice a n c) (leadC 3) ∧ Below w.heap.size w w' := by
  go_enter Try.func147, Try.ntmps147
  go_wp2_with (go_at_call 157; refine (zero_std _).mono ?_)
  rintro e w1 ⟨a1, n1, k1, rfl, z1, h1⟩
  have c_w_w1 := h1
  go_wp2_with (go_at_call 117; refine (with_std _ _ _ _).mono ?_)
  rintro e w2 ⟨rfl, h2⟩
  have c_w_w2 := below_step c_w_w1 h2
  have c_w1_w2 := h2
  go_wp2_with (at_builtin; refine wpList_steps rfl _ _ rfl w.heap.size _ _ _ rfl rfl zeroS [⟨22, 8, 1, 0⟩] (stepsO_below z1 (below_al c_w1_w2 _)) (own_steps [⟨22, 8, 1, 0⟩] rfl rfl (Nat.le_of_ble_eq_true rfl)) ?b1 ?b2 ?_)
  case b1 => decide
  case b2 => exact (show Below w.heap.size w _ from (below_al c_w_w2 _)).size
  intro a3 n3 k3 w3 s3 h3
  have c_w_w3 := ((below_al c_w_w2 _)).trans ((h3).mono (Nat.le_refl _))
  go_wp2_with (go_at_call 121; refine (read_std _ _ _ _ _ _).mono ?_)
  rintro e w4 ⟨rfl, h4⟩
  have c_w_w4 := below_step c_w_w3 h4
  have c_w3_w4 := h4
  go_wp2_with (go_at_call 117; refine (with_std _ _ _ _).mono ?_)
  rintro e w5 ⟨rfl, h5⟩
  have c_w_w5 := below_step c_w_w4 h5
  have c_w3_w5 := below_step c_w3_w4 h5
  have c_w4_w5 := h5
  go_wp2_with (go_at_call 157; refine (zero_std _).mono ?_)
  rintro e w6 ⟨a6, n6, k6, rfl, z6, h6⟩
  have c_w_w6 := below_step (below_al c_w_w5 _) h6
  have c_w3_w6 := below_step (below_al c_w3_w5 _) h6
  have c_w4_w6 := below_step (below_al c_w4_w5 _) h6
  have c_w5_w6 := below_step (below_laid1 _ _) h6
  have s5 := steps_built h6 [⟨20, 5, 8, 0⟩] rfl rfl (by decide)
  go_wp2_with (at_builtin; refine wpList_steps rfl _ _ rfl w5.heap.size _ _ _ rfl rfl [⟨20, 5, 8, 0⟩] zeroS s5 z6 ?b1 ?b2 ?_)
  case b1 => decide
  case b2 => exact (show Below w5.heap.size w5 _ from c_w5_w6).size
  intro a7 n7 k7 w7 s7 h7
  have c_w_w7 := (c_w_w6).trans ((h7).mono (c_w_w5.size))
  have c_w3_w7 := (c_w3_w6).trans ((h7).mono (c_w3_w5.size))
  have c_w4_w7 := (c_w4_w6).trans ((h7).mono (c_w4_w5.size))
  have c_w5_w7 := (c_w5_w6).trans ((h7).mono (Nat.le_refl _))
  go_wp2_with (go_at_call 116; refine (quiet_std _ _ _ _).mono ?_)
  rintro e w8 ⟨rfl, h8⟩
  have c_w_w8 := below_step c_w_w7 h8
  have c_w3_w8 := below_step c_w3_w7 h8
  have c_w4_w8 := below_step c_w4_w7 h8
  have c_w5_w8 := below_step c_w5_w7 h8
  have c_w7_w8 := h8
  go_wp2_with fail
  go_ret
  exact ⟨_, _, _, rfl, cyclesO_mono (own_cycles [(⟨1, 0, 5, zeroS ++ [⟨22, 8, 1, 0⟩]⟩, _), (⟨0, 0, 0, [⟨20, 5, 8, 0⟩] ++ zeroS⟩, _)] ⟨⟨_, (stepsO_below s3 c_w3_w8)⟩, ⟨_, (stepsO_below s7 c_w7_w8)⟩, trivial⟩ rfl rfl (Nat.le_of_ble_eq_true rfl)) c_w_w8.size, below_al c_w_w8 _⟩
set_option maxHeartbeats 4000000 in
theorem lead4_std (w : World) :
    Calls Try.prog 147 #[.int .i64 4] w fun e w' => ∃ a n c, e = .returned (.slice a n c) ∧ cyclesO w.heap.size w' (.slice a n c) (leadC 4) ∧ Below w.heap.size w w' := by
  go_enter Try.func147, Try.ntmps147
  go_wp2_with (go_at_call 158; refine (absolute_std _).mono ?_)
  rintro e w1 ⟨a1, n1, k1, rfl, z1, h1⟩
  have c_w_w1 := h1
  go_wp2_with fail
  go_ret
  exact ⟨_, _, _, rfl, z1, c_w_w1⟩
set_option maxHeartbeats 4000000 in
theorem lead5_std (w : World) :
    Calls Try.prog 147 #[.int .i64 5] w fun e w' => ∃ a n c, e = .returned (.slice a n c) ∧ cyclesO w.heap.size w' (.slice a n c) (leadC 5) ∧ Below w.heap.size w w' := by
  go_enter Try.func147, Try.ntmps147
  go_wp2_with (go_at_call 158; refine (absolute_std _).mono ?_)
  rintro e w1 ⟨a1, n1, k1, rfl, z1, h1⟩
  have c_w_w1 := h1
  go_wp2_with (go_at_call 117; refine (with_std _ _ _ _).mono ?_)
  rintro e w2 ⟨rfl, h2⟩
  have c_w_w2 := below_step c_w_w1 h2
  have c_w1_w2 := h2
  go_wp2_with (go_at_call 116; refine (quiet_std _ _ _ _).mono ?_)
  rintro e w3 ⟨rfl, h3⟩
  have c_w_w3 := below_step (below_al c_w_w2 _) h3
  have c_w1_w3 := below_step (below_al c_w1_w2 _) h3
  have c_w2_w3 := below_step (below_laid1 _ _) h3
  have s2 := steps_built h3 [⟨22, 8, 1, 0⟩] rfl rfl (by decide)
  go_wp2_with (at_builtin; refine wpList_cycles rfl _ _ rfl w.heap.size _ _ _ rfl rfl absC [⟨0, 0, 0, [⟨22, 8, 1, 0⟩]⟩] (cyclesO_below z1 (below_al c_w1_w3 _)) (own_cycles [(⟨0, 0, 0, [⟨22, 8, 1, 0⟩]⟩, _)] ⟨⟨_, s2⟩, trivial⟩ rfl rfl (Nat.le_of_ble_eq_true rfl)) ?b1 ?b2 ?_)
  case b1 => decide
  case b2 => exact (show Below w.heap.size w _ from (below_al c_w_w3 _)).size
  intro a4 n4 k4 w4 y h4
  have c_w_w4 := ((below_al c_w_w3 _)).trans ((h4).mono (Nat.le_refl _))
  go_wp2_with fail
  go_ret
  exact ⟨_, _, _, rfl, y, c_w_w4⟩
set_option maxHeartbeats 4000000 in
theorem lead6_std (w : World) :
    Calls Try.prog 147 #[.int .i64 6] w fun e w' => ∃ a n c, e = .returned (.slice a n c) ∧ cyclesO w.heap.size w' (.slice a n c) (leadC 6) ∧ Below w.heap.size w w' := by
  go_enter Try.func147, Try.ntmps147
  go_wp2_with (go_at_call 158; refine (absolute_std _).mono ?_)
  rintro e w1 ⟨a1, n1, k1, rfl, z1, h1⟩
  have c_w_w1 := h1
  go_wp2_with (go_at_call 117; refine (with_std _ _ _ _).mono ?_)
  rintro e w2 ⟨rfl, h2⟩
  have c_w_w2 := below_step c_w_w1 h2
  have c_w1_w2 := h2
  go_wp2_with (go_at_call 116; refine (quiet_std _ _ _ _).mono ?_)
  rintro e w3 ⟨rfl, h3⟩
  have c_w_w3 := below_step (below_al c_w_w2 _) h3
  have c_w1_w3 := below_step (below_al c_w1_w2 _) h3
  have c_w2_w3 := below_step (below_laid1 _ _) h3
  have s2 := steps_built h3 [⟨22, 8, 2, 0⟩] rfl rfl (by decide)
  go_wp2_with (at_builtin; refine wpList_cycles rfl _ _ rfl w.heap.size _ _ _ rfl rfl absC [⟨0, 0, 0, [⟨22, 8, 2, 0⟩]⟩] (cyclesO_below z1 (below_al c_w1_w3 _)) (own_cycles [(⟨0, 0, 0, [⟨22, 8, 2, 0⟩]⟩, _)] ⟨⟨_, s2⟩, trivial⟩ rfl rfl (Nat.le_of_ble_eq_true rfl)) ?b1 ?b2 ?_)
  case b1 => decide
  case b2 => exact (show Below w.heap.size w _ from (below_al c_w_w3 _)).size
  intro a4 n4 k4 w4 y h4
  have c_w_w4 := ((below_al c_w_w3 _)).trans ((h4).mono (Nat.le_refl _))
  go_wp2_with fail
  go_ret
  exact ⟨_, _, _, rfl, y, c_w_w4⟩
set_option maxHeartbeats 4000000 in
theorem lead8_std (w : World) :
    Calls Try.prog 147 #[.int .i64 8] w fun e w' => ∃ a n c, e = .returned (.slice a n c) ∧ cyclesO w.heap.size w' (.slice a n c) (leadC 8) ∧ Below w.heap.size w w' := by
  go_enter Try.func147, Try.ntmps147
  go_wp2_with (go_at_call 157; refine (zero_std _).mono ?_)
  rintro e w1 ⟨a1, n1, k1, rfl, z1, h1⟩
  have c_w_w1 := h1
  go_wp2_with (go_at_call_of 121 (Value.int .i64 0); refine (read_std _ _ _ _ _ _).mono ?_)
  rintro e w2 ⟨rfl, h2⟩
  have c_w_w2 := below_step c_w_w1 h2
  have c_w1_w2 := h2
  go_wp2_with (go_at_call_of 121 (Value.int .i64 2); refine (read_std _ _ _ _ _ _).mono ?_)
  rintro e w3 ⟨rfl, h3⟩
  have c_w_w3 := below_step c_w_w2 h3
  have c_w1_w3 := below_step c_w1_w2 h3
  have c_w2_w3 := h3
  go_wp2_with (go_at_call 122; refine (jump_std _ _).mono ?_)
  rintro e w4 ⟨a4, n4, k4, rfl, z4, h4⟩
  have c_w_w4 := below_step c_w_w3 h4
  have c_w1_w4 := below_step c_w1_w3 h4
  have c_w2_w4 := below_step c_w2_w3 h4
  have c_w3_w4 := h4
  go_wp2_with (go_at_call 117; refine (with_std _ _ _ _).mono ?_)
  rintro e w5 ⟨rfl, h5⟩
  have c_w_w5 := below_step c_w_w4 h5
  have c_w1_w5 := below_step c_w1_w4 h5
  have c_w2_w5 := below_step c_w2_w4 h5
  have c_w3_w5 := below_step c_w3_w4 h5
  have c_w4_w5 := h5
  go_wp2_with (at_builtin; refine wpList_steps rfl _ _ rfl w3.heap.size _ _ _ rfl rfl (jumpS 8) [⟨22, 8, 2, 0⟩] (stepsO_below z4 (below_al c_w4_w5 _)) (own_steps [⟨22, 8, 2, 0⟩] rfl rfl (Nat.le_of_ble_eq_true rfl)) ?b1 ?b2 ?_)
  case b1 => decide
  case b2 => exact (show Below w3.heap.size w3 _ from (below_al c_w3_w5 _)).size
  intro a6 n6 k6 w6 s6 h6
  have c_w_w6 := ((below_al c_w_w5 _)).trans ((h6).mono (c_w_w3.size))
  have c_w1_w6 := ((below_al c_w1_w5 _)).trans ((h6).mono (c_w1_w3.size))
  have c_w2_w6 := ((below_al c_w2_w5 _)).trans ((h6).mono (c_w2_w3.size))
  have c_w3_w6 := ((below_al c_w3_w5 _)).trans ((h6).mono (Nat.le_refl _))
  go_wp2_with (go_at_call_of 121 (Value.int .i64 3); refine (read_std _ _ _ _ _ _).mono ?_)
  rintro e w7 ⟨rfl, h7⟩
  have c_w_w7 := below_step c_w_w6 h7
  have c_w1_w7 := below_step c_w1_w6 h7
  have c_w2_w7 := below_step c_w2_w6 h7
  have c_w3_w7 := below_step c_w3_w6 h7
  have c_w6_w7 := h7
  go_wp2_with fail
  go_ret
  exact ⟨_, _, _, rfl, cyclesO_mono (own_cycles [(⟨1, 0, 5, zeroS⟩, _), (⟨1, 2, 5, []⟩, _), (⟨1, 3, 6, jumpS 8 ++ [⟨22, 8, 2, 0⟩]⟩, _)] ⟨⟨_, (stepsO_below z1 c_w1_w7)⟩, ⟨_, nil_steps _⟩, ⟨_, (stepsO_below s6 c_w6_w7)⟩, trivial⟩ rfl rfl (Nat.le_of_ble_eq_true rfl)) c_w_w7.size, below_al c_w_w7 _⟩
/-- The modes that an instruction may have. -/
def okMode (m : Int) : Prop := m = 0 ∨ m = 1 ∨ m = 2 ∨ m = 3 ∨ m = 4 ∨ m = 5 ∨ m = 6 ∨ m = 7 ∨ m = 8
theorem lead_std (m : Int) (hm : okMode m) (w : World) :
    Calls Try.prog 147 #[.int .i64 m] w fun e w' => ∃ a n c, e = .returned (.slice a n c) ∧ cyclesO w.heap.size w' (.slice a n c) (leadC m) ∧ Below w.heap.size w w' := by
  rcases hm with rfl | rfl | rfl | rfl | rfl | rfl | rfl | rfl | rfl
  · exact lead0_std w
  · exact lead1_std w
  · exact lead2_std w
  · exact lead3_std w
  · exact lead4_std w
  · exact lead5_std w
  · exact lead6_std w
  · exact lead7_std w
  · exact lead8_std w
theorem lead_small (m : Int) (hm : okMode m) : (leadC m).length ≤ 3 := by
  rcases hm with rfl | rfl | rfl | rfl | rfl | rfl | rfl | rfl | rfl <;> decide
theorem operand_small (m : Int) (ss : List St) (hm : okMode m) : (operandC m ss).length ≤ 4 := by
  unfold operandC
  have := lead_small m hm
  split
  · simp
  · simp; omega
set_option maxHeartbeats 4000000 in
theorem operand_std (m : Int) (hm : okMode m) (a : Option Addr) (n c : Nat) (ss : List St) (w : World) {lo : Nat} (h : stepsO lo w (.slice a n c) ss) :
    Calls Try.prog 145 #[.int .i64 m, .slice a n c] w fun e w' => ∃ a n c, e = .returned (.slice a n c) ∧ cyclesO w.heap.size w' (.slice a n c) (operandC m ss) ∧ Below w.heap.size w w' := by
  by_cases h1 : m = 1
  · subst h1
    show Calls _ _ _ w fun e w' => ∃ a n c, e = .returned (.slice a n c) ∧ cyclesO w.heap.size w' (.slice a n c) [⟨1, 0, 5, ss⟩] ∧ Below w.heap.size w w'
    go_enter Try.func145, Try.ntmps145
    go_wp2_with (go_at_call 121; refine (read_std _ _ _ _ _ _).mono ?_)
    rintro e w1 ⟨rfl, h1⟩
    have c_w_w1 := h1
    go_wp2_with fail
    go_ret
    exact ⟨_, _, _, rfl, cyclesO_mono (own_cycles [(⟨1, 0, 5, ss⟩, _)] ⟨⟨_, stepsO_below h c_w_w1⟩, trivial⟩ rfl rfl (Nat.le_of_ble_eq_true rfl)) c_w_w1.size, below_al c_w_w1 _⟩
  · have e : operandC m ss = leadC m ++ [⟨1, 2, 5, ss⟩] := if_neg h1
    have t : (m == 1) = false := by simpa using h1
    rw [e]
    clear e h1
    go_enter Try.func145, Try.ntmps145
    go_wp2_with (go_at_call 147; refine (lead_std m hm _).mono ?_)
    rintro e w1 ⟨a1, n1, k1, rfl, z1, h1⟩
    have c_w_w1 := h1
    go_wp2_with (go_at_call 121; refine (read_std _ _ _ _ _ _).mono ?_)
    rintro e w2 ⟨rfl, h2⟩
    have c_w_w2 := below_step c_w_w1 h2
    have c_w1_w2 := h2
    go_wp2_with (at_builtin; refine wpList_cycles rfl _ _ rfl w.heap.size _ _ _ rfl rfl (leadC m) [⟨1, 2, 5, ss⟩] (cyclesO_below z1 (below_al c_w1_w2 _)) (own_cycles [(⟨1, 2, 5, ss⟩, _)] ⟨⟨_, stepsO_below h c_w_w2⟩, trivial⟩ rfl rfl (Nat.le_of_ble_eq_true rfl)) ?b1 ?b2 ?_)
    case b1 => have := lead_small m hm; simp; omega
    case b2 => exact (show Below w.heap.size w _ from (below_al c_w_w2 _)).size
    intro a3 n3 k3 w3 y h3
    have c_w_w3 := ((below_al c_w_w2 _)).trans ((h3).mono (Nat.le_refl _))
    go_wp2_with fail
    go_ret
    exact ⟨_, _, _, rfl, y, c_w_w3⟩
set_option maxHeartbeats 4000000 in
theorem reset_std (w : World) :
    Calls Try.prog 80 #[] w fun e w' => ∃ a n c, e = .returned (.slice a n c) ∧ cyclesO w.heap.size w' (.slice a n c) resetC ∧ Below w.heap.size w w' := by
  go_enter Try.func80, Try.ntmps80
  go_wp2_with (go_at_call_of 121 (Value.int .i64 10); refine (read_std _ _ _ _ _ _).mono ?_)
  rintro e w1 ⟨rfl, h1⟩
  have c_w_w1 := h1
  go_wp2_with (go_at_call 122; refine (jump_std _ _).mono ?_)
  rintro e w2 ⟨a2, n2, k2, rfl, z2, h2⟩
  have c_w_w2 := below_step c_w_w1 h2
  have c_w1_w2 := h2
  go_wp2_with (go_at_call 124; refine (literal_std _ _ _).mono ?_)
  rintro e w3 ⟨rfl, h3⟩
  have c_w_w3 := below_step c_w_w2 h3
  have c_w1_w3 := below_step c_w1_w2 h3
  have c_w2_w3 := h3
  go_wp2_with (at_builtin; refine wpList_steps rfl _ _ rfl w1.heap.size _ _ _ rfl rfl (jumpS 7) [⟨2, 3, 0, 255⟩] (stepsO_below z2 (below_al c_w2_w3 _)) (own_steps [⟨2, 3, 0, 255⟩] rfl rfl (Nat.le_of_ble_eq_true rfl)) ?b1 ?b2 ?_)
  case b1 => decide
  case b2 => exact (show Below w1.heap.size w1 _ from (below_al c_w1_w3 _)).size
  intro a4 n4 k4 w4 s4 h4
  have c_w_w4 := ((below_al c_w_w3 _)).trans ((h4).mono (c_w_w1.size))
  have c_w1_w4 := ((below_al c_w1_w3 _)).trans ((h4).mono (Nat.le_refl _))
  go_wp2_with (go_at_call_of 121 (Value.int .i64 11); refine (read_std _ _ _ _ _ _).mono ?_)
  rintro e w5 ⟨rfl, h5⟩
  have c_w_w5 := below_step c_w_w4 h5
  have c_w1_w5 := below_step c_w1_w4 h5
  have c_w4_w5 := h5
  go_wp2_with fail
  go_ret
  exact ⟨_, _, _, rfl, cyclesO_mono (own_cycles [(⟨1, 10, 5, []⟩, _), (⟨1, 11, 6, jumpS 7 ++ [⟨2, 3, 0, 255⟩]⟩, _)] ⟨⟨_, nil_steps _⟩, ⟨_, (stepsO_below s4 c_w4_w5)⟩, trivial⟩ rfl rfl (Nat.le_of_ble_eq_true rfl)) c_w_w5.size, below_al c_w_w5 _⟩
set_option maxHeartbeats 4000000 in
theorem interrupt_std (x y : Int) (w : World) :
    Calls Try.prog 81 #[.int .i64 x, .int .i64 y] w fun e w' => ∃ a n c, e = .returned (.slice a n c) ∧ cyclesO w.heap.size w' (.slice a n c) (interruptC x y) ∧ Below w.heap.size w w' := by
  go_enter Try.func81, Try.ntmps81
  go_wp2_with (go_at_call 117; refine (with_std _ _ _ _).mono ?_)
  rintro e w1 ⟨rfl, h1⟩
  have c_w_w1 := h1
  go_wp2_with (go_at_call 116; refine (quiet_std _ _ _ _).mono ?_)
  rintro e w2 ⟨rfl, h2⟩
  have c_w_w2 := below_step (below_al c_w_w1 _) h2
  have c_w1_w2 := below_step (below_laid1 _ _) h2
  have s1 := steps_built h2 [⟨21, 5, 7, 0⟩] rfl rfl (by decide)
  go_wp2_with (go_at_call 117; refine (with_std _ _ _ _).mono ?_)
  rintro e w3 ⟨rfl, h3⟩
  have c_w_w3 := below_step c_w_w2 h3
  have c_w1_w3 := below_step c_w1_w2 h3
  have c_w2_w3 := h3
  go_wp2_with (go_at_call 120; refine (write_std _ _ _ _ _ _).mono ?_)
  rintro e w4 ⟨rfl, h4⟩
  have c_w_w4 := below_step (below_al c_w_w3 _) h4
  have c_w1_w4 := below_step (below_al c_w1_w3 _) h4
  have c_w2_w4 := below_step (below_al c_w2_w3 _) h4
  have c_w3_w4 := below_step (below_laid1 _ _) h4
  have s2 := steps_built h4 [⟨20, 5, 7, 0⟩] rfl rfl (by decide)
  go_wp2_with (go_at_call 120; refine (write_std _ _ _ _ _ _).mono ?_)
  rintro e w5 ⟨rfl, h5⟩
  have c_w_w5 := below_step c_w_w4 h5
  have c_w1_w5 := below_step c_w1_w4 h5
  have c_w2_w5 := below_step c_w2_w4 h5
  have c_w3_w5 := below_step c_w3_w4 h5
  have c_w4_w5 := h5
  go_wp2_with (go_at_call 119; refine (flag_std _ _ _).mono ?_)
  rintro e w6 ⟨rfl, h6⟩
  have c_w_w6 := below_step c_w_w5 h6
  have c_w1_w6 := below_step c_w1_w5 h6
  have c_w2_w6 := below_step c_w2_w5 h6
  have c_w3_w6 := below_step c_w3_w5 h6
  have c_w4_w6 := below_step c_w4_w5 h6
  have c_w5_w6 := h6
  go_wp2_with (go_at_call 120; refine (write_std _ _ _ _ _ _).mono ?_)
  rintro e w7 ⟨rfl, h7⟩
  have c_w_w7 := below_step (below_al c_w_w6 _) h7
  have c_w1_w7 := below_step (below_al c_w1_w6 _) h7
  have c_w2_w7 := below_step (below_al c_w2_w6 _) h7
  have c_w3_w7 := below_step (below_al c_w3_w6 _) h7
  have c_w4_w7 := below_step (below_al c_w4_w6 _) h7
  have c_w5_w7 := below_step (below_al c_w5_w6 _) h7
  have c_w6_w7 := below_step (below_laid1 _ _) h7
  have s3 := steps_built h7 [⟨16, 0, 0, 4⟩] rfl rfl (by decide)
  go_wp2_with (go_at_call 121; refine (read_std _ _ _ _ _ _).mono ?_)
  rintro e w8 ⟨rfl, h8⟩
  have c_w_w8 := below_step c_w_w7 h8
  have c_w1_w8 := below_step c_w1_w7 h8
  have c_w2_w8 := below_step c_w2_w7 h8
  have c_w3_w8 := below_step c_w3_w7 h8
  have c_w4_w8 := below_step c_w4_w7 h8
  have c_w5_w8 := below_step c_w5_w7 h8
  have c_w6_w8 := below_step c_w6_w7 h8
  have c_w7_w8 := h8
  go_wp2_with (go_at_call 122; refine (jump_std _ _).mono ?_)
  rintro e w9 ⟨a9, n9, k9, rfl, z9, h9⟩
  have c_w_w9 := below_step c_w_w8 h9
  have c_w1_w9 := below_step c_w1_w8 h9
  have c_w2_w9 := below_step c_w2_w8 h9
  have c_w3_w9 := below_step c_w3_w8 h9
  have c_w4_w9 := below_step c_w4_w8 h9
  have c_w5_w9 := below_step c_w5_w8 h9
  have c_w6_w9 := below_step c_w6_w8 h9
  have c_w7_w9 := below_step c_w7_w8 h9
  have c_w8_w9 := h9
  go_wp2_with (go_at_call 121; refine (read_std _ _ _ _ _ _).mono ?_)
  rintro e w10 ⟨rfl, h10⟩
  have c_w_w10 := below_step c_w_w9 h10
  have c_w1_w10 := below_step c_w1_w9 h10
  have c_w2_w10 := below_step c_w2_w9 h10
  have c_w3_w10 := below_step c_w3_w9 h10
  have c_w4_w10 := below_step c_w4_w9 h10
  have c_w5_w10 := below_step c_w5_w9 h10
  have c_w6_w10 := below_step c_w6_w9 h10
  have c_w7_w10 := below_step c_w7_w9 h10
  have c_w8_w10 := below_step c_w8_w9 h10
  have c_w9_w10 := h10
  go_wp2_with fail
  go_ret
  exact ⟨_, _, _, rfl, cyclesO_mono (own_cycles [(⟨0, 0, 0, [⟨21, 5, 7, 0⟩]⟩, _), (⟨2, 4, 5, [⟨20, 5, 7, 0⟩]⟩, _), (⟨2, 4, 5, []⟩, _), (⟨2, 4, 4, [⟨16, 0, 0, 4⟩]⟩, _), (⟨1, x, 5, []⟩, _), (⟨1, y, 6, jumpS 7⟩, _)] ⟨⟨_, (stepsO_below s1 c_w2_w10)⟩, ⟨_, (stepsO_below s2 c_w4_w10)⟩, ⟨_, nil_steps _⟩, ⟨_, (stepsO_below s3 c_w7_w10)⟩, ⟨_, nil_steps _⟩, ⟨_, (stepsO_below z9 c_w9_w10)⟩, trivial⟩ rfl rfl (Nat.le_of_ble_eq_true rfl)) c_w_w10.size, below_al c_w_w10 _⟩
end Go.Proofs.Ytdiajkgebicnnaa
