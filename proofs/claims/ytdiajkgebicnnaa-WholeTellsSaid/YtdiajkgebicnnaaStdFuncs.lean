/- The contracts of package std's closures. -/
import Derived.Test.YtdiajkgebicnnaaChecked
import Derived.Test.YtdiajkgebicnnaaLin
import Derived.Test.YtdiajkgebicnnaaStdLead
import Derived.Below
import Derived.BigQuiet
import Derived.ChangeMaps5
import Derived.Deep.DeepAppendWide
import Derived.Deep.DeepCutAuto
import Derived.Deep.Draws
import Derived.Deep.MidRow
import Derived.Deep.OwnRows
import Derived.Deep.QuietTactic
import Derived.Deep.RegionWith
import Derived.Deep.Slices
import Derived.Deep.WholeRow
import Derived.Laws.OwnMore
import Derived.Lib.Hide
import Derived.Lib.SmallJoins
import Derived.OpenShut
import Derived.OrdersHeld
import Derived.OwnWalk
import Derived.RowKit3
import Derived.StillTactics
import Derived.StillTail
import Derived.WalkKit
namespace Go.Proofs.Ytdiajkgebicnnaa
open Go.RowKit
set_option maxRecDepth 100000

theorem cell_below {w w' : World} {g : Nat} {t : TypeId} {cs : Array Value} (h : rowB w g t cs) (hb : Below w.heap.size w w') : rowB w' g t cs := rowB_below h hb (rowB_lt h)
theorem cell0 {w : World} {g : Nat} {t : TypeId} {v : Value} (h : rowB w g t #[v]) : w.cell? ⟨g, 0, none⟩ = some v := rowB_cell h 0 rfl
set_option maxHeartbeats 4000000 in
theorem loadF_std (r m : Int) (hm : okMode m) (g : Nat) (w : World) (hg : rowB w g 3 #[.int .i64 r]) :
    Calls Try.prog 144 #[.int .i64 m, .pointer (some ⟨g, 0, none⟩)] w fun e w' => ∃ a n c, e = .returned (.slice a n c) ∧ cyclesO w.heap.size w' (.slice a n c) (loadC r m) ∧ Below w.heap.size w w' := by
  go_enter Try.func144, Try.ntmps144
  go_upto_region 1 with (fail)
  refine wp_region_mix (fun w' => w'.cell? ⟨g, 0, none⟩ = some (.int .i64 r)) [(0, 1), (1, 0), (3, 1), (2, 3), (4, 3), (5, 3), (6, 2), (7, 0)] (by kernel_rfl) (by kernel_rfl) (fun _ _ _ _ _ h => h) ?_
  simp only [List.map_cons, List.map_nil, opOf, List.getD_cons_zero, List.getD_cons_succ]
  change wpMix _ _ _ _ _ _ w.drew
  have c_w_v : Below w.heap.size w w.drew := (Below.refl _ _).drew
  have hg' : rowB w.drew g 3 #[.int .i64 r] := hg
  have hc := cell0 hg'
  clear hg
  generalize w.drew = v at *
  refine wpMix_held (.int .i64 m) rfl hc (fun w' hw' => by go_simp) ?_
  simp only [Act.put, List.setIfInBounds_toArray, List.set_cons_zero, List.set_cons_succ]
  refine wpMix_still (fun K hK => ?_)
  go_simp
  refine hK _ ?_
  clear hK K
  refine wpMix_held (.int .i64 r) rfl hc (fun w' hw' => by go_simp) ?_
  simp only [Act.put, List.setIfInBounds_toArray, List.set_cons_zero, List.set_cons_succ]
  refine wpMix_call ?_
  go_wp2_with (go_at_call 117; refine (with_std _ _ _ _).mono ?_; rintro e w1 ⟨rfl, h1⟩)
  refine ⟨fun _ => cell0 (cell_below hg' h1), ?_⟩
  refine wpMix_call ?_
  go_wp2_with (go_at_call 118; refine (on_std _ _ _).mono ?_; rintro e w2 ⟨rfl, h2⟩)
  refine ⟨fun _ => cell0 (cell_below (cell_below hg' h1) h2), ?_⟩
  have c_w_w2 := below_step (below_step c_w_v h1) h2
  refine wpMix_call ?_
  go_wp2_with fail
  first | refine ⟨fun _ => cell0 (cell_below (cell_below (cell_below hg' h1) h2) (below_laid1 _ _)), ?_⟩ | skip
  refine wpMix_call ?_
  go_wp2_with (go_at_call 145; refine (operand_std m hm _ _ _ [⟨1, r, 5, 0⟩, ⟨3, r, 0, 0⟩] _ (own_steps (w := w2) (cells := #[.int .i64 1, .int .i64 r, .int .i64 5, .int .i64 0, .int .i64 3, .int .i64 r, .int .i64 0, .int .i64 0]) _ rfl rfl (Nat.le_of_ble_eq_true rfl))).mono ?_; rintro e w3 ⟨a3, n3, k3, rfl, z3, h3⟩)
  try refine ⟨fun h => (by cases h), ?_⟩
  refine wpMix_still (fun K hK => ?_)
  go_simp
  refine hK _ ?_
  clear hK K
  refine wpMix_nil ?_
  go_wp2_with fail
  go_ret
  have c := below_step (below_al c_w_w2 _) h3
  exact ⟨_, _, _, rfl, cyclesO_mono z3 (below_al c_w_w2 _).size, c⟩
set_option maxHeartbeats 4000000 in
theorem storeF_std (r m : Int) (hm : okMode m) (g : Nat) (w : World) (hg : rowB w g 3 #[.int .i64 r]) :
    Calls Try.prog 146 #[.int .i64 m, .pointer (some ⟨g, 0, none⟩)] w fun e w' => ∃ a n c, e = .returned (.slice a n c) ∧ cyclesO w.heap.size w' (.slice a n c) (storeC r m) ∧ Below w.heap.size w w' := by
  go_enter Try.func146, Try.ntmps146
  go_upto_region 1 with (fail)
  refine wp_region_mix (fun w' => w'.cell? ⟨g, 0, none⟩ = some (.int .i64 r)) [(0, 0), (2, 1), (1, 3), (3, 2), (4, 2), (5, 2), (6, 0)] (by kernel_rfl) (by kernel_rfl) (fun _ _ _ _ _ h => h) ?_
  simp only [List.map_cons, List.map_nil, opOf, List.getD_cons_zero, List.getD_cons_succ]
  change wpMix _ _ _ _ _ _ w.drew
  have c_w_v : Below w.heap.size w w.drew := (Below.refl _ _).drew
  have hg' : rowB w.drew g 3 #[.int .i64 r] := hg
  have hc := cell0 hg'
  clear hg
  generalize w.drew = v at *
  refine wpMix_still (fun K hK => ?_)
  go_simp
  refine hK _ ?_
  clear hK K
  refine wpMix_held (.int .i64 r) rfl hc (fun w' hw' => by go_simp) ?_
  simp only [Act.put, List.setIfInBounds_toArray, List.set_cons_zero, List.set_cons_succ]
  refine wpMix_call ?_
  go_wp2_with (go_at_call 147; refine (lead_std m hm _).mono ?_; rintro e w1 ⟨a1, n1, k1, rfl, z1, h1⟩)
  refine ⟨fun _ => cell0 (cell_below hg' h1), ?_⟩
  have c_w_w1 := below_step c_w_v h1
  refine wpMix_call ?_
  go_wp2_with (go_at_call 120; refine (write_std _ _ _ _ _ _).mono ?_; rintro e w2 ⟨rfl, h2⟩)
  refine ⟨fun h => (by cases h), ?_⟩
  have c_w_w2 := below_step c_w_w1 h2
  refine wpMix_call ?_
  go_wp2_with fail
  try refine ⟨fun h => (by cases h), ?_⟩
  have y0 := cyclesO_below z1 (below_al h2 (.cells #[.int .i64 2, .int .i64 2, .int .i64 r, .slice none 0 0] 84))
  have y1 := own_cycles (w := w2) (cells := #[.int .i64 2, .int .i64 2, .int .i64 r, .slice none 0 0]) [(⟨2, 2, r, []⟩, .slice none 0 0)] ⟨⟨_, nil_steps _⟩, trivial⟩ rfl rfl (Nat.le_of_ble_eq_true rfl)
  refine wpMix_call ?_
  go_wp2_with (at_builtin; refine wpList_cycles rfl _ _ rfl v.heap.size _ _ _ rfl rfl (leadC m) [⟨2, 2, r, []⟩] y0 y1 ?b1 ?b2 ?_)
  case b1 => have := lead_small m hm; simp; omega
  case b2 => exact (below_al (below_step h1 h2) _).size
  intro a3 n3 k3 w3 y h3
  go_wp2_with fail
  try refine ⟨fun h => (by cases h), ?_⟩
  refine wpMix_still (fun K hK => ?_)
  go_simp
  refine hK _ ?_
  clear hK K
  refine wpMix_nil ?_
  go_wp2_with fail
  go_ret
  exact ⟨_, _, _, rfl, cyclesO_mono y c_w_v.size, (below_al c_w_w2 _).trans (h3.mono c_w_v.size)⟩
set_option maxHeartbeats 4000000 in
theorem combineF_std (d r m : Int) (hm : okMode m) (g1 g2 : Nat) (w : World) (hg1 : rowB w g1 3 #[.int .i64 d]) (hg2 : rowB w g2 3 #[.int .i64 r]) :
    Calls Try.prog 148 #[.int .i64 m, .pointer (some ⟨g1, 0, none⟩), .pointer (some ⟨g2, 0, none⟩)] w fun e w' => ∃ a n c, e = .returned (.slice a n c) ∧ cyclesO w.heap.size w' (.slice a n c) (combineC d r m) ∧ Below w.heap.size w w' := by
  have hc1 := cell0 hg1
  have hc2 := cell0 hg2
  go_enter Try.func148, Try.ntmps148
  go_wp2_with (go_at_call 117; refine (with_std _ _ _ _).mono ?_)
  rintro e w1 ⟨rfl, h1⟩
  have c_w_w1 := h1
  have s := own_steps (w := w1) (cells := #[.int .i64 d, .int .i64 r, .int .i64 5, .int .i64 0]) [⟨d, r, 5, 0⟩] rfl rfl (Nat.le_of_ble_eq_true rfl)
  go_wp2_with (go_at_call 145; refine (operand_std m hm _ _ _ [⟨d, r, 5, 0⟩] _ s).mono ?_; rintro e w2 ⟨a2, n2, k2, rfl, z2, h2⟩)
  go_wp2_with fail
  go_ret
  exact ⟨_, _, _, rfl, cyclesO_mono z2 (below_al h1 _).size, below_step (below_al h1 _) h2⟩
set_option maxHeartbeats 4000000 in
theorem changeF_std (d m : Int) (hm : okMode m) (g : Nat) (w : World) (hg : rowB w g 3 #[.int .i64 d]) :
    Calls Try.prog 149 #[.int .i64 m, .pointer (some ⟨g, 0, none⟩)] w fun e w' => ∃ a n c, e = .returned (.slice a n c) ∧ cyclesO w.heap.size w' (.slice a n c) (changeC d m) ∧ Below w.heap.size w w' := by
  have hc := cell0 hg
  by_cases h0 : m = 0
  · subst h0
    show Calls _ _ _ w fun e w' => ∃ a n c, e = .returned (.slice a n c) ∧ cyclesO w.heap.size w' (.slice a n c) [⟨0, 0, 0, [⟨d, 0, 0, 0⟩]⟩] ∧ Below w.heap.size w w'
    go_enter Try.func149, Try.ntmps149
    go_wp2_with (go_at_call 118; refine (on_std _ _ _).mono ?_)
    rintro e w1 ⟨rfl, h1⟩
    have c_w_w1 := h1
    go_wp2_with (go_at_call 116; refine (quiet_std _ _ _ _).mono ?_)
    rintro e w2 ⟨rfl, h2⟩
    have c_w_w2 := below_step (below_al c_w_w1 _) h2
    have c_w1_w2 := below_step (below_laid1 _ _) h2
    have s := steps_built h2 [⟨d, 0, 0, 0⟩] rfl rfl (Nat.le_of_ble_eq_true rfl)
    go_wp2_with fail
    go_ret
    exact ⟨_, _, _, rfl, cyclesO_mono (own_cycles [(⟨0, 0, 0, [⟨d, 0, 0, 0⟩]⟩, _)] ⟨⟨_, s⟩, trivial⟩ rfl rfl (Nat.le_of_ble_eq_true rfl)) c_w_w2.size, below_al c_w_w2 _⟩
  · have e : changeC d m = operandC m [⟨d, 5, 0, 0⟩] ++ [⟨2, 2, 5, []⟩] := if_neg h0
    have t : (m == 0) = false := by simpa using h0
    have hs := operand_small m [⟨d, 5, 0, 0⟩] hm
    rw [e]
    clear e h0
    go_enter Try.func149, Try.ntmps149
    go_wp2_with (go_at_call 118; refine (on_std _ _ _).mono ?_)
    rintro e w1 ⟨rfl, h1⟩
    have s := own_steps (w := w1) (cells := #[.int .i64 d, .int .i64 5, .int .i64 0, .int .i64 0]) [⟨d, 5, 0, 0⟩] rfl rfl (Nat.le_of_ble_eq_true rfl)
    go_wp2_with (go_at_call 145; refine (operand_std m hm _ _ _ [⟨d, 5, 0, 0⟩] _ s).mono ?_)
    rintro e w2 ⟨a2, n2, k2, rfl, z2, h2⟩
    have c2 := below_step (below_al h1 _) h2
    go_wp2_with (go_at_call 120; refine (write_std _ _ _ _ _ _).mono ?_)
    rintro e w3 ⟨rfl, h3⟩
    have c3 := below_step c2 h3
    have y0 := cyclesO_below z2 (below_al h3 (.cells #[.int .i64 2, .int .i64 2, .int .i64 5, .slice none 0 0] 84))
    have y1 := own_cycles (w := w3) (cells := #[.int .i64 2, .int .i64 2, .int .i64 5, .slice none 0 0]) [(⟨2, 2, 5, []⟩, .slice none 0 0)] ⟨⟨_, nil_steps _⟩, trivial⟩ rfl rfl (Nat.le_of_ble_eq_true rfl)
    go_wp2_with (at_builtin; refine wpList_cycles rfl _ _ rfl _ _ _ _ rfl rfl (operandC m [⟨d, 5, 0, 0⟩]) [⟨2, 2, 5, []⟩] (cyclesO_mono y0 (below_al h1 _).size) y1 ?b1 ?b2 ?_)
    case b1 => simp at hs ⊢; omega
    case b2 => exact (below_al c3 _).size
    intro a4 n4 k4 w4 y h4
    go_wp2_with fail
    go_ret
    exact ⟨_, _, _, rfl, y, (below_al c3 _).trans h4⟩
theorem plainF_std (m : Int) (g : Nat) (a : Option Addr) (n c : Nat) (w : World) (hg : rowB w g 68 #[.slice a n c]) :
    Calls Try.prog 150 #[.int .i64 m, .pointer (some ⟨g, 0, none⟩)] w fun e w' => e = .returned (.slice a n c) ∧ w' = w := by
  have hc := cell0 hg
  go_enter Try.func150, Try.ntmps150
  go_wp2
  go_ret
  exact ⟨rfl, rfl⟩
theorem load_std (r : Int) (w : World) : Calls Try.prog 109 #[.int .i64 r] w fun e w' => e = .returned (.func (.func 144) #[] #[.pointer (some ⟨w.heap.size, 0, none⟩)]) ∧ w' = w.alloc (.cells #[.int .i64 r] 3) := by
  go_enter Try.func109, Try.ntmps109
  go_wp2
  go_ret
  exact ⟨rfl, rfl⟩
theorem store_std (r : Int) (w : World) : Calls Try.prog 110 #[.int .i64 r] w fun e w' => e = .returned (.func (.func 146) #[] #[.pointer (some ⟨w.heap.size, 0, none⟩)]) ∧ w' = w.alloc (.cells #[.int .i64 r] 3) := by
  go_enter Try.func110, Try.ntmps110
  go_wp2
  go_ret
  exact ⟨rfl, rfl⟩
theorem change_std (r : Int) (w : World) : Calls Try.prog 113 #[.int .i64 r] w fun e w' => e = .returned (.func (.func 149) #[] #[.pointer (some ⟨w.heap.size, 0, none⟩)]) ∧ w' = w.alloc (.cells #[.int .i64 r] 3) := by
  go_enter Try.func113, Try.ntmps113
  go_wp2
  go_ret
  exact ⟨rfl, rfl⟩
theorem combine_std (d r : Int) (w : World) : Calls Try.prog 112 #[.int .i64 d, .int .i64 r] w fun e w' => e = .returned (.func (.func 148) #[] #[.pointer (some ⟨w.heap.size, 0, none⟩), .pointer (some ⟨w.heap.size + 1, 0, none⟩)]) ∧ w' = (w.alloc (.cells #[.int .i64 d] 3)).alloc (.cells #[.int .i64 r] 3) := by
  go_enter Try.func112, Try.ntmps112
  go_wp2
  go_ret
  exact ⟨rfl, rfl⟩
end Go.Proofs.Ytdiajkgebicnnaa
