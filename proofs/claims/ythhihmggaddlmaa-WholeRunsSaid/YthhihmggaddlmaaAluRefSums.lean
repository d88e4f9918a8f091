/- Contract of the reference's function sums: it looks the carry up in a small map. -/
import Derived.Test.YthhihmggaddlmaaAluPure
import Derived.Test.YthhihmggaddlmaaAluRef
import Derived.Test.YthhihmggaddlmaaChecked
import Derived.Below
import Derived.BigQuiet
import Derived.Carry
import Derived.Deep.CutBlock
import Derived.Deep.DeepCutAuto
import Derived.Deep.Draws
import Derived.Deep.MidRow
import Derived.Deep.OwnRows
import Derived.Deep.QuietTactic
import Derived.Deep.RegionHeld3
import Derived.Deep.RegionLaw
import Derived.Deep.RegionWith
import Derived.Deep.WholeRow
import Derived.Lib.Hide
import Derived.Maps.Keyed
import Derived.Maps.Own
import Derived.Maps.OwnOps
import Derived.OrdersHeld
import Derived.OwnWalk
import Derived.RowKit3
import Derived.StillTactics
import Derived.StillTail
import Derived.StillTailTactics
import Derived.WalkKit
namespace Go.Proofs.Ythhihmggaddlmaa
set_option maxRecDepth 100000
open Go.RowKit Go.Maps

theorem wpList_insert_own {H : Type} {P : Program} (w : World) {ops : Array Oper} {rest : List Oper} {o : Oper} {a : Act} {Q : Exit → Act → World → Prop}
    (hg : o.guard = none) (m x v : Operand) (t : TypeId) (hop : o.op = Op.insert t m x v)
    (k e : TypeId) (K : Keyed P k) (ht : P.underlying t = some (.map k e)) (R : Value → Option (DataW H × List MemPlace)) (b n : Nat) (D : DataW H)
    (hm : a.eval m = .map (some b)) (hown : w.ownsMap P k R b n D) (hn : n < maxLen) (key val : Value) (kl : Lit) (hx : a.eval x = key) (hv : a.eval v = val) (hkey : keyOf P k key = some kl)
    (d : DataW H) (ps : List MemPlace) (hval : R val = some (d, ps))
    (hK : ∀ w', w'.ownsMap P k R b (n + 1) (D.put kl d) → w.grownBy w' (some b) → wpList P ops Q rest (a.put o.dst undef) w') :
    wpList P ops Q (o :: rest) a w := by
  refine wpList_plain hg fun K' hK' => ?_
  obtain ⟨w', hrun, r1, r2⟩ := hown.update K ht hn hkey hval
  unfold Oper.wp
  simp [execOp, hop, hm, hx, hv, hrun, Result.andThen]
  exact hK' _ _ (hK w' r1 r2)

def oneD : DataW Unit := (DataW.map []).put (.bool true) (.lit (.int .i64 1))
theorem oneD_true {c : Int} (h : oneD.atKey (.bool true) (.lit (.int .i64 0)) = .lit (.int .i64 c)) : c = 1 := by
  have e : oneD.atKey (.bool true) (.lit (.int .i64 0)) = .lit (.int .i64 1) := rfl
  rw [e] at h
  cases h; rfl
theorem oneD_false {c : Int} (h : oneD.atKey (.bool false) (.lit (.int .i64 0)) = .lit (.int .i64 c)) : c = 0 := by
  have e : oneD.atKey (.bool false) (.lit (.int .i64 0)) = .lit (.int .i64 0) := rfl
  rw [e] at h
  cases h; rfl
theorem grown_belowA {w w' : World} {b : Nat} (h : w.grownBy w' (some b)) {w0 : World} (h0 : Below w0.heap.size w0 w) (hb : w0.heap.size ≤ b) : Below w0.heap.size w0 w' :=
  ⟨h.os.trans h0.os, h.tape.trans h0.tape, h.output.trans h0.output, Nat.le_trans h0.size h.size, fun k hk => (h.block k (Nat.lt_of_lt_of_le hk h0.size) (fun e => by cases e; omega)).trans (h0.block k hk)⟩

theorem sums4Ref_any (a b c : Int) (ha : 0 ≤ a ∧ a < 256) (hb : 0 ≤ b ∧ b < 256) (hc : c = 0 ∨ c = 1) (w : World) :
    Calls Try.prog 85 #[.int .i64 4, .int .i64 a, .int .i64 b, .int .i64 c] w fun e w' => e = .returned (.tuple #[.int .i64 (sumN 4 a b c), .int .i64 (sumC 4 a b c)]) ∧ Below w.heap.size w w' := by
  have e1 : sumN 4 a b c = (a + b + c) % 256 := by show lo (addS a b c 8) 8 = _; unfold addS; simp only [lo8_eq]; omega
  have e2 : sumC 4 a b c = (a + b + c) / 256 := by show addS a b c 8 / 256 = _; unfold addS; simp only [lo8_eq]; omega
  rw [e1, e2]
  go_enter Try.func85, Try.ntmps85
  go_wp2
  go_ret2
  exact ⟨rfl, Below.refl _ _⟩

set_option maxHeartbeats 1000000 in
theorem sums5Ref_any (a b c : Int) (ha : 0 ≤ a ∧ a < 256) (hb : 0 ≤ b ∧ b < 256) (hc : c = 0 ∨ c = 1) (w : World) :
    Calls Try.prog 85 #[.int .i64 5, .int .i64 a, .int .i64 b, .int .i64 c] w fun e w' => e = .returned (.tuple #[.int .i64 (sumN 5 a b c), .int .i64 (sumC 5 a b c)]) ∧ Below w.heap.size w w' := by
  obtain ⟨n, hn⟩ : ∃ n, n = a - b - (1 - c) := ⟨_, rfl⟩
  have e0 : subS a b (1 - c) 8 = n := by unfold subS; simp only [lo8_eq]; omega
  have e1 : sumN 5 a b c = n % 256 := by show lo (subS a b (1 - c) 8) 8 = _; rw [e0]; rfl
  have e2 : sumC 5 a b c = if 0 ≤ n then 1 else 0 := by
    show 1 - subC a b (1 - c) 8 = _
    unfold subC
    rw [e0]
    by_cases h : 0 ≤ n
    · rw [if_pos h, if_neg (by omega)]; rfl
    · rw [if_neg h, if_pos (by omega)]; rfl
  rw [e1, e2]
  obtain ⟨r, hr⟩ : ∃ r : Int, r = if 0 ≤ n then 1 else 0 := ⟨_, rfl⟩
  rw [← hr]
  have HR := Lib.hid hr
  have Hn := Lib.hid hn
  have hmm := @run_makeMap Try.prog
  have hnb : -257 ≤ n ∧ n ≤ 256 := by omega
  clear e0 e1 e2 hn hr
  go_enter Try.func85, Try.ntmps85
  go_upto_region 7 with (fail)
  rw [← Hn.out]
  have hB := (Below.refl w.heap.size w).drew
  refine wp_region_mix (fun _ => True) [(0, 1), (1, 1), (5, 1), (6, 1), (8, 1), (2, 3), (3, 3), (4, 0), (7, 3), (9, 0)] (by kernel_rfl) (by kernel_rfl) (fun _ _ _ _ _ h => h) ?_
  simp only [List.map_cons, List.map_nil, opOf, List.getD_cons_zero, List.getD_cons_succ]
  change wpMix _ _ _ _ _ _ w.drew
  have hM := World.ownsMap_made (H := Unit) w.drew Try.prog 4 (plainElem (H := Unit) Try.prog 3)
  generalize w.drew = w1 at *
  refine wpMix_held (.int .i64 n) rfl trivial (fun w' _ => by go_simp) ?_
  simp only [Act.put, List.setIfInBounds_toArray, List.set_cons_zero, List.set_cons_succ]
  refine wpMix_heldCall (.int .i64 (n % 256)) rfl trivial 14 #[.int .i64 n, .int .i64 256] (fun w' _ => by go_simp) (fun w' _ => (modRef_any n 256 (.inl rfl) w').mono fun _ _ ⟨h, g⟩ => ⟨h, g.symm⟩) ?_
  simp only [Act.put, List.setIfInBounds_toArray, List.set_cons_zero, List.set_cons_succ]
  refine wpMix_held (.int .i64 n) rfl trivial (fun w' _ => by go_simp) ?_
  simp only [Act.put, List.setIfInBounds_toArray, List.set_cons_zero, List.set_cons_succ]
  refine wpMix_held (.bool (decide (0 ≤ n))) rfl trivial (fun w' _ => by go_simp) ?_
  simp only [Act.put, List.setIfInBounds_toArray, List.set_cons_zero, List.set_cons_succ]
  refine wpMix_held (.int .i64 (n % 256)) rfl trivial (fun w' _ => by go_simp) ?_
  simp only [Act.put, List.setIfInBounds_toArray, List.set_cons_zero, List.set_cons_succ]
  refine wpMix_call ?_
  go_wp2_with fail
  refine ⟨fun _ => trivial, ?_⟩
  have hs1 : w.heap.size ≤ w1.heap.size := hB.size
  have hB2 := hB.alloc hs1 (.map #[] 0)
  refine wpMix_call ?_
  refine wpList_insert_own _ rfl _ _ _ 137 rfl 4 3 (bool_keyed Try.underlying4) Try.underlying137 (plainElem (H := Unit) Try.prog 3) w1.heap.size 0 _ rfl hM (by decide) _ _ _ rfl rfl (keyOf_bool_mk Try.underlying4 true) _ [] (plainElem_int Try.underlying3 (by decide)) ?_
  intro w2 hM2 hg2
  have hB3 := grown_belowA hg2 hB2 hs1
  go_wp2_with fail
  refine ⟨fun _ => trivial, ?_⟩
  (refine wpMix_still (fun K hK => ?_); go_simp; refine hK _ ?_; clear hK K)
  refine wpMix_call ?_
  by_cases hx : 0 ≤ n
  · have hx1 : decide (0 ≤ n) = true := by simpa using hx
    simp only [hx1]
    have Hx := Lib.hid hx
    clear hx hx1
    refine wpList_lookup_own_int _ rfl _ _ 137 rfl 4 3 .i64 (bool_keyed Try.underlying4) Try.underlying137 Try.underlying3 (Try.zeroValue3 _) w1.heap.size 1 _ rfl hM2 _ _ rfl (keyOf_bool_mk Try.underlying4 _) ?_
    intro c' hat _
    obtain rfl := oneD_true hat
    refine And.intro (fun _ => trivial) ?_
    (refine wpMix_still (fun K hK => ?_); go_simp; refine hK _ ?_; clear hK K)
    refine wpMix_nil ?_
    go_wp2_with fail
    go_ret2
    exact ⟨by rw [HR.out, if_pos (by have := Hx.out; omega)]; rfl, hB3⟩
  · have hx1 : decide (0 ≤ n) = false := by simpa using hx
    simp only [hx1]
    have Hx := Lib.hid hx
    clear hx hx1
    refine wpList_lookup_own_int _ rfl _ _ 137 rfl 4 3 .i64 (bool_keyed Try.underlying4) Try.underlying137 Try.underlying3 (Try.zeroValue3 _) w1.heap.size 1 _ rfl hM2 _ _ rfl (keyOf_bool_mk Try.underlying4 _) ?_
    intro c' hat _
    obtain rfl := oneD_false hat
    refine And.intro (fun _ => trivial) ?_
    (refine wpMix_still (fun K hK => ?_); go_simp; refine hK _ ?_; clear hK K)
    refine wpMix_nil ?_
    go_wp2_with fail
    go_ret2
    exact ⟨by rw [HR.out, if_neg (by have := Hx.out; omega)]; rfl, hB3⟩

set_option maxHeartbeats 1000000 in
theorem sums6Ref_any (a b c : Int) (ha : 0 ≤ a ∧ a < 256) (hb : 0 ≤ b ∧ b < 256) (w : World) :
    Calls Try.prog 85 #[.int .i64 6, .int .i64 a, .int .i64 b, .int .i64 c] w fun e w' => e = .returned (.tuple #[.int .i64 (sumN 6 a b c), .int .i64 (sumC 6 a b c)]) ∧ Below w.heap.size w w' := by
  obtain ⟨n, hn⟩ : ∃ n, n = a - b := ⟨_, rfl⟩
  have e0 : subS a b 0 8 = n := by unfold subS; simp only [lo8_eq]; omega
  have e1 : sumN 6 a b c = n % 256 := by show lo (subS a b 0 8) 8 = _; rw [e0]; rfl
  rw [e1, cmp_c ha hb]
  obtain ⟨r, hr⟩ : ∃ r : Int, r = if b ≤ a then 1 else 0 := ⟨_, rfl⟩
  rw [← hr]
  have HR := Lib.hid hr
  have hw : IntKind.i64.wrap (a - b) = n := by rw [hn]; exact IntWalk.i64_in _ (by omega)
  have hmm := @run_makeMap Try.prog
  clear e0 e1 hn hr
  go_enter Try.func85, Try.ntmps85
  go_upto_region 8 with (fail)
  have hB := (Below.refl w.heap.size w).drew
  refine wp_region_mix (fun _ => True) [(0, 1), (1, 1), (2, 1), (3, 1), (7, 1), (8, 1), (9, 1), (11, 1), (4, 3), (5, 3), (6, 0), (10, 3), (12, 0)] (by kernel_rfl) (by kernel_rfl) (fun _ _ _ _ _ h => h) ?_
  simp only [List.map_cons, List.map_nil, opOf, List.getD_cons_zero, List.getD_cons_succ]
  change wpMix _ _ _ _ _ _ w.drew
  have hM := World.ownsMap_made (H := Unit) w.drew Try.prog 4 (plainElem (H := Unit) Try.prog 3)
  generalize w.drew = w1 at *
  refine wpMix_held (.int .i64 a) rfl trivial (fun w' _ => by go_simp) ?_
  simp only [Act.put, List.setIfInBounds_toArray, List.set_cons_zero, List.set_cons_succ]
  refine wpMix_held (.int .i64 b) rfl trivial (fun w' _ => by go_simp) ?_
  simp only [Act.put, List.setIfInBounds_toArray, List.set_cons_zero, List.set_cons_succ]
  refine wpMix_held (.int .i64 n) rfl trivial (fun w' _ => by go_simp) ?_
  simp only [Act.put, List.setIfInBounds_toArray, List.set_cons_zero, List.set_cons_succ]
  refine wpMix_heldCall (.int .i64 (n % 256)) rfl trivial 14 #[.int .i64 n, .int .i64 256] (fun w' _ => by go_simp) (fun w' _ => (modRef_any n 256 (.inl rfl) w').mono fun _ _ ⟨h, g⟩ => ⟨h, g.symm⟩) ?_
  simp only [Act.put, List.setIfInBounds_toArray, List.set_cons_zero, List.set_cons_succ]
  refine wpMix_held (.int .i64 a) rfl trivial (fun w' _ => by go_simp) ?_
  simp only [Act.put, List.setIfInBounds_toArray, List.set_cons_zero, List.set_cons_succ]
  refine wpMix_held (.int .i64 b) rfl trivial (fun w' _ => by go_simp) ?_
  simp only [Act.put, List.setIfInBounds_toArray, List.set_cons_zero, List.set_cons_succ]
  refine wpMix_held (.bool (decide (b ≤ a))) rfl trivial (fun w' _ => by go_simp) ?_
  simp only [Act.put, List.setIfInBounds_toArray, List.set_cons_zero, List.set_cons_succ]
  refine wpMix_held (.int .i64 (n % 256)) rfl trivial (fun w' _ => by go_simp) ?_
  simp only [Act.put, List.setIfInBounds_toArray, List.set_cons_zero, List.set_cons_succ]
  refine wpMix_call ?_
  go_wp2_with fail
  refine ⟨fun _ => trivial, ?_⟩
  have hs1 : w.heap.size ≤ w1.heap.size := hB.size
  have hB2 := hB.alloc hs1 (.map #[] 0)
  refine wpMix_call ?_
  refine wpList_insert_own _ rfl _ _ _ 137 rfl 4 3 (bool_keyed Try.underlying4) Try.underlying137 (plainElem (H := Unit) Try.prog 3) w1.heap.size 0 _ rfl hM (by decide) _ _ _ rfl rfl (keyOf_bool_mk Try.underlying4 true) _ [] (plainElem_int Try.underlying3 (by decide)) ?_
  intro w2 hM2 hg2
  have hB3 := grown_belowA hg2 hB2 hs1
  go_wp2_with fail
  refine ⟨fun _ => trivial, ?_⟩
  (refine wpMix_still (fun K hK => ?_); go_simp; refine hK _ ?_; clear hK K)
  refine wpMix_call ?_
  by_cases hx : b ≤ a
  · have hx1 : decide (b ≤ a) = true := by simpa using hx
    simp only [hx1]
    have Hx := Lib.hid hx
    clear hx hx1
    refine wpList_lookup_own_int _ rfl _ _ 137 rfl 4 3 .i64 (bool_keyed Try.underlying4) Try.underlying137 Try.underlying3 (Try.zeroValue3 _) w1.heap.size 1 _ rfl hM2 _ _ rfl (keyOf_bool_mk Try.underlying4 _) ?_
    intro c' hat _
    obtain rfl := oneD_true hat
    refine And.intro (fun _ => trivial) ?_
    (refine wpMix_still (fun K hK => ?_); go_simp; refine hK _ ?_; clear hK K)
    refine wpMix_nil ?_
    go_wp2_with fail
    go_ret2
    exact ⟨by rw [HR.out, if_pos (by have := Hx.out; omega)]; rfl, hB3⟩
  · have hx1 : decide (b ≤ a) = false := by simpa using hx
    simp only [hx1]
    have Hx := Lib.hid hx
    clear hx hx1
    refine wpList_lookup_own_int _ rfl _ _ 137 rfl 4 3 .i64 (bool_keyed Try.underlying4) Try.underlying137 Try.underlying3 (Try.zeroValue3 _) w1.heap.size 1 _ rfl hM2 _ _ rfl (keyOf_bool_mk Try.underlying4 _) ?_
    intro c' hat _
    obtain rfl := oneD_false hat
    refine And.intro (fun _ => trivial) ?_
    (refine wpMix_still (fun K hK => ?_); go_simp; refine hK _ ?_; clear hK K)
    refine wpMix_nil ?_
    go_wp2_with fail
    go_ret2
    exact ⟨by rw [HR.out, if_neg (by have := Hx.out; omega)]; rfl, hB3⟩
end Go.Proofs.Ythhihmggaddlmaa
