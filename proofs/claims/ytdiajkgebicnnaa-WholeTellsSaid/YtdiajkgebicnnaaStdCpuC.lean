/- The contract of package std's Cpu. -/
import Derived.Test.YtdiajkgebicnnaaChecked
import Derived.Test.YtdiajkgebicnnaaRegs
import Derived.Test.YtdiajkgebicnnaaStdMeth
import Derived.Test.YtdiajkgebicnnaaTabArg
import Derived.Below
import Derived.BigQuiet
import Derived.ChangeMaps5
import Derived.Deep.DeepAppendWide
import Derived.Deep.DeepCutAuto
import Derived.Deep.Draws
import Derived.Deep.MidRow
import Derived.Deep.OwnRows
import Derived.Deep.QuietTactic
import Derived.Deep.RegionWith
import Derived.Deep.Slices
import Derived.Deep.WholeRow
import Derived.Laws.OwnMore
import Derived.Lib.Hide
import Derived.Lib.SmallJoins
import Derived.OpenShut
import Derived.OrdersHeld
import Derived.OwnWalk
import Derived.RowKit3
import Derived.Shelf.Abstract
import Derived.SizedLaws
import Derived.StillTactics
import Derived.StillTail
import Derived.WalkKit
namespace Go.Proofs.Ytdiajkgebicnnaa
open Go.RowKit
set_option maxRecDepth 100000

theorem agCpu : isAg Try.prog 70 5 := ⟨⟨_, Try.underlying70, rfl⟩, by kernel_rfl⟩
/-- The processor's cells at its slices. -/
def cpuCells (a0 : Option Addr) (n0 c0 : Nat) (a1 : Option Addr) (n1 c1 : Nat) (a2 : Option Addr) (n2 c2 : Nat) (a3 : Option Addr) (n3 c3 : Nat) : Array Value := #[.string ⟨#[115, 116, 100]⟩, .slice a0 n0 c0, .slice a1 n1 c1, .slice a2 n2 c2, .slice a3 n3 c3]
theorem cpuCells_one (a0 : Option Addr) (n0 c0 : Nat) (a1 : Option Addr) (n1 c1 : Nat) (a2 : Option Addr) (n2 c2 : Nat) (a3 : Option Addr) (n3 c3 : Nat) : (cpuCells a0 n0 c0 a1 n1 c1 a2 n2 c2 a3 n3 c3).all (·.oneCell') = true := by simp [cpuCells, Value.oneCell']
theorem safe_row {T : TypeId → Prop} {w : World} {b : Nat} {c : Array Value} {e : TypeId} {fz : Nat × Nat} (h : w.heap[b]? = some (.cells c e fz)) (hT : ¬ T e) (cs : Array Value) : Safe T w (w.setRow b cs) :=
  safe_grown (r := some b) ⟨rfl, rfl, rfl, by simp [World.setRow], fun k _ hk => by
    simp only [World.setRow, Array.getElem?_modify]
    rw [if_neg (fun e => hk (by rw [e]))]⟩ fun g c' e' fz' hg h' hT' => by
    cases hg
    rw [h] at h'
    cases h'
    exact hT hT'
set_option maxHeartbeats 4000000 in
theorem cpu_std (w : World) : Calls Try.prog 36 #[] w fun e w' => ∃ a0 n0 c0 a1 n1 c1 a2 n2 c2 a3 n3 c3, e = .returned (.agg (cpuCells a0 n0 c0 a1 n1 c1 a2 n2 c2 a3 n3 c3)) ∧
    instrsO w.heap.size w' (.slice a0 n0 c0) stdI ∧ cyclesO w.heap.size w' (.slice a1 n1 c1) resetC ∧ cyclesO w.heap.size w' (.slice a2 n2 c2) (interruptC 6 7) ∧ cyclesO w.heap.size w' (.slice a3 n3 c3) (interruptC 8 9) ∧ Below w.heap.size w w' := by
  have b0 := below_al (below_laid1 w (.cells #[.string ⟨#[]⟩, .slice none 0 0, .slice none 0 0, .slice none 0 0, .slice none 0 0] 70)) (.cells #[.slice none 0 0] 124)
  have r0 := rowB_alloc (rowB_new w 70 #[.string ⟨#[]⟩, .slice none 0 0, .slice none 0 0, .slice none 0 0, .slice none 0 0]) (.cells #[.slice none 0 0] 124)
  have l0 := rowB_new (w.alloc (.cells #[.string ⟨#[]⟩, .slice none 0 0, .slice none 0 0, .slice none 0 0, .slice none 0 0] 70)) 124 #[.slice none 0 0]
  rw [World.size_alloc] at l0
  have a0 : atL (w.heap.size + 1) (w.heap.size + 1) _ [] := ⟨Nat.le_refl _, none, 0, 0, l0, ownArr_nil _ _ _ _ _⟩
  have k0 : w.heap.size + 1 ≤ ((w.alloc (.cells #[.string ⟨#[]⟩, .slice none 0 0, .slice none 0 0, .slice none 0 0, .slice none 0 0] 70)).alloc (.cells #[.slice none 0 0] 124)).heap.size := by simp
  go_enter Try.func36, Try.ntmps36
  go_upto_region 2 with (fail)
  generalize (w.alloc (.cells #[.string ⟨#[]⟩, .slice none 0 0, .slice none 0 0, .slice none 0 0, .slice none 0 0] 70)).alloc (.cells #[.slice none 0 0] 124) = x0 at *
  have d0 : Below (w.heap.size + 1) x0 x0 := Below.refl _ _
  go_wp2_with (go_at_call 71; refine (loads_std _ _ x0 [] a0 (Nat.le_trans k0 d0.size) (by decide)).mono ?_)
  rintro e x1 ⟨rfl, a1, e1⟩
  have d1 := d0.trans e1
  clear e1 a0 d0
  go_wp2_with (go_at_call 72; refine (stores_std _ _ x1 (loadsI []) a1 (Nat.le_trans k0 d1.size) (by decide)).mono ?_)
  rintro e x2 ⟨rfl, a2, e2⟩
  have d2 := d1.trans e2
  clear e2 a1 d1
  go_wp2_with (go_at_call 73; refine (sums_std _ _ x2 (storesI (loadsI [])) a2 (Nat.le_trans k0 d2.size) (by decide)).mono ?_)
  rintro e x3 ⟨rfl, a3, e3⟩
  have d3 := d2.trans e3
  clear e3 a2 d2
  go_wp2_with (go_at_call 74; refine (changes_std _ _ x3 (sumsI (storesI (loadsI []))) a3 (Nat.le_trans k0 d3.size) (by decide)).mono ?_)
  rintro e x4 ⟨rfl, a4, e4⟩
  have d4 := d3.trans e4
  clear e4 a3 d3
  go_wp2_with (go_at_call 75; refine (moves_std _ _ x4 (changesI (sumsI (storesI (loadsI [])))) a4 (Nat.le_trans k0 d4.size) (by decide)).mono ?_)
  rintro e x5 ⟨rfl, a5, e5⟩
  have d5 := d4.trans e5
  clear e5 a4 d4
  go_wp2_with (go_at_call 76; refine (flags_std _ _ x5 (movesI (changesI (sumsI (storesI (loadsI []))))) a5 (Nat.le_trans k0 d5.size) (by decide)).mono ?_)
  rintro e x6 ⟨rfl, a6, e6⟩
  have d6 := d5.trans e6
  clear e6 a5 d5
  go_wp2_with (go_at_call 77; refine (stack_std _ _ x6 (flagsI (movesI (changesI (sumsI (storesI (loadsI [])))))) a6 (Nat.le_trans k0 d6.size) (by decide)).mono ?_)
  rintro e x7 ⟨rfl, a7, e7⟩
  have d7 := d6.trans e7
  clear e7 a6 d6
  go_wp2_with (go_at_call 78; refine (jumps_std _ _ x7 (stackI (flagsI (movesI (changesI (sumsI (storesI (loadsI []))))))) a7 (Nat.le_trans k0 d7.size) (by decide)).mono ?_)
  rintro e x8 ⟨rfl, a8, e8⟩
  have d8 := d7.trans e8
  clear e8 a7 d7
  go_wp2_with (go_at_call 79; refine (branches_std _ _ x8 (jumpsI (stackI (flagsI (movesI (changesI (sumsI (storesI (loadsI [])))))))) a8 (Nat.le_trans k0 d8.size) (by decide)).mono ?_)
  rintro e x9 ⟨rfl, a9, e9⟩
  have d9 := d8.trans e9
  clear e9 a8 d8
  have bw : Below w.heap.size w x9 := b0.trans (d9.mono (by omega))
  have r9 := rowB_below r0 d9 (by omega)
  have k9 := Nat.le_trans k0 d9.size
  obtain ⟨hg, p, n, c, hrow, hown⟩ := a9
  clear b0 r0 l0 k0 d9 hg x0
  go_upto_region 11 with (fail)
  refine wp_region_mix (fun w' => w'.cell? ⟨w.heap.size + 1, 0, none⟩ = some (.slice p n c)) [(0, 1), (1, 3), (2, 3), (3, 3), (4, 2), (5, 2)] (by kernel_rfl) (by kernel_rfl) (fun _ _ _ _ _ h => h) ?_
  simp only [List.map_cons, List.map_nil, opOf, List.getD_cons_zero, List.getD_cons_succ]
  change wpMix _ _ _ _ _ _ x9.drew
  have bw' : Below w.heap.size w x9.drew := bw.drew
  have r9' : rowB x9.drew w.heap.size 70 #[.string ⟨#[]⟩, .slice none 0 0, .slice none 0 0, .slice none 0 0, .slice none 0 0] := r9
  have hrow' : rowB x9.drew (w.heap.size + 1) 124 #[.slice p n c] := hrow
  have hown' := instrsO_below hown (Below.refl _ _).drew
  have k9' : w.heap.size + 1 ≤ x9.drew.heap.size := k9
  clear bw r9 hrow hown k9
  generalize x9.drew = v at *
  refine wpMix_held (.slice p n c) rfl (cell0 hrow') (fun w' hw' => by go_simp) ?_
  simp only [Act.put, List.setIfInBounds_toArray, List.set_cons_zero, List.set_cons_succ]
  refine wpMix_call ?_
  go_wp2_with (go_at_call 80; refine (reset_std _).mono ?_; rintro e y1 ⟨p1, n1, c1, rfl, z1, h1⟩)
  have hrow1 := cell_below hrow' h1
  refine ⟨fun _ => cell0 hrow1, ?_⟩
  have q1 : Below v.heap.size v y1 := h1
  refine wpMix_call ?_
  go_wp2_with (go_at_call 81; refine (interrupt_std _ _ _).mono ?_; rintro e y2 ⟨p2, n2, c2, rfl, z2, h2⟩)
  have hrow2 := cell_below hrow1 h2
  first | refine ⟨fun _ => cell0 hrow2, ?_⟩ | refine ⟨cell0 hrow2, ?_⟩
  have q2 := below_step q1 h2
  refine wpMix_call ?_
  go_wp2_with (go_at_call 81; refine (interrupt_std _ _ _).mono ?_; rintro e y3 ⟨p3, n3, c3, rfl, z3, h3⟩)
  have hrow3 := cell_below hrow2 h3
  first | refine ⟨fun _ => cell0 hrow3, ?_⟩ | refine ⟨cell0 hrow3, ?_⟩
  have q3 := below_step q2 h3
  have o3 := instrsO_below hown' q3
  have s1 := cyclesO_below (cyclesO_below z1 h2) h3
  have s2 := cyclesO_below z2 h3
  have u3 := bw'.trans (q3.mono bw'.size)
  have r3 := rowB_below r9' q3 (by omega)
  have m1 : w.heap.size ≤ v.heap.size := bw'.size
  have m2 : w.heap.size ≤ y1.heap.size := Nat.le_trans m1 q1.size
  have m3 : w.heap.size ≤ y2.heap.size := Nat.le_trans m1 q2.size
  clear z1 z2 hown' h1 h2 h3 q1 q2 q3 hrow' hrow1 hrow2 hrow3 r9' k9'
  refine wpMix_call ?_
  go_wp2_with fail
  try refine ⟨fun h => (by cases h), ?_⟩
  refine wpMix_call ?_
  go_wp2_with (refine wpList_storeR rfl 70 _ _ rfl (w.heap.size) rfl (cpuCells p n c p1 n1 c1 p2 n2 c2 p3 n3 c3) rfl (cpuCells_one _ _ _ _ _ _ _ _ _ _ _ _) 70 #[.string ⟨#[]⟩, .slice none 0 0, .slice none 0 0, .slice none 0 0, .slice none 0 0] rfl ?_ agCpu ?_; with_reducible exact r3)
  try refine ⟨fun h => (by cases h), ?_⟩
  refine wpMix_nil ?_
  go_wp2_with fail
  have v3 := safe_row (T := fun e => e ≠ 70) r3 (by simp) (cpuCells p n c p1 n1 c1 p2 n2 c2 p3 n3 c3)
  refine bodyPost_ret (resultsR rfl w.heap.size _ rfl (rowB_row r3 _) agCpu) rfl ⟨p, n, c, p1, n1, c1, p2, n2, c2, p3, n3, c3, rfl, ?_, ?_, ?_, ?_, below_rowR u3 _ (Nat.le_refl _)⟩
  · exact ownArr_mono (instrsO_safe o3 v3 ⟨by decide, by decide, by decide⟩) (by omega)
  · exact cyclesO_mono (cyclesO_safe s1 v3 ⟨by decide, by decide⟩) m1
  · exact cyclesO_mono (cyclesO_safe s2 v3 ⟨by decide, by decide⟩) m2
  · exact cyclesO_mono (cyclesO_safe z3 v3 ⟨by decide, by decide⟩) m3

theorem std_good : ∀ x ∈ stdC.instrs, goodIn x := by
  have h : stdC.instrs.all (fun x => decide (x.name.size = 3) && decide (0 ≤ x.mode) && decide (x.mode ≤ 8)) = true := by decide +kernel
  intro x hx
  have := List.all_eq_true.1 h x hx
  simp only [Bool.and_eq_true, decide_eq_true_eq] at this
  refine ⟨by omega, ?_⟩
  exact WalkArith.wf_i64 (by omega)
theorem instrs_isArr {lo : Nat} {w : World} {v : Value} {l : List In} (h : instrsO lo w v l) (hg : ∀ x ∈ l, goodIn x) : isArr 4 insR w v l := by
  rcases ownArr_isArr h with h | ⟨b, off, cap, rfl, h1, h2, h3, h4⟩
  · exact .inl h
  · refine .inr ⟨b, off, cap, rfl, h1, h2, h3, fun i x hx => ?_⟩
    obtain ⟨cs, c1, c2, u, rfl, c3⟩ := h4 i x hx
    exact ⟨_, c1, c2, u, rfl, cycles_isArr (lo := 0) c3, hg x (List.mem_of_getElem? hx)⟩
/-- As the laws ask it. -/
theorem cpu_arg {lo : Nat} {w : World} {v0 v1 v2 v3 : Value} (h0 : instrsO lo w v0 stdI) (h1 : cyclesO lo w v1 resetC) (h2 : cyclesO lo w v2 (interruptC 6 7)) (h3 : cyclesO lo w v3 (interruptC 8 9)) : cpuArg w v0 v1 v2 v3 stdC :=
  ⟨instrs_isArr h0 std_good, cycles_isArr h1, cycles_isArr h2, cycles_isArr h3, by decide⟩
end Go.Proofs.Ytdiajkgebicnnaa
