/- A loop that counts down: the program's run, plain facts. -/
import Derived.Test.YtdaaaaacknpbhaaWholes
import Derived.Test.YtdaaaaacknpbhaaStdRun2
import Derived.Test.YtdaaaaacknpbhaaAluPure
import Derived.Test.YtdaaaaacknpbhaaStdStoM
namespace Go.Proofs.Ytdaaaaacknpbhaa
open Go.RowKit
set_option maxRecDepth 100000

theorem op_ldy1 : opIn 11 stdI = some ⟨11, ⟨#[108, 100, 121]⟩, 1, loadC (2 : Nat) 1⟩ := by kernel_rfl
theorem op_iny : opIn 71 stdI = some ⟨71, ⟨#[105, 110, 121]⟩, 0, [⟨0, 0, 0, [⟨10, (2 : Nat), 0, 0⟩]⟩]⟩ := by kernel_rfl
theorem op_dex : opIn 72 stdI = some ⟨72, ⟨#[100, 101, 120]⟩, 0, [⟨0, 0, 0, [⟨11, (1 : Nat), 0, 0⟩]⟩]⟩ := by kernel_rfl
theorem op_bne : opIn 88 stdI = some ⟨88, ⟨#[98, 110, 101]⟩, 7, [⟨1, 0, 5, [⟨24, 0, 0, 2⟩]⟩, ⟨0, 0, 0, [⟨23, 7, 5, 0⟩]⟩]⟩ := by kernel_rfl
theorem counts_loop {m : Nat → Int} (hm : isMem m) (g4 : m (at16 1028) = 71) (g5 : m (at16 1029) = 72) (g6 : m (at16 1030) = 88) (g7 : m (at16 1031) = 252) :
    ∀ (X : Nat) (f : Nat → Int) (Y : Int), fits f → f 7 = 1028 → f 1 = (X : Int) + 1 → f 2 = Y → 0 ≤ Y → Y + X + 1 ≤ 200 → ∃ f', runsK (3 * (X + 1)) ⟨f, -1, 0, false⟩ m = (⟨f', -1, 0, false⟩, m) ∧ f' 1 = 0 ∧ f' 2 = Y + X + 1 ∧ f' 7 = 1032 := by
  intro X
  induction X with
  | zero =>
    intro f Y hf h7 h1 h2 hY hb
    obtain ⟨f1, l1, r1, ⟨t1, k1⟩, p1, v1⟩ := i_inc hf hm (by omega) 2 (by decide) _ 71 (by rw [h7]; exact g4) op_iny
    rw [h7] at p1
    rw [h2, Int.emod_eq_of_lt (by omega) (by omega)] at v1
    have x1 := (k1 1 (by decide)).trans h1
    obtain ⟨f2, l2, r2, ⟨t2, k2⟩, p2, v2, z2⟩ := i_dec t1 hm (by omega) 1 (by decide) _ 72 (by rw [p1]; exact g5) op_dex
    rw [p1] at p2
    rw [x1, show (((0 : Nat) : Int) + 1 - 1) % 256 = 0 from rfl] at v2 z2
    have y2 := (k2 2 (by decide)).trans v1
    obtain ⟨f3, l3, r3, ⟨t3, k3⟩, p3⟩ := i_bne t2 hm (by omega) _ 88 (by rw [p2]; exact g6) op_bne
    rw [p2, z2, flg_zero ⟨(t1 4).1, (t1 4).2.2 (by decide) (by decide)⟩ (by decide), if_pos rfl, if_neg (by decide)] at p3
    refine ⟨f3, ?_, (k3 1 (by decide)).trans v2, ((k3 2 (by decide)).trans y2).trans (by omega), p3⟩
    rw [show 3 * (0 + 1) = 0 + 1 + 1 + 1 from rfl, runsK_cons r1, runsK_cons r2, runsK_cons r3]
    rfl
  | succ X ih =>
    intro f Y hf h7 h1 h2 hY hb
    obtain ⟨f1, l1, r1, ⟨t1, k1⟩, p1, v1⟩ := i_inc hf hm (by omega) 2 (by decide) _ 71 (by rw [h7]; exact g4) op_iny
    rw [h7] at p1
    rw [h2, Int.emod_eq_of_lt (by omega) (by omega)] at v1
    have x1 := (k1 1 (by decide)).trans h1
    obtain ⟨f2, l2, r2, ⟨t2, k2⟩, p2, v2, z2⟩ := i_dec t1 hm (by omega) 1 (by decide) _ 72 (by rw [p1]; exact g5) op_dex
    rw [p1] at p2
    have e : (((X + 1 : Nat) : Int) + 1 - 1) % 256 = (X : Int) + 1 := by omega
    rw [x1, e] at v2 z2
    have y2 := (k2 2 (by decide)).trans v1
    obtain ⟨f3, l3, r3, ⟨t3, k3⟩, p3⟩ := i_bne t2 hm (by omega) _ 88 (by rw [p2]; exact g6) op_bne
    rw [p2, z2, flg_zero ⟨(t1 4).1, (t1 4).2.2 (by decide) (by decide)⟩ (by omega), if_neg (show ¬ ((X : Int) + 1 = 0) by omega), if_pos rfl, show (1028 : Int) + 1 + 1 + 1 = 1031 from rfl, g7] at p3
    obtain ⟨f', hr, q1, q2, q7⟩ := ih f3 (Y + 1) t3 (p3.trans (by decide)) ((k3 1 (by decide)).trans v2) ((k3 2 (by decide)).trans y2) (by omega) (by omega)
    refine ⟨f', ?_, q1, q2.trans (by omega), q7⟩
    rw [show 3 * (X + 1 + 1) = 3 * (X + 1) + 1 + 1 + 1 by omega, runsK_cons r1, runsK_cons r2, runsK_cons r3]
    exact hr
def countsP (n : Int) : List Int := [8, n, 11, 0, 71, 72, 88, 252, 78]
theorem counts_pure (X : Nat) (hX : X < 40) (f : Nat → Int) (hf : fits f) (h7 : f 7 = 1024) :
    ∃ f', runsK (2 + 3 * (X + 1)) ⟨f, -1, 0, false⟩ (loadP (countsP ((X : Int) + 1))) = (⟨f', -1, 0, false⟩, loadP (countsP ((X : Int) + 1))) ∧ f' 1 = 0 ∧ f' 2 = (X : Int) + 1 ∧ f' 7 = 1032 := by
  obtain ⟨p, hp⟩ : ∃ p, p = countsP ((X : Int) + 1) := ⟨_, rfl⟩
  have hb : ∀ y ∈ p, 0 ≤ y ∧ y < 256 := by
    rw [hp]
    intro y hy
    simp only [countsP, List.mem_cons, List.not_mem_nil, or_false] at hy
    rcases hy with rfl | rfl | rfl | rfl | rfl | rfl | rfl | rfl | rfl <;> omega
  have hm : isMem (loadP p) := load_mem hb
  have at_ : ∀ j : Nat, j < 60000 → loadP p (at16 (1024 + (j : Int))) = p.getD j 0 := fun j h => at1024 p j h
  obtain ⟨m, hmd⟩ : ∃ m, m = loadP p := ⟨_, rfl⟩
  rw [← hmd] at hm at_
  have g0 : m (at16 1024) = 8 := (at_ 0 (by decide)).trans (by rw [hp]; rfl)
  have g1 : m (at16 1025) = (X : Int) + 1 := (at_ 1 (by decide)).trans (by rw [hp]; rfl)
  have g2 : m (at16 1026) = 11 := (at_ 2 (by decide)).trans (by rw [hp]; rfl)
  have g3 : m (at16 1027) = 0 := (at_ 3 (by decide)).trans (by rw [hp]; rfl)
  have g4 : m (at16 1028) = 71 := (at_ 4 (by decide)).trans (by rw [hp]; rfl)
  have g5 : m (at16 1029) = 72 := (at_ 5 (by decide)).trans (by rw [hp]; rfl)
  have g6 : m (at16 1030) = 88 := (at_ 6 (by decide)).trans (by rw [hp]; rfl)
  have g7 : m (at16 1031) = 252 := (at_ 7 (by decide)).trans (by rw [hp]; rfl)
  rw [← hp, ← hmd]
  clear at_ hp hb hmd
  obtain ⟨f1, l1, r1, ⟨t1, k1⟩, p1, v1, z1⟩ := i_ldi hf hm (by omega) 1 (by decide) _ 8 (by rw [h7]; exact g0) op_ldx1
  rw [h7] at p1 v1
  rw [show (1024 : Int) + 1 = 1025 from rfl, g1] at v1
  obtain ⟨f2, l2, r2, ⟨t2, k2⟩, p2, v2, z2⟩ := i_ldi t1 hm (by omega) 2 (by decide) _ 11 (by rw [p1]; exact g2) op_ldy1
  rw [p1] at p2 v2
  rw [show (1024 : Int) + 2 + 1 = 1027 from rfl, g3] at v2
  obtain ⟨f3, hr, q1, q2, q7⟩ := counts_loop hm g4 g5 g6 g7 X f2 0 t2 p2 ((k2 1 (by decide)).trans v1) v2 (by omega) (by omega)
  refine ⟨f3, ?_, q1, q2.trans (by omega), q7⟩
  rw [show 2 + 3 * (X + 1) = 3 * (X + 1) + 1 + 1 by omega, runsK_cons r1, runsK_cons r2]
  exact hr
end Go.Proofs.Ytdaaaaacknpbhaa
