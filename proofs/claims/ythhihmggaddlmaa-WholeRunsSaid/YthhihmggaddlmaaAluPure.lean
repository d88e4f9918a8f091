/- What steps do to registers that are as large as they may be: plain facts. -/
import Derived.Test.YthhihmggaddlmaaAluDo
import Derived.Test.YthhihmggaddlmaaChecked
import Derived.Below
import Derived.BigQuiet
import Derived.Deep.CutBlock
import Derived.Deep.DeepCutAuto
import Derived.Deep.Draws
import Derived.Deep.MidRow
import Derived.Deep.OwnRows
import Derived.Deep.QuietTactic
import Derived.Deep.RegionHeld3
import Derived.Deep.RegionLaw
import Derived.Deep.RegionWith
import Derived.Deep.WholeRow
import Derived.Lib.Hide
import Derived.OrdersHeld
import Derived.OwnWalk
import Derived.RowKit3
import Derived.StillTactics
import Derived.StillTail
import Derived.StillTailTactics
import Derived.WalkKit
namespace Go.Proofs.Ythhihmggaddlmaa
set_option maxRecDepth 100000
open Go.RowKit

theorem reg_one (u : Int) : ((reg u : Int) == 1) = (u == 1) := by
  have e : ((reg u : Int) = 1) ↔ (u = 1) := by unfold reg near; omega
  rw [Bool.eq_iff_iff, beq_iff_eq, beq_iff_eq]
  exact e
theorem fits4 {f : Nat → Int} (h : fits f) : 0 ≤ f 4 ∧ f 4 < 256 := ⟨(h 4).1, (h 4).2.2 (by decide) (by decide)⟩
theorem sumN_bd (d a b c : Int) : 0 ≤ sumN d a b c ∧ sumN d a b c < 256 := by
  unfold sumN
  split
  · exact lo8_bd _
  · split <;> exact lo8_bd _
theorem shiftN_bd (d a c : Int) : 0 ≤ shiftN d a c ∧ shiftN d a c < 256 := by
  have h := lo8_bd a
  have e : (2 : Int) ^ 8 = 256 := by decide
  unfold shiftN
  split
  · exact lo8_bd _
  · split
    · exact lo8_bd _
    · unfold rorS
      rw [e]
      split <;> omega
theorem sumF_fits {f : Nat → Int} (h : fits f) (d : Int) (t u : Nat) : fits (sumF d t u f) := by
  have h4 := fits4 h
  have hN := sumN_bd d (f t) (f u) (f 4 % 2)
  have hP := flg_bd _ (sumN d (f t) (f u) (f 4 % 2)) (car_bd (f 4) _ h4 (sumC_bd d (f t) (f u) (f 4 % 2)))
  have hg := fits_set h 4 _ hP.1 hP.2
  unfold sumF
  dsimp only
  split
  · exact hg
  · exact fits_set hg t _ hN.1 hN.2
theorem shiftF_fits {f : Nat → Int} (h : fits f) (d : Int) (t : Nat) : fits (shiftF d t f) := by
  have h4 := fits4 h
  have hN := shiftN_bd d (f t) (f 4 % 2)
  have hP := flg_bd _ (shiftN d (f t) (f 4 % 2)) (car_bd (f 4) _ h4 (shiftC_bd d (f t) (f 4 % 2)))
  exact fits_set (fits_set h 4 _ hP.1 hP.2) t _ hN.1 hN.2
theorem do_sum {f : Nat → Int} (h : fits f) (d : Int) (t u : Nat) (n : Int) (hd : d = 4 ∨ d = 5 ∨ d = 6) : doF d t u n (fitR f) = sumF d t u f := by
  have e : doF d t u n (fitR f) = fitR (sumF d t u (fitR f)) := by
    rcases hd with rfl | rfl | rfl <;> rfl
  rw [e, fit_fits h, fit_fits (sumF_fits h d t u)]
theorem do_shift {f : Nat → Int} (h : fits f) (t u : Nat) (n : Int) : doF 14 t u n (fitR f) = shiftF 14 t f := by
  have e : doF 14 t u n (fitR f) = fitR (shiftF 14 t (fitR f)) := rfl
  rw [e, fit_fits h, fit_fits (shiftF_fits h 14 t)]

theorem and2 {q : Int} (h : 0 ≤ q ∧ q < 256) : bits .and .i64 q 2 = q / 2 % 2 * 2 := by
  obtain ⟨n, rfl⟩ := byte_fin h
  exact (by decide +kernel : ∀ n : Fin 256, bits .and .i64 (n.val : Int) 2 = (n.val : Int) / 2 % 2 * 2) n
theorem flg_z {p n : Int} (_hp : 0 ≤ p ∧ p < 256) (hn : 0 ≤ n ∧ n < 256) : flg p n / 2 % 2 = if n = 0 then 1 else 0 := by
  unfold flg
  have e : n % 256 = n := Int.emod_eq_of_lt hn.1 hn.2
  rw [e]
  split <;> split <;> omega
theorem flg_n {p n : Int} (hp : 0 ≤ p ∧ p < 256) (hn : 0 ≤ n ∧ n < 256) : 128 ≤ flg p n ↔ 128 ≤ n := by
  unfold flg
  have e : n % 256 = n := Int.emod_eq_of_lt hn.1 hn.2
  rw [e]
  split <;> split <;> omega
theorem flg_c {p n : Int} (_hp : 0 ≤ p ∧ p < 256) : flg p n % 2 = p % 2 := by
  unfold flg
  split <;> split <;> omega
theorem car_c {p c : Int} (hc : c = 0 ∨ c = 1) : car p c % 2 = c := by unfold car; omega
/-- The flags behind a result, as they are asked for. -/
theorem flg_zero {p n : Int} (hp : 0 ≤ p ∧ p < 256) (hn : 0 ≤ n ∧ n < 256) : bits .and .i64 (flg p n) 2 = if n = 0 then 2 else 0 := by
  rw [and2 (flg_bd p n hp), flg_z hp hn]; split <;> rfl
theorem flg_neg {p n : Int} (hp : 0 ≤ p ∧ p < 256) (hn : 0 ≤ n ∧ n < 256) : bits .and .i64 (flg p n) 128 = if 128 ≤ n then 128 else 0 := by
  rw [and128 (flg_bd p n hp)]
  have := flg_n hp hn
  by_cases h : 128 ≤ n
  · rw [if_pos h, if_pos (this.2 h)]
  · rw [if_neg h, if_neg (fun h' => h (this.1 h'))]

/-- A subtraction takes back what an addition has added. -/
theorem sum_back {a b c : Int} (ha : 0 ≤ a ∧ a < 256) : sumN 5 (sumN 4 a b c) b (1 - c) = a := by
  have e1 : sumN 4 a b c = lo (addS a b c 8) 8 := rfl
  have e2 : ∀ x, sumN 5 x b (1 - c) = lo (subS x b (1 - (1 - c)) 8) 8 := fun _ => rfl
  rw [e2, e1]
  unfold subS addS
  simp only [lo8_eq]
  omega
/-- A comparison. -/
theorem cmp_c {a b c : Int} (ha : 0 ≤ a ∧ a < 256) (hb : 0 ≤ b ∧ b < 256) : sumC 6 a b c = if b ≤ a then 1 else 0 := by
  have e : sumC 6 a b c = 1 - subC a b 0 8 := rfl
  have e2 : subS a b 0 8 = a - b := by unfold subS; simp only [lo8_eq]; omega
  rw [e]
  unfold subC
  rw [e2]
  by_cases h : b ≤ a
  · rw [if_pos h, if_neg (by omega)]; rfl
  · rw [if_neg h, if_pos (by omega)]; rfl
theorem cmp_z {a b c : Int} (ha : 0 ≤ a ∧ a < 256) (hb : 0 ≤ b ∧ b < 256) : sumN 6 a b c = 0 ↔ a = b := by
  have e : sumN 6 a b c = lo (subS a b 0 8) 8 := rfl
  rw [e]
  unfold subS
  simp only [lo8_eq]
  omega

/-- Nine bits, turned. -/
def rot9 (v : Int) : Int := 2 * v % 512 + v / 256
def rots : Nat → Int → Int
  | 0, v => v
  | k + 1, v => rot9 (rots k v)
theorem rots9 {v : Int} (h0 : 0 ≤ v) (h1 : v < 512) : rots 9 v = v := by
  obtain ⟨n, rfl⟩ : ∃ n : Fin 512, v = (n.val : Int) := ⟨⟨v.toNat, by omega⟩, by simp; omega⟩
  exact (by decide +kernel : ∀ n : Fin 512, rots 9 (n.val : Int) = (n.val : Int)) n
def nine_of (f : Nat → Int) : Int := 256 * (f 4 % 2) + f 0
theorem shift_nine {f : Nat → Int} (h : fits f) : nine_of (shiftF 14 0 f) = rot9 (nine_of f) := by
  have h4 := fits4 h
  have h0 : 0 ≤ f 0 ∧ f 0 < 256 := ⟨(h 0).1, (h 0).2.2 (by decide) (by decide)⟩
  have hc := shiftC_bd 14 (f 0) (f 4 % 2)
  have e4 : shiftF 14 0 f 4 = flg (car (f 4) (shiftC 14 (f 0) (f 4 % 2))) (shiftN 14 (f 0) (f 4 % 2)) := rfl
  have e0 : shiftF 14 0 f 0 = shiftN 14 (f 0) (f 4 % 2) := rfl
  unfold nine_of
  rw [e4, e0, flg_c (car_bd _ _ h4 hc), car_c hc]
  have eC : shiftC 14 (f 0) (f 4 % 2) = rolS (f 0) (f 4 % 2) 8 / 256 := rfl
  have eN : shiftN 14 (f 0) (f 4 % 2) = lo (rolS (f 0) (f 4 % 2) 8) 8 := rfl
  rw [eC, eN]
  unfold rot9 rolS
  simp only [lo8_eq]
  omega
end Go.Proofs.Ythhihmggaddlmaa
