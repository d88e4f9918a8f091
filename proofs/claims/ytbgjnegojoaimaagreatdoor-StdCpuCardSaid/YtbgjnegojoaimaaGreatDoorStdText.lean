/- The museum's processor as the reference's text: registers and steps. -/
import Derived.Test.YtbgjnegojoaimaaGreatDoorTabArg
import Derived.Test.YtbgjnegojoaimaaGreatDoorBitWalks
import Derived.StillTailTactics
import Derived.Shelf.Abstract
import Derived.Deep.DeepCutAuto
import Derived.Test.YtbgjnegojoaimaaGreatDoorRow
import Derived.Test.YtbgjnegojoaimaaGreatDoorLin
namespace Go.Proofs.YtbgjnegojoaimaaGreatDoor
open Go.RowKit

/-- The letter of a register. -/
def regT (n : Int) : ByteArray := if n = 0 then ⟨#[65]⟩ else if n = 1 then ⟨#[88]⟩ else if n = 2 then ⟨#[89]⟩ else if n = 3 then ⟨#[83]⟩ else if n = 4 then ⟨#[80]⟩ else if n = 5 then ⟨#[84]⟩ else if n = 6 then ⟨#[85]⟩ else if n = 7 then ⟨#[67]⟩ else if n = 8 then ⟨#[68]⟩ else ⟨#[35]⟩
theorem regT_any (n : Int) (w : World) :
    Calls Tryz.prog 37 #[.int .i64 n] w fun e w' => e = .returned (.string (regT n)) ∧ w = w' := by
  by_cases h : n < 0 ∨ 8 < n
  · have e : regT n = ⟨#[35]⟩ := by
      unfold regT
      rw [if_neg (by omega), if_neg (by omega), if_neg (by omega), if_neg (by omega), if_neg (by omega), if_neg (by omega), if_neg (by omega), if_neg (by omega), if_neg (by omega)]
    rw [e]
    rcases h with h | h
    · have h1 : decide (n < 0) = true := decide_eq_true h
      go_enter Tryz.func37, Tryz.ntmps37
      go_wp2
      go_ret
      exact ⟨rfl, rfl⟩
    · have h1 : decide (n < 0) = false := decide_eq_false (by omega)
      have h2 : decide (9 ≤ n) = true := decide_eq_true (by omega)
      go_enter Tryz.func37, Tryz.ntmps37
      go_wp2
      go_ret
      exact ⟨rfl, rfl⟩
  · rcases (by omega : n = 0 ∨ n = 1 ∨ n = 2 ∨ n = 3 ∨ n = 4 ∨ n = 5 ∨ n = 6 ∨ n = 7 ∨ n = 8) with rfl | rfl | rfl | rfl | rfl | rfl | rfl | rfl | rfl
    all_goals
      go_enter Tryz.func37, Tryz.ntmps37
      go_wp2
      go_ret
      exact ⟨rfl, rfl⟩
theorem regT_size (n : Int) : (regT n).size = 1 := by
  unfold regT
  repeat' split
  all_goals rfl
theorem limitS_any (n a b : Int) (w : World) :
    Calls Tryz.prog 38 #[.int .i64 n, .int .i64 a, .int .i64 b] w fun e w' => e = .returned (.int .i64 (if n < a then a else if b < n then b else n)) ∧ w = w' := by
  obtain ⟨Q, hQ⟩ : ∃ Q, Q = if n < a then a else if b < n then b else n := ⟨_, rfl⟩
  rw [← hQ]
  have HQ := Lib.hid hQ
  clear hQ
  by_cases h1 : n < a
  · have HV := Lib.hid (HQ.out.trans (if_pos h1))
    go_enter Tryz.func38, Tryz.ntmps38
    go_wp2
    go_ret
    exact ⟨by rw [HV.out]; rfl, rfl⟩
  · by_cases h2 : b < n
    · have HV := Lib.hid (HQ.out.trans ((if_neg h1).trans (if_pos h2)))
      go_enter Tryz.func38, Tryz.ntmps38
      go_wp2
      go_ret
      exact ⟨by rw [HV.out]; rfl, rfl⟩
    · have HV := Lib.hid (HQ.out.trans ((if_neg h1).trans (if_neg h2)))
      go_enter Tryz.func38, Tryz.ntmps38
      go_wp2
      go_ret
      exact ⟨by rw [HV.out]; rfl, rfl⟩
theorem seen_any (b : Bool) (w : World) :
    Calls Tryz.prog 25 #[.bool b] w fun e w' => e = .returned (.int .i64 (if b = true then 1 else 0)) ∧ w = w' := by
  cases b
  all_goals
    go_enter Tryz.func25, Tryz.ntmps25
    go_wp2
    go_ret
    exact ⟨rfl, rfl⟩
end Go.Proofs.YtbgjnegojoaimaaGreatDoor
