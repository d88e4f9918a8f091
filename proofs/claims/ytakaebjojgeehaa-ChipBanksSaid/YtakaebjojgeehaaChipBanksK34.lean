/- A part of the proof of ChipBanks: VidCa. -/
import Derived.Test.YtakaebjojgeehaaChipBanksK01
import Derived.Test.YtakaebjojgeehaaChipBanksK02
import Derived.Test.YtakaebjojgeehaaChipBanksK03
import Derived.Test.YtakaebjojgeehaaChipBanksK04
import Derived.Test.YtakaebjojgeehaaChipBanksK05
import Derived.Test.YtakaebjojgeehaaChipBanksK06
import Derived.Test.YtakaebjojgeehaaChipBanksK15
import Derived.Test.YtakaebjojgeehaaChipBanksK20
import Derived.Below
import Derived.BigQuiet
import Derived.ChangeMaps5
import Derived.Deep.DeepCutAuto
import Derived.Deep.Draws
import Derived.Deep.MidRow
import Derived.Deep.OwnRows
import Derived.Deep.QuietTactic
import Derived.Deep.RegionHeld3
import Derived.Deep.RegionWith
import Derived.Deep.Slices
import Derived.Deep.WholeRow
import Derived.Laws.CopyOwn
import Derived.Lib.Hide
import Derived.Lib.SmallJoins
import Derived.OpenShut
import Derived.OrdersHeld
import Derived.OwnWalk
import Derived.RowKit3
import Derived.StillTactics
import Derived.StillTail
import Derived.StillTailTactics
import Derived.Test.YtakaebjojgeehaaChecked
import Derived.WalkKit
namespace Go.Proofs.Ytakaebjojgeehaa
open Go.RowKit
set_option maxRecDepth 100000
theorem goMod (x : Int) : (x.tmod 2560 + 2560).tmod 2560 = x % 2560 := by
  have h1 := Int.tmod_lt_of_pos x (show (0 : Int) < 2560 by decide)
  have h2 : -2560 < x.tmod 2560 := by
    have := Int.lt_tmod_of_pos x (show (0 : Int) < 2560 by decide)
    omega
  rw [Int.tmod_eq_emod_of_nonneg (by omega)]
  have := Int.tmod_add_mul_tdiv x 2560
  omega
theorem vidPosition_any (v vm : Value) (l : List Int) (w : World) (h : isArg w v l) :
    Calls Try.prog 83 #[.agg #[v, vm]] w fun e w' => e = .returned (.int .i64 ((vidL l).getD 0 0 % 2560)) ∧ Below w.heap.size w w' := by
  obtain ⟨a, cap, rfl, hf⟩ := isArg_form h
  have b0 := (boxes1 w (.cells #[.slice a l.length cap, vm] 34)).2.1
  cases l with
  | nil =>
    rw [show (vidL []).getD 0 0 % 2560 = 2559 from rfl]
    go_enter Try.func83, Try.ntmps83
    go_wp2_with fail
    go_ret
    exact ⟨rfl, b0⟩
  | cons x r =>
    rw [show (vidL (x :: r)).getD 0 0 = x from rfl, ← goMod]
    obtain ⟨g, off, rfl, hg, h1, h2, hc⟩ := hf 0 (by simp)
    rw [show (x :: r).getD 0 0 = x from rfl, Nat.add_zero] at hc
    have hn0 : 0 < (x :: r).length := by simp
    have hd : (((x :: r).length : Int) == 0) = false := by simp; omega
    have m1 := Int.tmod_lt_of_pos x (show (0 : Int) < 2560 by decide)
    have m2 : -2560 < x.tmod 2560 := by
      have := Int.lt_tmod_of_pos x (show (0 : Int) < 2560 by decide)
      omega
    have wx : wrap64 (x.tmod 2560 + 2560) = x.tmod 2560 + 2560 := IntWalk.wrap64_in _ (by omega)
    clear h hf
    generalize (x :: r).length = n at *
    go_enter Try.func83, Try.ntmps83
    go_wp2_with fail
    have e : ((x.tmod 2560 + 2560) % 2560) = (x.tmod 2560 + 2560).tmod 2560 := (Int.tmod_eq_emod_of_nonneg (by omega)).symm
    rw [← e]
    go_ret
    exact ⟨rfl, b0⟩
theorem agVs : isAg Try.prog 68 34 := ⟨⟨_, Try.underlying68, rfl⟩, by kernel_rfl⟩
theorem Vd.cs_size {s : Vd} (h : s.m.length = 32) : s.cs.size = 34 := by unfold Vd.cs; simp [h]
theorem agVd {s : Vd} (h : s.m.length = 32) : isAg Try.prog 68 s.cs.size := by rw [Vd.cs_size h]; exact agVs
theorem Vd.cs_one (s : Vd) : s.cs.all (·.oneCell') = true := by
  unfold Vd.cs
  rw [Array.all_eq_true']
  intro x hx
  simp only [List.mem_toArray, List.mem_cons, List.mem_map] at hx
  rcases hx with rfl | rfl | ⟨y, _, rfl⟩ <;> rfl
/-- A state without bytes, and with bytes copied into it. -/
def zeros32 : List Int := List.replicate 32 0
theorem vd_splice (p f : Int) (lb : List Int) : (splice (Vd.cs ⟨p, f, zeros32⟩).toList 2 ((lb.take 32).map (Value.int .u8))).toArray = Vd.cs ⟨p, f, pad 32 lb⟩ := by
  have h := splice_pad 32 lb
  unfold Vd.cs zeros32
  dsimp only
  have e : splice (Value.int .i64 p :: Value.int .i64 f :: (List.replicate 32 (0 : Int)).map (Value.int .u8)) 2 ((lb.take 32).map (Value.int .u8)) = Value.int .i64 p :: Value.int .i64 f :: splice ((List.replicate 32 (0 : Int)).map (Value.int .u8)) 0 ((lb.take 32).map (Value.int .u8)) := by
    simp only [splice, List.take_succ_cons, List.take_zero, List.nil_append, List.cons_append, Nat.zero_add]
    rw [show 2 + ((lb.take 32).map (Value.int .u8)).length = ((lb.take 32).map (Value.int .u8)).length + 2 by omega]
    rfl
  rw [e]
  have h2 : splice ((List.replicate 32 (0 : Int)).map (Value.int .u8)) 0 ((lb.take 32).map (Value.int .u8)) = (pad 32 lb).map (Value.int .u8) := by
    have := congrArg Array.toList h
    simpa [byts] using this
  rw [h2]
end Go.Proofs.Ytakaebjojgeehaa
