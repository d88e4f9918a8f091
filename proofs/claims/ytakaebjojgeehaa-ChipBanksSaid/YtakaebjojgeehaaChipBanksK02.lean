/- A part of the proof of ChipBanks: Quiet, BitWalksB, PortMath. -/
import Derived.Test.YtakaebjojgeehaaChipBanksK01
import Derived.Below
import Derived.BigQuiet
import Derived.Deep.QuietTactic
import Derived.Lib.Hide
import Derived.RowKit3
import Derived.Test.YtakaebjojgeehaaChecked
import Derived.WalkKit
namespace Go.Proofs.Ytakaebjojgeehaa
open Go.RowKit
theorem ret_int {k : IntKind} {a b : Int} (h : a = b) : Ending.returned (.int k a) = .returned (.int k b) := by rw [h]
end Go.Proofs.Ytakaebjojgeehaa
namespace Go.Proofs.Ytakaebjojgeehaa
open Go.RowKit
theorem below_any (x n : Int) (hx : -9223372036854775808 ≤ x ∧ x ≤ 9223372036854775807) (h : 1 ≤ n ∧ n ≤ 9223372036854775807) (w : World) :
    Calls Try.prog 13 #[.int .i64 x, .int .i64 n] w fun e w' => e = .returned (.int .i64 (x % n)) ∧ w = w' := by
  have hm0 := Int.emod_nonneg x (b := n) (by omega)
  have hm1 := Int.emod_lt_of_pos x (b := n) (by omega)
  go_enter Try.func13, Try.ntmps13
  go_wp2
  · go_ret
    refine ⟨ret_int ?_, rfl⟩
    have hn : x.tmod n < 0 := by assumption
    have hneg : ¬ 0 ≤ x := fun h0 => by rw [Int.tmod_eq_emod_of_nonneg h0] at hn; omega
    have e := Int.tmod_eq_emod (a := x) (b := n)
    have hd : ¬ n ∣ x := fun hd => by rw [Int.tmod_eq_zero_of_dvd hd] at hn; omega
    rw [if_neg (by omega)] at e
    have ha : (n.natAbs : Int) = n := Int.natAbs_of_nonneg (by omega)
    rw [ha] at e
    rw [IntWalk.wrap64_in _ (by omega)]
    omega
  · go_ret
    refine ⟨ret_int ?_, rfl⟩
    have hn : 0 ≤ x.tmod n := by assumption
    have e := Int.tmod_eq_emod (a := x) (b := n)
    split at e
    · omega
    · have ha : (n.natAbs : Int) = n := Int.natAbs_of_nonneg (by omega)
      omega

end Go.Proofs.Ytakaebjojgeehaa
namespace Go.Proofs.Ytakaebjojgeehaa
open Go.RowKit
/-- A port's numbers: lines, latch, mask. -/
structure Pt where (n l m : Int)
def Pt.of (l : List Int) : Pt := ⟨lo (l.getD 0 0) 8, lo (l.getD 1 0) 8, lo (l.getD 2 0) 8⟩
def Pt.cs (s : Pt) : Array Value := #[.int .i64 s.n, .int .i64 s.l, .int .i64 s.m]
def Pt.ns (s : Pt) : List Int := [s.n, s.l, s.m]
structure Pt.fit (s : Pt) : Prop where
  n : 0 ≤ s.n ∧ s.n < 256
  l : 0 ≤ s.l ∧ s.l < 256
  m : 0 ≤ s.m ∧ s.m < 256
theorem Pt.of_fit (l : List Int) : (Pt.of l).fit :=
  ⟨⟨lo_nonneg _ _, lo_lt _ _⟩, ⟨lo_nonneg _ _, lo_lt _ _⟩, ⟨lo_nonneg _ _, lo_lt _ _⟩⟩
/-- What the chip drives, and what is read of its lines. -/
def Pt.drv (s : Pt) : Int := bits .and .i64 s.l s.m
def Pt.both (s : Pt) : Int := bits .or .i64 s.drv (bits .andNot .i64 s.n s.m)
def Pt.reg (s : Pt) (a : Int) : Int := if a = 0 then s.both else if a = 1 then s.m else 0
def Pt.write (s : Pt) (a d : Int) : Pt := if a = 0 then ⟨s.n, lo d 8, s.m⟩ else if a = 1 then ⟨s.n, s.l, lo d 8⟩ else s
end Go.Proofs.Ytakaebjojgeehaa
