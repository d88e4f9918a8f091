/- A part of the proof of ChipBanks: ChMath, MemR. -/
import Derived.Test.YtakaebjojgeehaaChipBanksK01
import Derived.Test.YtakaebjojgeehaaChipBanksK02
import Derived.Test.YtakaebjojgeehaaChipBanksK03
import Derived.Test.YtakaebjojgeehaaChipBanksK04
import Derived.Test.YtakaebjojgeehaaChipBanksK05
import Derived.Test.YtakaebjojgeehaaChipBanksK06
import Derived.Test.YtakaebjojgeehaaChipBanksK07
import Derived.Test.YtakaebjojgeehaaChipBanksK08
import Derived.Test.YtakaebjojgeehaaChipBanksK09
import Derived.Test.YtakaebjojgeehaaChipBanksK10
import Derived.Test.YtakaebjojgeehaaChipBanksK11
import Derived.Test.YtakaebjojgeehaaChipBanksK15
import Derived.Test.YtakaebjojgeehaaChipBanksK16
import Derived.Test.YtakaebjojgeehaaChipBanksK17
import Derived.Test.YtakaebjojgeehaaChipBanksK18
import Derived.Test.YtakaebjojgeehaaChipBanksK19
import Derived.Test.YtakaebjojgeehaaChipBanksK20
import Derived.Test.YtakaebjojgeehaaChipBanksK21
import Derived.Test.YtakaebjojgeehaaChipBanksK22
import Derived.Test.YtakaebjojgeehaaChipBanksK23
import Derived.Test.YtakaebjojgeehaaChipBanksK24
import Derived.Test.YtakaebjojgeehaaChipBanksK25
import Derived.Test.YtakaebjojgeehaaChipBanksK26
import Derived.Below
import Derived.BigQuiet
import Derived.ChangeMaps5
import Derived.Deep.AppendSrc
import Derived.Deep.DeepAppendWide
import Derived.Deep.DeepCutAuto
import Derived.Deep.Draws
import Derived.Deep.MidRow
import Derived.Deep.OwnRows
import Derived.Deep.QuietTactic
import Derived.Deep.RegionHeld3
import Derived.Deep.RegionWith
import Derived.Deep.Slices
import Derived.Deep.WholeRow
import Derived.Laws.CopyOwn
import Derived.Laws.OwnMore
import Derived.Lib.Hide
import Derived.Lib.SmallJoins
import Derived.Maps.AppendAt
import Derived.OpenShut
import Derived.OrdersHeld
import Derived.OwnWalk
import Derived.RowKit3
import Derived.Shelf.Abstract
import Derived.StillTactics
import Derived.StillTail
import Derived.StillTailTactics
import Derived.Test.YtakaebjojgeehaaChecked
import Derived.WalkKit
namespace Go.Proofs.Ytakaebjojgeehaa
open Go.RowKit
def memNs (k z : Int) (nd : Nat) (l : List Int) : List Int := if k = 2 then [l.getD 0 0 % mbank nd (mwin z)] else if k = 4 then (Pt.of l).ns else []

def memBs (k z : Int) (nd : Nat) (lb : List Int) : List Int := if k = 0 ∨ k = 1 ∨ k = 2 then pad (memSize k z nd) lb else []
/-- The bytes stay bytes; a drive's do not grow. -/
theorem pad_bd {lb : List Int} (hb : ∀ x ∈ lb, 0 ≤ x ∧ x < 256) (k : Nat) : ∀ x ∈ pad k lb, 0 ≤ x ∧ x < 256 := fun x hx => by
  unfold pad at hx
  obtain ⟨i, _, rfl⟩ := List.mem_map.1 hx
  exact Vd.reg_bd hb i
end Go.Proofs.Ytakaebjojgeehaa
namespace Go.Proofs.Ytakaebjojgeehaa
open Go.RowKit
set_option maxRecDepth 100000
theorem memR.open {w : World} {u : Value} {ns m : List Int} (h : memR w u ns m) : ∃ a c q d, u = .agg #[.slice a ns.length c, .slice q m.length d] ∧ isArg w (.slice a ns.length c) ns ∧ isByt w (.slice q m.length d) m := by
  obtain ⟨vx, vm, rfl, h1, h2⟩ := h
  obtain ⟨a, c, rfl, _⟩ := isArg_form h1
  obtain ⟨q, d, rfl, _⟩ := isByt_form h2
  exact ⟨a, c, q, d, rfl, h1, h2⟩
theorem memR.box {w : World} {B : Nat} {t : TypeId} {a q : Option Addr} {c d i j x y : Nat} {a' q' : Option Addr} {ns m : List Int} (hB : rowB w B t #[.slice a' i x, .slice q' j y]) (h1 : isArg w (.slice a ns.length c) ns) (h2 : isByt w (.slice q m.length d) m) (r : Array Value) :
    memR (w.setRow B r) (.agg #[.slice a ns.length c, .slice q m.length d]) ns m :=
  ⟨_, _, rfl, isArg_box hB (fun n h => by cases h) (fun n h => by cases h) h1 r, isByt_box hB (fun n h => by cases h) (fun n h => by cases h) h2 r⟩
end Go.Proofs.Ytakaebjojgeehaa
