/- Contracts of package alu's functions on flags: flagged, carried, subtract, joined, moved. -/
import Derived.Test.YtmjddoboogccoaaChecked
import Derived.Test.YtmjddoboogccoaaRegs
import Derived.Below
import Derived.BigQuiet
import Derived.Deep.DeepCutAuto
import Derived.Deep.Draws
import Derived.Deep.OwnRows
import Derived.Deep.QuietTactic
import Derived.Deep.RegionHeld3
import Derived.Deep.RegionWith
import Derived.Deep.WholeRow
import Derived.Lib.Hide
import Derived.OwnWalk
import Derived.RowKit3
import Derived.WalkKit
namespace Go.Proofs.Ytmjddoboogccoaa
set_option maxRecDepth 100000
open Go.RowKit

/-- A function's result, built on a block of registers through stores at known and other places. -/
theorem regB_start (w : World) (t : TypeId) (f : Nat → Int) (o : Obj) : regB ((w.alloc (.cells (arr9 f) t)).alloc o) w.heap.size t f := regB_alloc (regB_new w t f) o
theorem regB_start2 (w : World) (t : TypeId) (f : Nat → Int) (o : Obj) : regB ((w.alloc o).alloc (.cells (arr9 f) t)) (w.heap.size + 1) t f := by
  have := regB_new (w.alloc o) t f
  rw [World.size_alloc] at this
  exact this
theorem zero9 : (#[.int .i64 0, .int .i64 0, .int .i64 0, .int .i64 0, .int .i64 0, .int .i64 0, .int .i64 0, .int .i64 0, .int .i64 0] : Array Value) = arr9 (fun _ => 0) := rfl

def joinB (d a b : Int) : Int := if d = 7 then bits .and .i64 a b else if d = 8 then bits .or .i64 a b else bits .xor .i64 a b
end Go.Proofs.Ytmjddoboogccoaa
