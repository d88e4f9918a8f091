/-
  No cell of these rows narrows 'for every input' (looked for: loops, veiled, ifaces, maps, wideKeys, modest, calm, conditions, laid).
  DERIVED. THE GIVEN ROWS OF THIS SEAT. 4 by the template 'for every input the law returns true; each argument reads behind the call as it read before'; 0 by the template 'total and deterministic' (their statements: YtgiociijhpimoaaTotals.lean).
  GIVEN WITH THE SEED: the statements are not yours to turn. If you find one false, say at which input.
  Laid BY PROGRAM, IN A SANDBOX (cutbox-rows.mjs): the forced cells as the released guide's own fill.sh prints them over the translation b03ac51585b726e5… (all of the seat's roots in one cut). By AI agents, Wed Nov 11 2026. No macro, syntax, notation, axiom, sorry.
-/
import Derived.Test.YtgiociijhpimoaaChecked
import GoSem.Claim
import GoSem.ClaimJoined
import GoSem.ClaimMapViews
import Derived.JoinedTies
import Derived.KernelRfl
namespace Go.Proofs.Ytgiociijhpimoaa
/- THE CELL 'sum', in the pinned program and in every row, IS THE sha256 OF THE DUMP (.gsa) THAT YtgiociijhpimoaaProg.lean LOADS. Nothing in Lean hashes anything: it is a label: what it is worth is what the hold of that sum in a sandbox is worth. -/
noncomputable def Try.pinned : Pinned := { name := "ytgiociijhpimoaa", sum := "b03ac51585b726e508f1ae334df9fb166cb94c8d60032292e67daaff7b789106", checked := Try.checked }
namespace Rows
def none {H : Type} : Left H := { results := [], args := [] }

/-- 'bakelaw1.PinJoins': WHATEVER THE INPUT: true; the input reads as it did. -/
def pinJoinsSpec : ChangeSpec := { name := "pinJoins", fn := fun _ => fun
  | [d1, d2, d3] => { results := [.lit (.bool true)], args := [d1, d2, d3] }
  | _ => none }
def pinJoinsRow : OpenClaim := { program := "ytgiociijhpimoaa", sum := "b03ac51585b726e508f1ae334df9fb166cb94c8d60032292e67daaff7b789106", func := "bakelite/bakelaw1.PinJoins", spec := "pinJoins", unfollowed := true, recurses := true, apart := false }
def PinJoinsSaid : Prop := pinJoinsRow.holds Try.pinned (OpenSpec.ofChange pinJoinsSpec)

/-- ITS FALSE NEIGHBOUR: 'it returns false'. Refute it at one input. -/
def pinJoinsWrong : ChangeSpec := { name := "pinJoins", fn := fun _ => fun
  | [d1, d2, d3] => { results := [.lit (.bool false)], args := [d1, d2, d3] }
  | _ => none }
def PinJoinsWrongFalsely : Prop := pinJoinsRow.holds Try.pinned (OpenSpec.ofChange pinJoinsWrong)

/-- 'bakelaw1.PinBuses': WHATEVER THE INPUT: true; the input reads as it did. -/
def pinBusesSpec : ChangeSpec := { name := "pinBuses", fn := fun _ => fun
  | [d1, d2] => { results := [.lit (.bool true)], args := [d1, d2] }
  | _ => none }
def pinBusesRow : OpenClaim := { program := "ytgiociijhpimoaa", sum := "b03ac51585b726e508f1ae334df9fb166cb94c8d60032292e67daaff7b789106", func := "bakelite/bakelaw1.PinBuses", spec := "pinBuses", apart := false }
def PinBusesSaid : Prop := pinBusesRow.holds Try.pinned (OpenSpec.ofChange pinBusesSpec)

/-- ITS FALSE NEIGHBOUR: 'it returns false'. Refute it at one input. -/
def pinBusesWrong : ChangeSpec := { name := "pinBuses", fn := fun _ => fun
  | [d1, d2] => { results := [.lit (.bool false)], args := [d1, d2] }
  | _ => none }
def PinBusesWrongFalsely : Prop := pinBusesRow.holds Try.pinned (OpenSpec.ofChange pinBusesWrong)

/-- 'bakekeep1.PinOrder': WHATEVER THE INPUT: true; the input reads as it did. -/
def pinOrderSpec : ChangeSpec := { name := "pinOrder", fn := fun _ => fun
  | [d1, d2, d3] => { results := [.lit (.bool true)], args := [d1, d2, d3] }
  | _ => none }
def pinOrderRow : OpenClaim := { program := "ytgiociijhpimoaa", sum := "b03ac51585b726e508f1ae334df9fb166cb94c8d60032292e67daaff7b789106", func := "bakelite/bakekeep1.PinOrder", spec := "pinOrder", inPlace := ["slices.overlaps[int]"], apart := false }
def PinOrderSaid : Prop := pinOrderRow.holds Try.pinned (OpenSpec.ofChange pinOrderSpec)

/-- ITS FALSE NEIGHBOUR: 'it returns false'. Refute it at one input. -/
def pinOrderWrong : ChangeSpec := { name := "pinOrder", fn := fun _ => fun
  | [d1, d2, d3] => { results := [.lit (.bool false)], args := [d1, d2, d3] }
  | _ => none }
def PinOrderWrongFalsely : Prop := pinOrderRow.holds Try.pinned (OpenSpec.ofChange pinOrderWrong)

/-- 'bakekeep1.PinBytes': WHATEVER THE INPUT: true; the input reads as it did. -/
def pinBytesSpec : ChangeSpec := { name := "pinBytes", fn := fun _ => fun
  | [d1, d2] => { results := [.lit (.bool true)], args := [d1, d2] }
  | _ => none }
def pinBytesRow : OpenClaim := { program := "ytgiociijhpimoaa", sum := "b03ac51585b726e508f1ae334df9fb166cb94c8d60032292e67daaff7b789106", func := "bakelite/bakekeep1.PinBytes", spec := "pinBytes", apart := false }
def PinBytesSaid : Prop := pinBytesRow.holds Try.pinned (OpenSpec.ofChange pinBytesSpec)

/-- ITS FALSE NEIGHBOUR: 'it returns false'. Refute it at one input. -/
def pinBytesWrong : ChangeSpec := { name := "pinBytes", fn := fun _ => fun
  | [d1, d2] => { results := [.lit (.bool false)], args := [d1, d2] }
  | _ => none }
def PinBytesWrongFalsely : Prop := pinBytesRow.holds Try.pinned (OpenSpec.ofChange pinBytesWrong)

/- THE SECOND FORM. 'bulk': how many values and letters a reading holds, each counted each time it is reached (what is shared counts as often as it is met; a slice's spare places count too). A statement '..UptoSaid' is the law's where the arguments, and the package variables that the reading takes, are together of bulk at most 1048576: NARROWER than '..Said'. Prove '..Said' where nothing that the law and all that it calls make is longer than what came in: it says more and counts as full. Else prove '..UptoSaid'. A law counts once. -/
mutual
def uptoBulk {H : Type} : DataW H → Nat
  | .lit (.string bytes) => bytes.length + 1
  | .lit _ => 1
  | .nil => 1
  | .ptr d => uptoBulk d + 1
  | .slice elems spare => uptoBulkAll elems + uptoBulkAll spare + 1
  | .agg parts => uptoBulkAll parts + 1
  | .iface _ d => uptoBulk d + 1
  | .map entries => uptoBulkEntries entries + 1
  | .held _ => 1
def uptoBulkAll {H : Type} : List (DataW H) → Nat
  | [] => 0
  | d :: r => uptoBulk d + uptoBulkAll r
def uptoBulkEntries {H : Type} : List (Lit × DataW H) → Nat
  | [] => 0
  | x :: r => uptoBulkEntry x + uptoBulkEntries r
def uptoBulkEntry {H : Type} : Lit × DataW H → Nat
  | (.string bytes, d) => bytes.length + uptoBulk d + 1
  | (_, d) => uptoBulk d + 1
 end
def uptoSmall : (H : Type) → List (DataW H) → Bool := fun _ ds => decide (uptoBulkAll ds ≤ 1048576)
def OpenSpec.upto (s : _root_.Go.ChangeSpec) : _root_.Go.OpenSpec := { _root_.Go.OpenSpec.ofChange s with cond := some uptoSmall }

/-- 'bakelaw1.PinJoins', WHERE WHAT IT READS IS OF BULK AT MOST 1048576: true; the input reads as it did. -/
def pinJoinsUptoRow : OpenClaim := { program := "ytgiociijhpimoaa", sum := "b03ac51585b726e508f1ae334df9fb166cb94c8d60032292e67daaff7b789106", func := "bakelite/bakelaw1.PinJoins", spec := "pinJoins", unfollowed := true, recurses := true, apart := false, narrowed := true }
def PinJoinsUptoSaid : Prop := pinJoinsUptoRow.holds Try.pinned (OpenSpec.upto pinJoinsSpec)

/-- 'bakelaw1.PinBuses', WHERE WHAT IT READS IS OF BULK AT MOST 1048576: true; the input reads as it did. -/
def pinBusesUptoRow : OpenClaim := { program := "ytgiociijhpimoaa", sum := "b03ac51585b726e508f1ae334df9fb166cb94c8d60032292e67daaff7b789106", func := "bakelite/bakelaw1.PinBuses", spec := "pinBuses", apart := false, narrowed := true }
def PinBusesUptoSaid : Prop := pinBusesUptoRow.holds Try.pinned (OpenSpec.upto pinBusesSpec)

/-- 'bakekeep1.PinOrder', WHERE WHAT IT READS IS OF BULK AT MOST 1048576: true; the input reads as it did. -/
def pinOrderUptoRow : OpenClaim := { program := "ytgiociijhpimoaa", sum := "b03ac51585b726e508f1ae334df9fb166cb94c8d60032292e67daaff7b789106", func := "bakelite/bakekeep1.PinOrder", spec := "pinOrder", inPlace := ["slices.overlaps[int]"], apart := false, narrowed := true }
def PinOrderUptoSaid : Prop := pinOrderUptoRow.holds Try.pinned (OpenSpec.upto pinOrderSpec)

/-- 'bakekeep1.PinBytes', WHERE WHAT IT READS IS OF BULK AT MOST 1048576: true; the input reads as it did. -/
def pinBytesUptoRow : OpenClaim := { program := "ytgiociijhpimoaa", sum := "b03ac51585b726e508f1ae334df9fb166cb94c8d60032292e67daaff7b789106", func := "bakelite/bakekeep1.PinBytes", spec := "pinBytes", apart := false, narrowed := true }
def PinBytesUptoSaid : Prop := pinBytesUptoRow.holds Try.pinned (OpenSpec.upto pinBytesSpec)

end Rows
end Go.Proofs.Ytgiociijhpimoaa
