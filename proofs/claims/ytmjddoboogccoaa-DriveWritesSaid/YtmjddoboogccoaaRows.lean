/-
  No cell of these rows narrows 'for every input' (looked for: loops, veiled, ifaces, maps, wideKeys, modest, calm, conditions, laid).
  DERIVED. THE GIVEN ROWS OF THIS SEAT. 6 by the template 'for every input the law returns true; each argument reads behind the call as it read before'; 0 by the template 'total and deterministic' (their statements: YtmjddoboogccoaaTotals.lean).
  GIVEN WITH THE SEED: the statements are not yours to turn. If you find one false, say at which input.
  Laid BY PROGRAM, IN A SANDBOX (cutbox-rows.mjs): the forced cells as the released guide's own fill.sh prints them over the translation 8d5a920e4fa5df9e… (all of the seat's roots in one cut). By AI agents, Wed Nov 11 2026. No macro, syntax, notation, axiom, sorry.
-/
import Derived.Test.YtmjddoboogccoaaChecked
import GoSem.Claim
import GoSem.ClaimJoined
import GoSem.ClaimMapViews
import Derived.JoinedTies
import Derived.KernelRfl
namespace Go.Proofs.Ytmjddoboogccoaa
/- THE CELL 'sum', in the pinned program and in every row, IS THE sha256 OF THE DUMP (.gsa) THAT YtmjddoboogccoaaProg.lean LOADS. Nothing in Lean hashes anything: it is a label: what it is worth is what the hold of that sum in a sandbox is worth. -/
noncomputable def Try.pinned : Pinned := { name := "ytmjddoboogccoaa", sum := "8d5a920e4fa5df9e4f89cc4a18ba501659588704bbcd2745d1d5c17e634e302a", checked := Try.checked }
namespace Rows
def none {H : Type} : Left H := { results := [], args := [] }

/-- 'bakelaw1.DriveActs': WHATEVER THE INPUT: true; the input reads as it did. -/
def driveActsSpec : ChangeSpec := { name := "driveActs", fn := fun _ => fun
  | [d1, d2, d3] => { results := [.lit (.bool true)], args := [d1, d2, d3] }
  | _ => none }
def driveActsRow : OpenClaim := { program := "ytmjddoboogccoaa", sum := "8d5a920e4fa5df9e4f89cc4a18ba501659588704bbcd2745d1d5c17e634e302a", func := "bakelite/bakelaw1.DriveActs", spec := "driveActs", unfollowed := true, recurses := true, apart := false }
def DriveActsSaid : Prop := driveActsRow.holds Try.pinned (OpenSpec.ofChange driveActsSpec)

/-- ITS FALSE NEIGHBOUR: 'it returns false'. Refute it at one input. -/
def driveActsWrong : ChangeSpec := { name := "driveActs", fn := fun _ => fun
  | [d1, d2, d3] => { results := [.lit (.bool false)], args := [d1, d2, d3] }
  | _ => none }
def DriveActsWrongFalsely : Prop := driveActsRow.holds Try.pinned (OpenSpec.ofChange driveActsWrong)

/-- 'bakelaw1.DriveTicks': WHATEVER THE INPUT: true; the input reads as it did. -/
def driveTicksSpec : ChangeSpec := { name := "driveTicks", fn := fun _ => fun
  | [d1, d2] => { results := [.lit (.bool true)], args := [d1, d2] }
  | _ => none }
def driveTicksRow : OpenClaim := { program := "ytmjddoboogccoaa", sum := "8d5a920e4fa5df9e4f89cc4a18ba501659588704bbcd2745d1d5c17e634e302a", func := "bakelite/bakelaw1.DriveTicks", spec := "driveTicks", apart := false }
def DriveTicksSaid : Prop := driveTicksRow.holds Try.pinned (OpenSpec.ofChange driveTicksSpec)

/-- ITS FALSE NEIGHBOUR: 'it returns false'. Refute it at one input. -/
def driveTicksWrong : ChangeSpec := { name := "driveTicks", fn := fun _ => fun
  | [d1, d2] => { results := [.lit (.bool false)], args := [d1, d2] }
  | _ => none }
def DriveTicksWrongFalsely : Prop := driveTicksRow.holds Try.pinned (OpenSpec.ofChange driveTicksWrong)

/-- 'bakelaw1.DriveDisks': WHATEVER THE INPUT: true; the input reads as it did. -/
def driveDisksSpec : ChangeSpec := { name := "driveDisks", fn := fun _ => fun
  | [d] => { results := [.lit (.bool true)], args := [d] }
  | _ => none }
def driveDisksRow : OpenClaim := { program := "ytmjddoboogccoaa", sum := "8d5a920e4fa5df9e4f89cc4a18ba501659588704bbcd2745d1d5c17e634e302a", func := "bakelite/bakelaw1.DriveDisks", spec := "driveDisks", apart := false }
def DriveDisksSaid : Prop := driveDisksRow.holds Try.pinned (OpenSpec.ofChange driveDisksSpec)

/-- ITS FALSE NEIGHBOUR: 'it returns false'. Refute it at one input. -/
def driveDisksWrong : ChangeSpec := { name := "driveDisks", fn := fun _ => fun
  | [d] => { results := [.lit (.bool false)], args := [d] }
  | _ => none }
def DriveDisksWrongFalsely : Prop := driveDisksRow.holds Try.pinned (OpenSpec.ofChange driveDisksWrong)

/-- 'bakekeep1.DriveReads': WHATEVER THE INPUT: true; the input reads as it did. -/
def driveReadsSpec : ChangeSpec := { name := "driveReads", fn := fun _ => fun
  | [d1, d2, d3] => { results := [.lit (.bool true)], args := [d1, d2, d3] }
  | _ => none }
def driveReadsRow : OpenClaim := { program := "ytmjddoboogccoaa", sum := "8d5a920e4fa5df9e4f89cc4a18ba501659588704bbcd2745d1d5c17e634e302a", func := "bakelite/bakekeep1.DriveReads", spec := "driveReads", apart := false }
def DriveReadsSaid : Prop := driveReadsRow.holds Try.pinned (OpenSpec.ofChange driveReadsSpec)

/-- ITS FALSE NEIGHBOUR: 'it returns false'. Refute it at one input. -/
def driveReadsWrong : ChangeSpec := { name := "driveReads", fn := fun _ => fun
  | [d1, d2, d3] => { results := [.lit (.bool false)], args := [d1, d2, d3] }
  | _ => none }
def DriveReadsWrongFalsely : Prop := driveReadsRow.holds Try.pinned (OpenSpec.ofChange driveReadsWrong)

/-- 'bakekeep1.DriveWrites': WHATEVER THE INPUT: true; the input reads as it did. -/
def driveWritesSpec : ChangeSpec := { name := "driveWrites", fn := fun _ => fun
  | [d1, d2, d3, d4] => { results := [.lit (.bool true)], args := [d1, d2, d3, d4] }
  | _ => none }
def driveWritesRow : OpenClaim := { program := "ytmjddoboogccoaa", sum := "8d5a920e4fa5df9e4f89cc4a18ba501659588704bbcd2745d1d5c17e634e302a", func := "bakelite/bakekeep1.DriveWrites", spec := "driveWrites", apart := false }
def DriveWritesSaid : Prop := driveWritesRow.holds Try.pinned (OpenSpec.ofChange driveWritesSpec)

/-- ITS FALSE NEIGHBOUR: 'it returns false'. Refute it at one input. -/
def driveWritesWrong : ChangeSpec := { name := "driveWrites", fn := fun _ => fun
  | [d1, d2, d3, d4] => { results := [.lit (.bool false)], args := [d1, d2, d3, d4] }
  | _ => none }
def DriveWritesWrongFalsely : Prop := driveWritesRow.holds Try.pinned (OpenSpec.ofChange driveWritesWrong)

/-- 'bakekeep1.DriveSteps': WHATEVER THE INPUT: true; the input reads as it did. -/
def driveStepsSpec : ChangeSpec := { name := "driveSteps", fn := fun _ => fun
  | [d] => { results := [.lit (.bool true)], args := [d] }
  | _ => none }
def driveStepsRow : OpenClaim := { program := "ytmjddoboogccoaa", sum := "8d5a920e4fa5df9e4f89cc4a18ba501659588704bbcd2745d1d5c17e634e302a", func := "bakelite/bakekeep1.DriveSteps", spec := "driveSteps", apart := false }
def DriveStepsSaid : Prop := driveStepsRow.holds Try.pinned (OpenSpec.ofChange driveStepsSpec)

/-- ITS FALSE NEIGHBOUR: 'it returns false'. Refute it at one input. -/
def driveStepsWrong : ChangeSpec := { name := "driveSteps", fn := fun _ => fun
  | [d] => { results := [.lit (.bool false)], args := [d] }
  | _ => none }
def DriveStepsWrongFalsely : Prop := driveStepsRow.holds Try.pinned (OpenSpec.ofChange driveStepsWrong)

/- THE SECOND FORM. 'bulk': how many values and letters a reading holds, each counted each time it is reached (what is shared counts as often as it is met; a slice's spare places count too). A statement '..UptoSaid' is the law's where the arguments, and the package variables that the reading takes, are together of bulk at most 1048576: NARROWER than '..Said'. Prove '..Said' where nothing that the law and all that it calls make is longer than what came in: it says more and counts as full. Else prove '..UptoSaid'. A law counts once. -/
mutual
def uptoBulk {H : Type} : DataW H → Nat
  | .lit (.string bytes) => bytes.length + 1
  | .lit _ => 1
  | .nil => 1
  | .ptr d => uptoBulk d + 1
  | .slice elems spare => uptoBulkAll elems + uptoBulkAll spare + 1
  | .agg parts => uptoBulkAll parts + 1
  | .iface _ d => uptoBulk d + 1
  | .map entries => uptoBulkEntries entries + 1
  | .held _ => 1
def uptoBulkAll {H : Type} : List (DataW H) → Nat
  | [] => 0
  | d :: r => uptoBulk d + uptoBulkAll r
def uptoBulkEntries {H : Type} : List (Lit × DataW H) → Nat
  | [] => 0
  | x :: r => uptoBulkEntry x + uptoBulkEntries r
def uptoBulkEntry {H : Type} : Lit × DataW H → Nat
  | (.string bytes, d) => bytes.length + uptoBulk d + 1
  | (_, d) => uptoBulk d + 1
 end
def uptoSmall : (H : Type) → List (DataW H) → Bool := fun _ ds => decide (uptoBulkAll ds ≤ 1048576)
def OpenSpec.upto (s : _root_.Go.ChangeSpec) : _root_.Go.OpenSpec := { _root_.Go.OpenSpec.ofChange s with cond := some uptoSmall }

/-- 'bakelaw1.DriveActs', WHERE WHAT IT READS IS OF BULK AT MOST 1048576: true; the input reads as it did. -/
def driveActsUptoRow : OpenClaim := { program := "ytmjddoboogccoaa", sum := "8d5a920e4fa5df9e4f89cc4a18ba501659588704bbcd2745d1d5c17e634e302a", func := "bakelite/bakelaw1.DriveActs", spec := "driveActs", unfollowed := true, recurses := true, apart := false, narrowed := true }
def DriveActsUptoSaid : Prop := driveActsUptoRow.holds Try.pinned (OpenSpec.upto driveActsSpec)

/-- 'bakelaw1.DriveTicks', WHERE WHAT IT READS IS OF BULK AT MOST 1048576: true; the input reads as it did. -/
def driveTicksUptoRow : OpenClaim := { program := "ytmjddoboogccoaa", sum := "8d5a920e4fa5df9e4f89cc4a18ba501659588704bbcd2745d1d5c17e634e302a", func := "bakelite/bakelaw1.DriveTicks", spec := "driveTicks", apart := false, narrowed := true }
def DriveTicksUptoSaid : Prop := driveTicksUptoRow.holds Try.pinned (OpenSpec.upto driveTicksSpec)

/-- 'bakelaw1.DriveDisks', WHERE WHAT IT READS IS OF BULK AT MOST 1048576: true; the input reads as it did. -/
def driveDisksUptoRow : OpenClaim := { program := "ytmjddoboogccoaa", sum := "8d5a920e4fa5df9e4f89cc4a18ba501659588704bbcd2745d1d5c17e634e302a", func := "bakelite/bakelaw1.DriveDisks", spec := "driveDisks", apart := false, narrowed := true }
def DriveDisksUptoSaid : Prop := driveDisksUptoRow.holds Try.pinned (OpenSpec.upto driveDisksSpec)

/-- 'bakekeep1.DriveReads', WHERE WHAT IT READS IS OF BULK AT MOST 1048576: true; the input reads as it did. -/
def driveReadsUptoRow : OpenClaim := { program := "ytmjddoboogccoaa", sum := "8d5a920e4fa5df9e4f89cc4a18ba501659588704bbcd2745d1d5c17e634e302a", func := "bakelite/bakekeep1.DriveReads", spec := "driveReads", apart := false, narrowed := true }
def DriveReadsUptoSaid : Prop := driveReadsUptoRow.holds Try.pinned (OpenSpec.upto driveReadsSpec)

/-- 'bakekeep1.DriveWrites', WHERE WHAT IT READS IS OF BULK AT MOST 1048576: true; the input reads as it did. -/
def driveWritesUptoRow : OpenClaim := { program := "ytmjddoboogccoaa", sum := "8d5a920e4fa5df9e4f89cc4a18ba501659588704bbcd2745d1d5c17e634e302a", func := "bakelite/bakekeep1.DriveWrites", spec := "driveWrites", apart := false, narrowed := true }
def DriveWritesUptoSaid : Prop := driveWritesUptoRow.holds Try.pinned (OpenSpec.upto driveWritesSpec)

/-- 'bakekeep1.DriveSteps', WHERE WHAT IT READS IS OF BULK AT MOST 1048576: true; the input reads as it did. -/
def driveStepsUptoRow : OpenClaim := { program := "ytmjddoboogccoaa", sum := "8d5a920e4fa5df9e4f89cc4a18ba501659588704bbcd2745d1d5c17e634e302a", func := "bakelite/bakekeep1.DriveSteps", spec := "driveSteps", apart := false, narrowed := true }
def DriveStepsUptoSaid : Prop := driveStepsUptoRow.holds Try.pinned (OpenSpec.upto driveStepsSpec)

end Rows
end Go.Proofs.Ytmjddoboogccoaa
