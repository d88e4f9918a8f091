/-
  No cell of these rows narrows 'for every input' (looked for: loops, veiled, ifaces, maps, wideKeys, modest, calm, conditions, laid).
  DERIVED. THE GIVEN ROWS OF THIS SEAT. 5 by the template 'for every input the law returns true; each argument reads behind the call as it read before'; 0 by the template 'total and deterministic' (their statements: YtofodkilbigbdaaTotals.lean).
  GIVEN WITH THE SEED: the statements are not yours to turn. If you find one false, say at which input.
  Laid BY PROGRAM, IN A SANDBOX (cutbox-rows.mjs): the forced cells as the released guide's own fill.sh prints them over the translation 2fe775ee7f1d6140… (all of the seat's roots in one cut). By AI agents, Wed Nov 11 2026. No macro, syntax, notation, axiom, sorry.
-/
import Derived.Test.YtofodkilbigbdaaChecked
import GoSem.Claim
import GoSem.ClaimJoined
import GoSem.ClaimMapViews
import Derived.JoinedTies
import Derived.KernelRfl
namespace Go.Proofs.Ytofodkilbigbdaa
/- THE CELL 'sum', in the pinned program and in every row, IS THE sha256 OF THE DUMP (.gsa) THAT YtofodkilbigbdaaProg.lean LOADS. Nothing in Lean hashes anything: it is a label: what it is worth is what the hold of that sum in a sandbox is worth. -/
noncomputable def Try.pinned : Pinned := { name := "ytofodkilbigbdaa", sum := "2fe775ee7f1d61405dff0651a090ba838205af45024d5dd457f849c1497cfbaf", checked := Try.checked }
namespace Rows
def none {H : Type} : Left H := { results := [], args := [] }

/-- 'bakelaw1.SerialActs': WHATEVER THE INPUT: true; the input reads as it did. -/
def serialActsSpec : ChangeSpec := { name := "serialActs", fn := fun _ => fun
  | [d1, d2, d3] => { results := [.lit (.bool true)], args := [d1, d2, d3] }
  | _ => none }
def serialActsRow : OpenClaim := { program := "ytofodkilbigbdaa", sum := "2fe775ee7f1d61405dff0651a090ba838205af45024d5dd457f849c1497cfbaf", func := "bakelite/bakelaw1.SerialActs", spec := "serialActs", unfollowed := true, recurses := true, apart := false }
def SerialActsSaid : Prop := serialActsRow.holds Try.pinned (OpenSpec.ofChange serialActsSpec)

/-- ITS FALSE NEIGHBOUR: 'it returns false'. Refute it at one input. -/
def serialActsWrong : ChangeSpec := { name := "serialActs", fn := fun _ => fun
  | [d1, d2, d3] => { results := [.lit (.bool false)], args := [d1, d2, d3] }
  | _ => none }
def SerialActsWrongFalsely : Prop := serialActsRow.holds Try.pinned (OpenSpec.ofChange serialActsWrong)

/-- 'bakelaw1.SerialTicks': WHATEVER THE INPUT: true; the input reads as it did. -/
def serialTicksSpec : ChangeSpec := { name := "serialTicks", fn := fun _ => fun
  | [d1, d2] => { results := [.lit (.bool true)], args := [d1, d2] }
  | _ => none }
def serialTicksRow : OpenClaim := { program := "ytofodkilbigbdaa", sum := "2fe775ee7f1d61405dff0651a090ba838205af45024d5dd457f849c1497cfbaf", func := "bakelite/bakelaw1.SerialTicks", spec := "serialTicks", apart := false }
def SerialTicksSaid : Prop := serialTicksRow.holds Try.pinned (OpenSpec.ofChange serialTicksSpec)

/-- ITS FALSE NEIGHBOUR: 'it returns false'. Refute it at one input. -/
def serialTicksWrong : ChangeSpec := { name := "serialTicks", fn := fun _ => fun
  | [d1, d2] => { results := [.lit (.bool false)], args := [d1, d2] }
  | _ => none }
def SerialTicksWrongFalsely : Prop := serialTicksRow.holds Try.pinned (OpenSpec.ofChange serialTicksWrong)

/-- 'bakekeep1.SerialSends': WHATEVER THE INPUT: true; the input reads as it did. -/
def serialSendsSpec : ChangeSpec := { name := "serialSends", fn := fun _ => fun
  | [d1, d2, d3] => { results := [.lit (.bool true)], args := [d1, d2, d3] }
  | _ => none }
def serialSendsRow : OpenClaim := { program := "ytofodkilbigbdaa", sum := "2fe775ee7f1d61405dff0651a090ba838205af45024d5dd457f849c1497cfbaf", func := "bakelite/bakekeep1.SerialSends", spec := "serialSends", apart := false }
def SerialSendsSaid : Prop := serialSendsRow.holds Try.pinned (OpenSpec.ofChange serialSendsSpec)

/-- ITS FALSE NEIGHBOUR: 'it returns false'. Refute it at one input. -/
def serialSendsWrong : ChangeSpec := { name := "serialSends", fn := fun _ => fun
  | [d1, d2, d3] => { results := [.lit (.bool false)], args := [d1, d2, d3] }
  | _ => none }
def SerialSendsWrongFalsely : Prop := serialSendsRow.holds Try.pinned (OpenSpec.ofChange serialSendsWrong)

/-- 'bakekeep1.SerialHears': WHATEVER THE INPUT: true; the input reads as it did. -/
def serialHearsSpec : ChangeSpec := { name := "serialHears", fn := fun _ => fun
  | [d1, d2] => { results := [.lit (.bool true)], args := [d1, d2] }
  | _ => none }
def serialHearsRow : OpenClaim := { program := "ytofodkilbigbdaa", sum := "2fe775ee7f1d61405dff0651a090ba838205af45024d5dd457f849c1497cfbaf", func := "bakelite/bakekeep1.SerialHears", spec := "serialHears", apart := false }
def SerialHearsSaid : Prop := serialHearsRow.holds Try.pinned (OpenSpec.ofChange serialHearsSpec)

/-- ITS FALSE NEIGHBOUR: 'it returns false'. Refute it at one input. -/
def serialHearsWrong : ChangeSpec := { name := "serialHears", fn := fun _ => fun
  | [d1, d2] => { results := [.lit (.bool false)], args := [d1, d2] }
  | _ => none }
def SerialHearsWrongFalsely : Prop := serialHearsRow.holds Try.pinned (OpenSpec.ofChange serialHearsWrong)

/-- 'bakekeep1.SerialAsks': WHATEVER THE INPUT: true; the input reads as it did. -/
def serialAsksSpec : ChangeSpec := { name := "serialAsks", fn := fun _ => fun
  | [d1, d2] => { results := [.lit (.bool true)], args := [d1, d2] }
  | _ => none }
def serialAsksRow : OpenClaim := { program := "ytofodkilbigbdaa", sum := "2fe775ee7f1d61405dff0651a090ba838205af45024d5dd457f849c1497cfbaf", func := "bakelite/bakekeep1.SerialAsks", spec := "serialAsks", apart := false }
def SerialAsksSaid : Prop := serialAsksRow.holds Try.pinned (OpenSpec.ofChange serialAsksSpec)

/-- ITS FALSE NEIGHBOUR: 'it returns false'. Refute it at one input. -/
def serialAsksWrong : ChangeSpec := { name := "serialAsks", fn := fun _ => fun
  | [d1, d2] => { results := [.lit (.bool false)], args := [d1, d2] }
  | _ => none }
def SerialAsksWrongFalsely : Prop := serialAsksRow.holds Try.pinned (OpenSpec.ofChange serialAsksWrong)

/- THE SECOND FORM. 'bulk': how many values and letters a reading holds, each counted each time it is reached (what is shared counts as often as it is met; a slice's spare places count too). A statement '..UptoSaid' is the law's where the arguments, and the package variables that the reading takes, are together of bulk at most 1048576: NARROWER than '..Said'. Prove '..Said' where nothing that the law and all that it calls make is longer than what came in: it says more and counts as full. Else prove '..UptoSaid'. A law counts once. -/
mutual
def uptoBulk {H : Type} : DataW H → Nat
  | .lit (.string bytes) => bytes.length + 1
  | .lit _ => 1
  | .nil => 1
  | .ptr d => uptoBulk d + 1
  | .slice elems spare => uptoBulkAll elems + uptoBulkAll spare + 1
  | .agg parts => uptoBulkAll parts + 1
  | .iface _ d => uptoBulk d + 1
  | .map entries => uptoBulkEntries entries + 1
  | .held _ => 1
def uptoBulkAll {H : Type} : List (DataW H) → Nat
  | [] => 0
  | d :: r => uptoBulk d + uptoBulkAll r
def uptoBulkEntries {H : Type} : List (Lit × DataW H) → Nat
  | [] => 0
  | x :: r => uptoBulkEntry x + uptoBulkEntries r
def uptoBulkEntry {H : Type} : Lit × DataW H → Nat
  | (.string bytes, d) => bytes.length + uptoBulk d + 1
  | (_, d) => uptoBulk d + 1
 end
def uptoSmall : (H : Type) → List (DataW H) → Bool := fun _ ds => decide (uptoBulkAll ds ≤ 1048576)
def OpenSpec.upto (s : _root_.Go.ChangeSpec) : _root_.Go.OpenSpec := { _root_.Go.OpenSpec.ofChange s with cond := some uptoSmall }

/-- 'bakelaw1.SerialActs', WHERE WHAT IT READS IS OF BULK AT MOST 1048576: true; the input reads as it did. -/
def serialActsUptoRow : OpenClaim := { program := "ytofodkilbigbdaa", sum := "2fe775ee7f1d61405dff0651a090ba838205af45024d5dd457f849c1497cfbaf", func := "bakelite/bakelaw1.SerialActs", spec := "serialActs", unfollowed := true, recurses := true, apart := false, narrowed := true }
def SerialActsUptoSaid : Prop := serialActsUptoRow.holds Try.pinned (OpenSpec.upto serialActsSpec)

/-- 'bakelaw1.SerialTicks', WHERE WHAT IT READS IS OF BULK AT MOST 1048576: true; the input reads as it did. -/
def serialTicksUptoRow : OpenClaim := { program := "ytofodkilbigbdaa", sum := "2fe775ee7f1d61405dff0651a090ba838205af45024d5dd457f849c1497cfbaf", func := "bakelite/bakelaw1.SerialTicks", spec := "serialTicks", apart := false, narrowed := true }
def SerialTicksUptoSaid : Prop := serialTicksUptoRow.holds Try.pinned (OpenSpec.upto serialTicksSpec)

/-- 'bakekeep1.SerialSends', WHERE WHAT IT READS IS OF BULK AT MOST 1048576: true; the input reads as it did. -/
def serialSendsUptoRow : OpenClaim := { program := "ytofodkilbigbdaa", sum := "2fe775ee7f1d61405dff0651a090ba838205af45024d5dd457f849c1497cfbaf", func := "bakelite/bakekeep1.SerialSends", spec := "serialSends", apart := false, narrowed := true }
def SerialSendsUptoSaid : Prop := serialSendsUptoRow.holds Try.pinned (OpenSpec.upto serialSendsSpec)

/-- 'bakekeep1.SerialHears', WHERE WHAT IT READS IS OF BULK AT MOST 1048576: true; the input reads as it did. -/
def serialHearsUptoRow : OpenClaim := { program := "ytofodkilbigbdaa", sum := "2fe775ee7f1d61405dff0651a090ba838205af45024d5dd457f849c1497cfbaf", func := "bakelite/bakekeep1.SerialHears", spec := "serialHears", apart := false, narrowed := true }
def SerialHearsUptoSaid : Prop := serialHearsUptoRow.holds Try.pinned (OpenSpec.upto serialHearsSpec)

/-- 'bakekeep1.SerialAsks', WHERE WHAT IT READS IS OF BULK AT MOST 1048576: true; the input reads as it did. -/
def serialAsksUptoRow : OpenClaim := { program := "ytofodkilbigbdaa", sum := "2fe775ee7f1d61405dff0651a090ba838205af45024d5dd457f849c1497cfbaf", func := "bakelite/bakekeep1.SerialAsks", spec := "serialAsks", apart := false, narrowed := true }
def SerialAsksUptoSaid : Prop := serialAsksUptoRow.holds Try.pinned (OpenSpec.upto serialAsksSpec)

end Rows
end Go.Proofs.Ytofodkilbigbdaa
