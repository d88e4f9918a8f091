/-
  No cell of these rows narrows 'for every input' (looked for: loops, veiled, ifaces, maps, wideKeys, modest, calm, conditions, laid).
  DERIVED. THE GIVEN ROWS OF THIS SEAT. 3 by the template 'for every input the law returns true; each argument reads behind the call as it read before'; 0 by the template 'total and deterministic' (their statements: YtakaebjojgeehaaGreatTotals.lean).
  GIVEN WITH THE SEED: the statements are not yours to turn. If you find one false, say at which input.
  Laid BY PROGRAM, IN A SANDBOX (cutbox-rows.mjs): the forced cells as the released guide's own fill.sh prints them over the translation 83fa8c173c34905e… (all of the seat's roots in one cut). By AI agents, Wed Nov 11 2026. No macro, syntax, notation, axiom, sorry.
-/
import Derived.Test.YtakaebjojgeehaaGreatChecked
import GoSem.Claim
import GoSem.ClaimJoined
import GoSem.ClaimMapViews
import Derived.JoinedTies
import Derived.KernelRfl
namespace Go.Proofs.YtakaebjojgeehaaGreat
/- THE CELL 'sum', in the pinned program and in every row, IS THE sha256 OF THE DUMP (.gsa) THAT YtakaebjojgeehaaGreatProg.lean LOADS. Nothing in Lean hashes anything: it is a label: what it is worth is what the hold of that sum in a sandbox is worth. -/
noncomputable def Tryz.pinned : Pinned := { name := "ytakaebjojgeehaagreat", sum := "83fa8c173c34905e839ab3e8f4f263316ed41d0f10be9489f01cb108f1e8575c", checked := Tryz.checked }
namespace Rows
def none {H : Type} : Left H := { results := [], args := [] }

/-- 'bakelaw1.ChipTicks': WHATEVER THE INPUT: true; the input reads as it did. -/
def chipTicksSpec : ChangeSpec := { name := "chipTicks", fn := fun _ => fun
  | [d1, d2, d3] => { results := [.lit (.bool true)], args := [d1, d2, d3] }
  | _ => none }
def chipTicksRow : OpenClaim := { program := "ytakaebjojgeehaagreat", sum := "83fa8c173c34905e839ab3e8f4f263316ed41d0f10be9489f01cb108f1e8575c", func := "bakelite/bakelaw1.ChipTicks", spec := "chipTicks", unfollowed := true, recurses := true, apart := false }
def ChipTicksSaid : Prop := chipTicksRow.holds Tryz.pinned (OpenSpec.ofChange chipTicksSpec)

/-- ITS FALSE NEIGHBOUR: 'it returns false'. Refute it at one input. -/
def chipTicksWrong : ChangeSpec := { name := "chipTicks", fn := fun _ => fun
  | [d1, d2, d3] => { results := [.lit (.bool false)], args := [d1, d2, d3] }
  | _ => none }
def ChipTicksWrongFalsely : Prop := chipTicksRow.holds Tryz.pinned (OpenSpec.ofChange chipTicksWrong)

/-- 'bakekeep1.ChipParts': WHATEVER THE INPUT: true; the input reads as it did. -/
def chipPartsSpec : ChangeSpec := { name := "chipParts", fn := fun _ => fun
  | [d1, d2, d3, d4, d5] => { results := [.lit (.bool true)], args := [d1, d2, d3, d4, d5] }
  | _ => none }
def chipPartsRow : OpenClaim := { program := "ytakaebjojgeehaagreat", sum := "83fa8c173c34905e839ab3e8f4f263316ed41d0f10be9489f01cb108f1e8575c", func := "bakelite/bakekeep1.ChipParts", spec := "chipParts", unfollowed := true, recurses := true, apart := false }
def ChipPartsSaid : Prop := chipPartsRow.holds Tryz.pinned (OpenSpec.ofChange chipPartsSpec)

/-- ITS FALSE NEIGHBOUR: 'it returns false'. Refute it at one input. -/
def chipPartsWrong : ChangeSpec := { name := "chipParts", fn := fun _ => fun
  | [d1, d2, d3, d4, d5] => { results := [.lit (.bool false)], args := [d1, d2, d3, d4, d5] }
  | _ => none }
def ChipPartsWrongFalsely : Prop := chipPartsRow.holds Tryz.pinned (OpenSpec.ofChange chipPartsWrong)

/-- 'bakekeep1.ChipQuiet': WHATEVER THE INPUT: true; the input reads as it did. -/
def chipQuietSpec : ChangeSpec := { name := "chipQuiet", fn := fun _ => fun
  | [d1, d2, d3, d4] => { results := [.lit (.bool true)], args := [d1, d2, d3, d4] }
  | _ => none }
def chipQuietRow : OpenClaim := { program := "ytakaebjojgeehaagreat", sum := "83fa8c173c34905e839ab3e8f4f263316ed41d0f10be9489f01cb108f1e8575c", func := "bakelite/bakekeep1.ChipQuiet", spec := "chipQuiet", unfollowed := true, recurses := true, apart := false }
def ChipQuietSaid : Prop := chipQuietRow.holds Tryz.pinned (OpenSpec.ofChange chipQuietSpec)

/-- ITS FALSE NEIGHBOUR: 'it returns false'. Refute it at one input. -/
def chipQuietWrong : ChangeSpec := { name := "chipQuiet", fn := fun _ => fun
  | [d1, d2, d3, d4] => { results := [.lit (.bool false)], args := [d1, d2, d3, d4] }
  | _ => none }
def ChipQuietWrongFalsely : Prop := chipQuietRow.holds Tryz.pinned (OpenSpec.ofChange chipQuietWrong)

/- THE SECOND FORM. 'bulk': how many values and letters a reading holds, each counted each time it is reached (what is shared counts as often as it is met; a slice's spare places count too). A statement '..UptoSaid' is the law's where the arguments, and the package variables that the reading takes, are together of bulk at most 1048576: NARROWER than '..Said'. Prove '..Said' where nothing that the law and all that it calls make is longer than what came in: it says more and counts as full. Else prove '..UptoSaid'. A law counts once. -/
mutual
def uptoBulk {H : Type} : DataW H → Nat
  | .lit (.string bytes) => bytes.length + 1
  | .lit _ => 1
  | .nil => 1
  | .ptr d => uptoBulk d + 1
  | .slice elems spare => uptoBulkAll elems + uptoBulkAll spare + 1
  | .agg parts => uptoBulkAll parts + 1
  | .iface _ d => uptoBulk d + 1
  | .map entries => uptoBulkEntries entries + 1
  | .held _ => 1
def uptoBulkAll {H : Type} : List (DataW H) → Nat
  | [] => 0
  | d :: r => uptoBulk d + uptoBulkAll r
def uptoBulkEntries {H : Type} : List (Lit × DataW H) → Nat
  | [] => 0
  | x :: r => uptoBulkEntry x + uptoBulkEntries r
def uptoBulkEntry {H : Type} : Lit × DataW H → Nat
  | (.string bytes, d) => bytes.length + uptoBulk d + 1
  | (_, d) => uptoBulk d + 1
 end
def uptoSmall : (H : Type) → List (DataW H) → Bool := fun _ ds => decide (uptoBulkAll ds ≤ 1048576)
def OpenSpec.upto (s : _root_.Go.ChangeSpec) : _root_.Go.OpenSpec := { _root_.Go.OpenSpec.ofChange s with cond := some uptoSmall }

/-- 'bakelaw1.ChipTicks', WHERE WHAT IT READS IS OF BULK AT MOST 1048576: true; the input reads as it did. -/
def chipTicksUptoRow : OpenClaim := { program := "ytakaebjojgeehaagreat", sum := "83fa8c173c34905e839ab3e8f4f263316ed41d0f10be9489f01cb108f1e8575c", func := "bakelite/bakelaw1.ChipTicks", spec := "chipTicks", unfollowed := true, recurses := true, apart := false, narrowed := true }
def ChipTicksUptoSaid : Prop := chipTicksUptoRow.holds Tryz.pinned (OpenSpec.upto chipTicksSpec)

/-- 'bakekeep1.ChipParts', WHERE WHAT IT READS IS OF BULK AT MOST 1048576: true; the input reads as it did. -/
def chipPartsUptoRow : OpenClaim := { program := "ytakaebjojgeehaagreat", sum := "83fa8c173c34905e839ab3e8f4f263316ed41d0f10be9489f01cb108f1e8575c", func := "bakelite/bakekeep1.ChipParts", spec := "chipParts", unfollowed := true, recurses := true, apart := false, narrowed := true }
def ChipPartsUptoSaid : Prop := chipPartsUptoRow.holds Tryz.pinned (OpenSpec.upto chipPartsSpec)

/-- 'bakekeep1.ChipQuiet', WHERE WHAT IT READS IS OF BULK AT MOST 1048576: true; the input reads as it did. -/
def chipQuietUptoRow : OpenClaim := { program := "ytakaebjojgeehaagreat", sum := "83fa8c173c34905e839ab3e8f4f263316ed41d0f10be9489f01cb108f1e8575c", func := "bakelite/bakekeep1.ChipQuiet", spec := "chipQuiet", unfollowed := true, recurses := true, apart := false, narrowed := true }
def ChipQuietUptoSaid : Prop := chipQuietUptoRow.holds Tryz.pinned (OpenSpec.upto chipQuietSpec)

end Rows
end Go.Proofs.YtakaebjojgeehaaGreat
