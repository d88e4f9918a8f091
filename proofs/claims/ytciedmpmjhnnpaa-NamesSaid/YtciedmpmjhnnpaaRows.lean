/-
  No cell of these rows narrows 'for every input' (looked for: loops, veiled, ifaces, maps, wideKeys, modest, calm, conditions, laid).
  DERIVED. THE GIVEN ROWS OF THIS SEAT. 9 by the template 'for every input the law returns true; each argument reads behind the call as it read before'; 0 by the template 'total and deterministic' (their statements: YtciedmpmjhnnpaaTotals.lean).
  GIVEN WITH THE SEED: the statements are not yours to turn. If you find one false, say at which input.
  Laid BY PROGRAM, IN A SANDBOX (cutbox-rows.mjs): the forced cells as the released guide's own fill.sh prints them over the translation 7bba309a8c2cf085… (all of the seat's roots in one cut). By AI agents, Wed Nov 11 2026. No macro, syntax, notation, axiom, sorry.
-/
import Derived.Test.YtciedmpmjhnnpaaChecked
import GoSem.Claim
import GoSem.ClaimJoined
import GoSem.ClaimMapViews
import Derived.JoinedTies
import Derived.KernelRfl
namespace Go.Proofs.Ytciedmpmjhnnpaa
/- THE CELL 'sum', in the pinned program and in every row, IS THE sha256 OF THE DUMP (.gsa) THAT YtciedmpmjhnnpaaProg.lean LOADS. Nothing in Lean hashes anything: it is a label: what it is worth is what the hold of that sum in a sandbox is worth. -/
noncomputable def Try.pinned : Pinned := { name := "ytciedmpmjhnnpaa", sum := "7bba309a8c2cf08528d48782d82ca259db2f2c753fc66b7d218d1c55c411f67b", checked := Try.checked }
namespace Rows
def none {H : Type} : Left H := { results := [], args := [] }

/-- 'bakelaw1.Names': WHATEVER THE INPUT: true; the input reads as it did. -/
def namesSpec : ChangeSpec := { name := "names", fn := fun _ => fun
  | [] => { results := [.lit (.bool true)], args := [] }
  | _ => none }
def namesRow : OpenClaim := { program := "ytciedmpmjhnnpaa", sum := "7bba309a8c2cf08528d48782d82ca259db2f2c753fc66b7d218d1c55c411f67b", func := "bakelite/bakelaw1.Names", spec := "names", apart := false }
def NamesSaid : Prop := namesRow.holds Try.pinned (OpenSpec.ofChange namesSpec)

/-- ITS FALSE NEIGHBOUR: 'it returns false'. Refute it at one input. -/
def namesWrong : ChangeSpec := { name := "names", fn := fun _ => fun
  | [] => { results := [.lit (.bool false)], args := [] }
  | _ => none }
def NamesWrongFalsely : Prop := namesRow.holds Try.pinned (OpenSpec.ofChange namesWrong)

/-- 'bakelaw1.BitLows': WHATEVER THE INPUT: true; the input reads as it did. -/
def bitLowsSpec : ChangeSpec := { name := "bitLows", fn := fun _ => fun
  | [d1, d2] => { results := [.lit (.bool true)], args := [d1, d2] }
  | _ => none }
def bitLowsRow : OpenClaim := { program := "ytciedmpmjhnnpaa", sum := "7bba309a8c2cf08528d48782d82ca259db2f2c753fc66b7d218d1c55c411f67b", func := "bakelite/bakelaw1.BitLows", spec := "bitLows", apart := false }
def BitLowsSaid : Prop := bitLowsRow.holds Try.pinned (OpenSpec.ofChange bitLowsSpec)

/-- ITS FALSE NEIGHBOUR: 'it returns false'. Refute it at one input. -/
def bitLowsWrong : ChangeSpec := { name := "bitLows", fn := fun _ => fun
  | [d1, d2] => { results := [.lit (.bool false)], args := [d1, d2] }
  | _ => none }
def BitLowsWrongFalsely : Prop := bitLowsRow.holds Try.pinned (OpenSpec.ofChange bitLowsWrong)

/-- 'bakelaw1.BitAdds': WHATEVER THE INPUT: true; the input reads as it did. -/
def bitAddsSpec : ChangeSpec := { name := "bitAdds", fn := fun _ => fun
  | [d1, d2, d3, d4] => { results := [.lit (.bool true)], args := [d1, d2, d3, d4] }
  | _ => none }
def bitAddsRow : OpenClaim := { program := "ytciedmpmjhnnpaa", sum := "7bba309a8c2cf08528d48782d82ca259db2f2c753fc66b7d218d1c55c411f67b", func := "bakelite/bakelaw1.BitAdds", spec := "bitAdds", apart := false }
def BitAddsSaid : Prop := bitAddsRow.holds Try.pinned (OpenSpec.ofChange bitAddsSpec)

/-- ITS FALSE NEIGHBOUR: 'it returns false'. Refute it at one input. -/
def bitAddsWrong : ChangeSpec := { name := "bitAdds", fn := fun _ => fun
  | [d1, d2, d3, d4] => { results := [.lit (.bool false)], args := [d1, d2, d3, d4] }
  | _ => none }
def BitAddsWrongFalsely : Prop := bitAddsRow.holds Try.pinned (OpenSpec.ofChange bitAddsWrong)

/-- 'bakelaw1.BitFields': WHATEVER THE INPUT: true; the input reads as it did. -/
def bitFieldsSpec : ChangeSpec := { name := "bitFields", fn := fun _ => fun
  | [d1, d2, d3, d4] => { results := [.lit (.bool true)], args := [d1, d2, d3, d4] }
  | _ => none }
def bitFieldsRow : OpenClaim := { program := "ytciedmpmjhnnpaa", sum := "7bba309a8c2cf08528d48782d82ca259db2f2c753fc66b7d218d1c55c411f67b", func := "bakelite/bakelaw1.BitFields", spec := "bitFields", apart := false }
def BitFieldsSaid : Prop := bitFieldsRow.holds Try.pinned (OpenSpec.ofChange bitFieldsSpec)

/-- ITS FALSE NEIGHBOUR: 'it returns false'. Refute it at one input. -/
def bitFieldsWrong : ChangeSpec := { name := "bitFields", fn := fun _ => fun
  | [d1, d2, d3, d4] => { results := [.lit (.bool false)], args := [d1, d2, d3, d4] }
  | _ => none }
def BitFieldsWrongFalsely : Prop := bitFieldsRow.holds Try.pinned (OpenSpec.ofChange bitFieldsWrong)

/-- 'bakelaw1.BitDigits': WHATEVER THE INPUT: true; the input reads as it did. -/
def bitDigitsSpec : ChangeSpec := { name := "bitDigits", fn := fun _ => fun
  | [d1, d2] => { results := [.lit (.bool true)], args := [d1, d2] }
  | _ => none }
def bitDigitsRow : OpenClaim := { program := "ytciedmpmjhnnpaa", sum := "7bba309a8c2cf08528d48782d82ca259db2f2c753fc66b7d218d1c55c411f67b", func := "bakelite/bakelaw1.BitDigits", spec := "bitDigits", apart := false }
def BitDigitsSaid : Prop := bitDigitsRow.holds Try.pinned (OpenSpec.ofChange bitDigitsSpec)

/-- ITS FALSE NEIGHBOUR: 'it returns false'. Refute it at one input. -/
def bitDigitsWrong : ChangeSpec := { name := "bitDigits", fn := fun _ => fun
  | [d1, d2] => { results := [.lit (.bool false)], args := [d1, d2] }
  | _ => none }
def BitDigitsWrongFalsely : Prop := bitDigitsRow.holds Try.pinned (OpenSpec.ofChange bitDigitsWrong)

/-- 'bakekeep1.BitBack': WHATEVER THE INPUT: true; the input reads as it did. -/
def bitBackSpec : ChangeSpec := { name := "bitBack", fn := fun _ => fun
  | [d1, d2, d3] => { results := [.lit (.bool true)], args := [d1, d2, d3] }
  | _ => none }
def bitBackRow : OpenClaim := { program := "ytciedmpmjhnnpaa", sum := "7bba309a8c2cf08528d48782d82ca259db2f2c753fc66b7d218d1c55c411f67b", func := "bakelite/bakekeep1.BitBack", spec := "bitBack", apart := false }
def BitBackSaid : Prop := bitBackRow.holds Try.pinned (OpenSpec.ofChange bitBackSpec)

/-- ITS FALSE NEIGHBOUR: 'it returns false'. Refute it at one input. -/
def bitBackWrong : ChangeSpec := { name := "bitBack", fn := fun _ => fun
  | [d1, d2, d3] => { results := [.lit (.bool false)], args := [d1, d2, d3] }
  | _ => none }
def BitBackWrongFalsely : Prop := bitBackRow.holds Try.pinned (OpenSpec.ofChange bitBackWrong)

/-- 'bakekeep1.BitTurns': WHATEVER THE INPUT: true; the input reads as it did. -/
def bitTurnsSpec : ChangeSpec := { name := "bitTurns", fn := fun _ => fun
  | [d1, d2, d3] => { results := [.lit (.bool true)], args := [d1, d2, d3] }
  | _ => none }
def bitTurnsRow : OpenClaim := { program := "ytciedmpmjhnnpaa", sum := "7bba309a8c2cf08528d48782d82ca259db2f2c753fc66b7d218d1c55c411f67b", func := "bakelite/bakekeep1.BitTurns", spec := "bitTurns", apart := false }
def BitTurnsSaid : Prop := bitTurnsRow.holds Try.pinned (OpenSpec.ofChange bitTurnsSpec)

/-- ITS FALSE NEIGHBOUR: 'it returns false'. Refute it at one input. -/
def bitTurnsWrong : ChangeSpec := { name := "bitTurns", fn := fun _ => fun
  | [d1, d2, d3] => { results := [.lit (.bool false)], args := [d1, d2, d3] }
  | _ => none }
def BitTurnsWrongFalsely : Prop := bitTurnsRow.holds Try.pinned (OpenSpec.ofChange bitTurnsWrong)

/-- 'bakekeep1.BitPlaces': WHATEVER THE INPUT: true; the input reads as it did. -/
def bitPlacesSpec : ChangeSpec := { name := "bitPlaces", fn := fun _ => fun
  | [d1, d2, d3, d4] => { results := [.lit (.bool true)], args := [d1, d2, d3, d4] }
  | _ => none }
def bitPlacesRow : OpenClaim := { program := "ytciedmpmjhnnpaa", sum := "7bba309a8c2cf08528d48782d82ca259db2f2c753fc66b7d218d1c55c411f67b", func := "bakelite/bakekeep1.BitPlaces", spec := "bitPlaces", apart := false }
def BitPlacesSaid : Prop := bitPlacesRow.holds Try.pinned (OpenSpec.ofChange bitPlacesSpec)

/-- ITS FALSE NEIGHBOUR: 'it returns false'. Refute it at one input. -/
def bitPlacesWrong : ChangeSpec := { name := "bitPlaces", fn := fun _ => fun
  | [d1, d2, d3, d4] => { results := [.lit (.bool false)], args := [d1, d2, d3, d4] }
  | _ => none }
def BitPlacesWrongFalsely : Prop := bitPlacesRow.holds Try.pinned (OpenSpec.ofChange bitPlacesWrong)

/-- 'bakekeep1.BitDecimals': WHATEVER THE INPUT: true; the input reads as it did. -/
def bitDecimalsSpec : ChangeSpec := { name := "bitDecimals", fn := fun _ => fun
  | [d] => { results := [.lit (.bool true)], args := [d] }
  | _ => none }
def bitDecimalsRow : OpenClaim := { program := "ytciedmpmjhnnpaa", sum := "7bba309a8c2cf08528d48782d82ca259db2f2c753fc66b7d218d1c55c411f67b", func := "bakelite/bakekeep1.BitDecimals", spec := "bitDecimals", apart := false }
def BitDecimalsSaid : Prop := bitDecimalsRow.holds Try.pinned (OpenSpec.ofChange bitDecimalsSpec)

/-- ITS FALSE NEIGHBOUR: 'it returns false'. Refute it at one input. -/
def bitDecimalsWrong : ChangeSpec := { name := "bitDecimals", fn := fun _ => fun
  | [d] => { results := [.lit (.bool false)], args := [d] }
  | _ => none }
def BitDecimalsWrongFalsely : Prop := bitDecimalsRow.holds Try.pinned (OpenSpec.ofChange bitDecimalsWrong)

/- THE SECOND FORM. 'bulk': how many values and letters a reading holds, each counted each time it is reached (what is shared counts as often as it is met; a slice's spare places count too). A statement '..UptoSaid' is the law's where the arguments, and the package variables that the reading takes, are together of bulk at most 1048576: NARROWER than '..Said'. Prove '..Said' where nothing that the law and all that it calls make is longer than what came in: it says more and counts as full. Else prove '..UptoSaid'. A law counts once. -/
mutual
def uptoBulk {H : Type} : DataW H → Nat
  | .lit (.string bytes) => bytes.length + 1
  | .lit _ => 1
  | .nil => 1
  | .ptr d => uptoBulk d + 1
  | .slice elems spare => uptoBulkAll elems + uptoBulkAll spare + 1
  | .agg parts => uptoBulkAll parts + 1
  | .iface _ d => uptoBulk d + 1
  | .map entries => uptoBulkEntries entries + 1
  | .held _ => 1
def uptoBulkAll {H : Type} : List (DataW H) → Nat
  | [] => 0
  | d :: r => uptoBulk d + uptoBulkAll r
def uptoBulkEntries {H : Type} : List (Lit × DataW H) → Nat
  | [] => 0
  | x :: r => uptoBulkEntry x + uptoBulkEntries r
def uptoBulkEntry {H : Type} : Lit × DataW H → Nat
  | (.string bytes, d) => bytes.length + uptoBulk d + 1
  | (_, d) => uptoBulk d + 1
 end
def uptoSmall : (H : Type) → List (DataW H) → Bool := fun _ ds => decide (uptoBulkAll ds ≤ 1048576)
def OpenSpec.upto (s : _root_.Go.ChangeSpec) : _root_.Go.OpenSpec := { _root_.Go.OpenSpec.ofChange s with cond := some uptoSmall }

/-- 'bakelaw1.Names', WHERE WHAT IT READS IS OF BULK AT MOST 1048576: true; the input reads as it did. -/
def namesUptoRow : OpenClaim := { program := "ytciedmpmjhnnpaa", sum := "7bba309a8c2cf08528d48782d82ca259db2f2c753fc66b7d218d1c55c411f67b", func := "bakelite/bakelaw1.Names", spec := "names", apart := false, narrowed := true }
def NamesUptoSaid : Prop := namesUptoRow.holds Try.pinned (OpenSpec.upto namesSpec)

/-- 'bakelaw1.BitLows', WHERE WHAT IT READS IS OF BULK AT MOST 1048576: true; the input reads as it did. -/
def bitLowsUptoRow : OpenClaim := { program := "ytciedmpmjhnnpaa", sum := "7bba309a8c2cf08528d48782d82ca259db2f2c753fc66b7d218d1c55c411f67b", func := "bakelite/bakelaw1.BitLows", spec := "bitLows", apart := false, narrowed := true }
def BitLowsUptoSaid : Prop := bitLowsUptoRow.holds Try.pinned (OpenSpec.upto bitLowsSpec)

/-- 'bakelaw1.BitAdds', WHERE WHAT IT READS IS OF BULK AT MOST 1048576: true; the input reads as it did. -/
def bitAddsUptoRow : OpenClaim := { program := "ytciedmpmjhnnpaa", sum := "7bba309a8c2cf08528d48782d82ca259db2f2c753fc66b7d218d1c55c411f67b", func := "bakelite/bakelaw1.BitAdds", spec := "bitAdds", apart := false, narrowed := true }
def BitAddsUptoSaid : Prop := bitAddsUptoRow.holds Try.pinned (OpenSpec.upto bitAddsSpec)

/-- 'bakelaw1.BitFields', WHERE WHAT IT READS IS OF BULK AT MOST 1048576: true; the input reads as it did. -/
def bitFieldsUptoRow : OpenClaim := { program := "ytciedmpmjhnnpaa", sum := "7bba309a8c2cf08528d48782d82ca259db2f2c753fc66b7d218d1c55c411f67b", func := "bakelite/bakelaw1.BitFields", spec := "bitFields", apart := false, narrowed := true }
def BitFieldsUptoSaid : Prop := bitFieldsUptoRow.holds Try.pinned (OpenSpec.upto bitFieldsSpec)

/-- 'bakelaw1.BitDigits', WHERE WHAT IT READS IS OF BULK AT MOST 1048576: true; the input reads as it did. -/
def bitDigitsUptoRow : OpenClaim := { program := "ytciedmpmjhnnpaa", sum := "7bba309a8c2cf08528d48782d82ca259db2f2c753fc66b7d218d1c55c411f67b", func := "bakelite/bakelaw1.BitDigits", spec := "bitDigits", apart := false, narrowed := true }
def BitDigitsUptoSaid : Prop := bitDigitsUptoRow.holds Try.pinned (OpenSpec.upto bitDigitsSpec)

/-- 'bakekeep1.BitBack', WHERE WHAT IT READS IS OF BULK AT MOST 1048576: true; the input reads as it did. -/
def bitBackUptoRow : OpenClaim := { program := "ytciedmpmjhnnpaa", sum := "7bba309a8c2cf08528d48782d82ca259db2f2c753fc66b7d218d1c55c411f67b", func := "bakelite/bakekeep1.BitBack", spec := "bitBack", apart := false, narrowed := true }
def BitBackUptoSaid : Prop := bitBackUptoRow.holds Try.pinned (OpenSpec.upto bitBackSpec)

/-- 'bakekeep1.BitTurns', WHERE WHAT IT READS IS OF BULK AT MOST 1048576: true; the input reads as it did. -/
def bitTurnsUptoRow : OpenClaim := { program := "ytciedmpmjhnnpaa", sum := "7bba309a8c2cf08528d48782d82ca259db2f2c753fc66b7d218d1c55c411f67b", func := "bakelite/bakekeep1.BitTurns", spec := "bitTurns", apart := false, narrowed := true }
def BitTurnsUptoSaid : Prop := bitTurnsUptoRow.holds Try.pinned (OpenSpec.upto bitTurnsSpec)

/-- 'bakekeep1.BitPlaces', WHERE WHAT IT READS IS OF BULK AT MOST 1048576: true; the input reads as it did. -/
def bitPlacesUptoRow : OpenClaim := { program := "ytciedmpmjhnnpaa", sum := "7bba309a8c2cf08528d48782d82ca259db2f2c753fc66b7d218d1c55c411f67b", func := "bakelite/bakekeep1.BitPlaces", spec := "bitPlaces", apart := false, narrowed := true }
def BitPlacesUptoSaid : Prop := bitPlacesUptoRow.holds Try.pinned (OpenSpec.upto bitPlacesSpec)

/-- 'bakekeep1.BitDecimals', WHERE WHAT IT READS IS OF BULK AT MOST 1048576: true; the input reads as it did. -/
def bitDecimalsUptoRow : OpenClaim := { program := "ytciedmpmjhnnpaa", sum := "7bba309a8c2cf08528d48782d82ca259db2f2c753fc66b7d218d1c55c411f67b", func := "bakelite/bakekeep1.BitDecimals", spec := "bitDecimals", apart := false, narrowed := true }
def BitDecimalsUptoSaid : Prop := bitDecimalsUptoRow.holds Try.pinned (OpenSpec.upto bitDecimalsSpec)

end Rows
end Go.Proofs.Ytciedmpmjhnnpaa
