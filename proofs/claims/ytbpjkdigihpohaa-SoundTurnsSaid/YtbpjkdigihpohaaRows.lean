/-
  No cell of these rows narrows 'for every input' (looked for: loops, veiled, ifaces, maps, wideKeys, modest, calm, conditions, laid).
  DERIVED. THE GIVEN ROWS OF THIS SEAT. 4 by the template 'for every input the law returns true; each argument reads behind the call as it read before'; 0 by the template 'total and deterministic' (their statements: YtbpjkdigihpohaaTotals.lean).
  GIVEN WITH THE SEED: the statements are not yours to turn. If you find one false, say at which input.
  Laid BY PROGRAM, IN A SANDBOX (cutbox-rows.mjs): the forced cells as the released guide's own fill.sh prints them over the translation 424e31106b444710… (all of the seat's roots in one cut). By AI agents, Wed Nov 11 2026. No macro, syntax, notation, axiom, sorry.
-/
import Derived.Test.YtbpjkdigihpohaaChecked
import GoSem.Claim
import GoSem.ClaimJoined
import GoSem.ClaimMapViews
import Derived.JoinedTies
import Derived.KernelRfl
namespace Go.Proofs.Ytbpjkdigihpohaa
/- THE CELL 'sum', in the pinned program and in every row, IS THE sha256 OF THE DUMP (.gsa) THAT YtbpjkdigihpohaaProg.lean LOADS. Nothing in Lean hashes anything: it is a label: what it is worth is what the hold of that sum in a sandbox is worth. -/
noncomputable def Try.pinned : Pinned := { name := "ytbpjkdigihpohaa", sum := "424e31106b444710b30caf74eba61587b3f67d4008b0aa1e5ccb676ab93d4823", checked := Try.checked }
namespace Rows
def none {H : Type} : Left H := { results := [], args := [] }

/-- 'bakelaw1.SoundActs': WHATEVER THE INPUT: true; the input reads as it did. -/
def soundActsSpec : ChangeSpec := { name := "soundActs", fn := fun _ => fun
  | [d1, d2, d3] => { results := [.lit (.bool true)], args := [d1, d2, d3] }
  | _ => none }
def soundActsRow : OpenClaim := { program := "ytbpjkdigihpohaa", sum := "424e31106b444710b30caf74eba61587b3f67d4008b0aa1e5ccb676ab93d4823", func := "bakelite/bakelaw1.SoundActs", spec := "soundActs", unfollowed := true, recurses := true, apart := false }
def SoundActsSaid : Prop := soundActsRow.holds Try.pinned (OpenSpec.ofChange soundActsSpec)

/-- ITS FALSE NEIGHBOUR: 'it returns false'. Refute it at one input. -/
def soundActsWrong : ChangeSpec := { name := "soundActs", fn := fun _ => fun
  | [d1, d2, d3] => { results := [.lit (.bool false)], args := [d1, d2, d3] }
  | _ => none }
def SoundActsWrongFalsely : Prop := soundActsRow.holds Try.pinned (OpenSpec.ofChange soundActsWrong)

/-- 'bakelaw1.SoundTicks': WHATEVER THE INPUT: true; the input reads as it did. -/
def soundTicksSpec : ChangeSpec := { name := "soundTicks", fn := fun _ => fun
  | [d1, d2] => { results := [.lit (.bool true)], args := [d1, d2] }
  | _ => none }
def soundTicksRow : OpenClaim := { program := "ytbpjkdigihpohaa", sum := "424e31106b444710b30caf74eba61587b3f67d4008b0aa1e5ccb676ab93d4823", func := "bakelite/bakelaw1.SoundTicks", spec := "soundTicks", apart := false }
def SoundTicksSaid : Prop := soundTicksRow.holds Try.pinned (OpenSpec.ofChange soundTicksSpec)

/-- ITS FALSE NEIGHBOUR: 'it returns false'. Refute it at one input. -/
def soundTicksWrong : ChangeSpec := { name := "soundTicks", fn := fun _ => fun
  | [d1, d2] => { results := [.lit (.bool false)], args := [d1, d2] }
  | _ => none }
def SoundTicksWrongFalsely : Prop := soundTicksRow.holds Try.pinned (OpenSpec.ofChange soundTicksWrong)

/-- 'bakekeep1.SoundFades': WHATEVER THE INPUT: true; the input reads as it did. -/
def soundFadesSpec : ChangeSpec := { name := "soundFades", fn := fun _ => fun
  | [d1, d2] => { results := [.lit (.bool true)], args := [d1, d2] }
  | _ => none }
def soundFadesRow : OpenClaim := { program := "ytbpjkdigihpohaa", sum := "424e31106b444710b30caf74eba61587b3f67d4008b0aa1e5ccb676ab93d4823", func := "bakelite/bakekeep1.SoundFades", spec := "soundFades", apart := false }
def SoundFadesSaid : Prop := soundFadesRow.holds Try.pinned (OpenSpec.ofChange soundFadesSpec)

/-- ITS FALSE NEIGHBOUR: 'it returns false'. Refute it at one input. -/
def soundFadesWrong : ChangeSpec := { name := "soundFades", fn := fun _ => fun
  | [d1, d2] => { results := [.lit (.bool false)], args := [d1, d2] }
  | _ => none }
def SoundFadesWrongFalsely : Prop := soundFadesRow.holds Try.pinned (OpenSpec.ofChange soundFadesWrong)

/-- 'bakekeep1.SoundTurns': WHATEVER THE INPUT: true; the input reads as it did. -/
def soundTurnsSpec : ChangeSpec := { name := "soundTurns", fn := fun _ => fun
  | [d1, d2] => { results := [.lit (.bool true)], args := [d1, d2] }
  | _ => none }
def soundTurnsRow : OpenClaim := { program := "ytbpjkdigihpohaa", sum := "424e31106b444710b30caf74eba61587b3f67d4008b0aa1e5ccb676ab93d4823", func := "bakelite/bakekeep1.SoundTurns", spec := "soundTurns", apart := false }
def SoundTurnsSaid : Prop := soundTurnsRow.holds Try.pinned (OpenSpec.ofChange soundTurnsSpec)

/-- ITS FALSE NEIGHBOUR: 'it returns false'. Refute it at one input. -/
def soundTurnsWrong : ChangeSpec := { name := "soundTurns", fn := fun _ => fun
  | [d1, d2] => { results := [.lit (.bool false)], args := [d1, d2] }
  | _ => none }
def SoundTurnsWrongFalsely : Prop := soundTurnsRow.holds Try.pinned (OpenSpec.ofChange soundTurnsWrong)

/- THE SECOND FORM. 'bulk': how many values and letters a reading holds, each counted each time it is reached (what is shared counts as often as it is met; a slice's spare places count too). A statement '..UptoSaid' is the law's where the arguments, and the package variables that the reading takes, are together of bulk at most 1048576: NARROWER than '..Said'. Prove '..Said' where nothing that the law and all that it calls make is longer than what came in: it says more and counts as full. Else prove '..UptoSaid'. A law counts once. -/
mutual
def uptoBulk {H : Type} : DataW H → Nat
  | .lit (.string bytes) => bytes.length + 1
  | .lit _ => 1
  | .nil => 1
  | .ptr d => uptoBulk d + 1
  | .slice elems spare => uptoBulkAll elems + uptoBulkAll spare + 1
  | .agg parts => uptoBulkAll parts + 1
  | .iface _ d => uptoBulk d + 1
  | .map entries => uptoBulkEntries entries + 1
  | .held _ => 1
def uptoBulkAll {H : Type} : List (DataW H) → Nat
  | [] => 0
  | d :: r => uptoBulk d + uptoBulkAll r
def uptoBulkEntries {H : Type} : List (Lit × DataW H) → Nat
  | [] => 0
  | x :: r => uptoBulkEntry x + uptoBulkEntries r
def uptoBulkEntry {H : Type} : Lit × DataW H → Nat
  | (.string bytes, d) => bytes.length + uptoBulk d + 1
  | (_, d) => uptoBulk d + 1
 end
def uptoSmall : (H : Type) → List (DataW H) → Bool := fun _ ds => decide (uptoBulkAll ds ≤ 1048576)
def OpenSpec.upto (s : _root_.Go.ChangeSpec) : _root_.Go.OpenSpec := { _root_.Go.OpenSpec.ofChange s with cond := some uptoSmall }

/-- 'bakelaw1.SoundActs', WHERE WHAT IT READS IS OF BULK AT MOST 1048576: true; the input reads as it did. -/
def soundActsUptoRow : OpenClaim := { program := "ytbpjkdigihpohaa", sum := "424e31106b444710b30caf74eba61587b3f67d4008b0aa1e5ccb676ab93d4823", func := "bakelite/bakelaw1.SoundActs", spec := "soundActs", unfollowed := true, recurses := true, apart := false, narrowed := true }
def SoundActsUptoSaid : Prop := soundActsUptoRow.holds Try.pinned (OpenSpec.upto soundActsSpec)

/-- 'bakelaw1.SoundTicks', WHERE WHAT IT READS IS OF BULK AT MOST 1048576: true; the input reads as it did. -/
def soundTicksUptoRow : OpenClaim := { program := "ytbpjkdigihpohaa", sum := "424e31106b444710b30caf74eba61587b3f67d4008b0aa1e5ccb676ab93d4823", func := "bakelite/bakelaw1.SoundTicks", spec := "soundTicks", apart := false, narrowed := true }
def SoundTicksUptoSaid : Prop := soundTicksUptoRow.holds Try.pinned (OpenSpec.upto soundTicksSpec)

/-- 'bakekeep1.SoundFades', WHERE WHAT IT READS IS OF BULK AT MOST 1048576: true; the input reads as it did. -/
def soundFadesUptoRow : OpenClaim := { program := "ytbpjkdigihpohaa", sum := "424e31106b444710b30caf74eba61587b3f67d4008b0aa1e5ccb676ab93d4823", func := "bakelite/bakekeep1.SoundFades", spec := "soundFades", apart := false, narrowed := true }
def SoundFadesUptoSaid : Prop := soundFadesUptoRow.holds Try.pinned (OpenSpec.upto soundFadesSpec)

/-- 'bakekeep1.SoundTurns', WHERE WHAT IT READS IS OF BULK AT MOST 1048576: true; the input reads as it did. -/
def soundTurnsUptoRow : OpenClaim := { program := "ytbpjkdigihpohaa", sum := "424e31106b444710b30caf74eba61587b3f67d4008b0aa1e5ccb676ab93d4823", func := "bakelite/bakekeep1.SoundTurns", spec := "soundTurns", apart := false, narrowed := true }
def SoundTurnsUptoSaid : Prop := soundTurnsUptoRow.holds Try.pinned (OpenSpec.upto soundTurnsSpec)

end Rows
end Go.Proofs.Ytbpjkdigihpohaa
