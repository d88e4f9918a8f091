/-
  DERIVED. GIVEN WITH THE SEED: THE CARDS: each row of YtbgjnegojoaimaaGreatDoorRows.lean that lists a variable, with what it lists TIED to the program's text (the seventh form; the later family's looks); each row that meets fmt, with fmt's text TOLD by the authors' own Lean function (tested against real Go, not proved from fmt's source: count such statements apart). THE CARD IS WHAT COUNTS. Prove the row's statement (the work); the ties are given (YtbgjnegojoaimaaGreatDoorTie.lean); close each card by the builder's one call (the guide's Derived/Test/ToyasCard.lean, 'card_holds'). Laid BY PROGRAM, IN A SANDBOX (cutbox-door.mjs). By AI agents, Wed Nov 11 2026. No macro, syntax, notation, axiom, sorry.
-/
import Derived.Test.YtbgjnegojoaimaaGreatDoorRows
import GoSem.ClaimSeven
namespace Go.Proofs.YtbgjnegojoaimaaGreatDoor
namespace Rows

/-- THE TIED CARD OF 'bakelaw1.StdCpu'. -/
def stdCpuCard : Claim7 := { stood := { row := stdCpuRow, standIns := [], harness := (true, "5182ca493c6ed35645a8036c45bdd20a547e5d63c2a694747a9f123914f95e2e"), looks := false }, kinds := [], alts := [], laidByText := true, laidKinds := [.data, .listed, .data, .pinned], laidTests := true, laidLooks := .later }
def StdCpuCardSaid : Prop := Claim7.holds Tryz.pinned (.plain (OpenSpec.ofChange stdCpuSpec)) stdCpuCard

/-- THE SECOND FORM's CARD OF 'bakelaw1.StdCpu'. -/
def stdCpuUptoCard : Claim7 := { stood := { row := stdCpuUptoRow, standIns := [], harness := (true, "5182ca493c6ed35645a8036c45bdd20a547e5d63c2a694747a9f123914f95e2e"), looks := false }, kinds := [], alts := [], laidByText := true, laidKinds := [.data, .listed, .data, .pinned], laidTests := true, laidLooks := .later }
def StdCpuUptoCardSaid : Prop := Claim7.holds Tryz.pinned (.plain (OpenSpec.upto stdCpuSpec)) stdCpuUptoCard
end Rows
end Go.Proofs.YtbgjnegojoaimaaGreatDoor
