/-
  No cell of these rows narrows 'for every input' (looked for: loops, veiled, ifaces, maps, wideKeys, modest, calm, conditions, laid).
  DERIVED. THE GIVEN ROWS OF THIS SEAT. 10 by the template 'for every input the law returns true; each argument reads behind the call as it read before'; 0 by the template 'total and deterministic' (their statements: YtdaaaaacknpbhaaTotals.lean).
  GIVEN WITH THE SEED: the statements are not yours to turn. If you find one false, say at which input.
  Laid BY PROGRAM, IN A SANDBOX (cutbox-rows.mjs): the forced cells as the released guide's own fill.sh prints them over the translation a760e5f03758a79a… (all of the seat's roots in one cut). By AI agents, Wed Nov 11 2026. No macro, syntax, notation, axiom, sorry.
-/
import Derived.Test.YtdaaaaacknpbhaaChecked
import GoSem.Claim
import GoSem.ClaimJoined
import GoSem.ClaimMapViews
import Derived.JoinedTies
import Derived.KernelRfl
namespace Go.Proofs.Ytdaaaaacknpbhaa
/- THE CELL 'sum', in the pinned program and in every row, IS THE sha256 OF THE DUMP (.gsa) THAT YtdaaaaacknpbhaaProg.lean LOADS. Nothing in Lean hashes anything: it is a label: what it is worth is what the hold of that sum in a sandbox is worth. -/
noncomputable def Try.pinned : Pinned := { name := "ytdaaaaacknpbhaa", sum := "a760e5f03758a79a05dc799f23b022aafce6db5cb1c0e246fb1f776d93cdd8a9", checked := Try.checked }
namespace Rows
def none {H : Type} : Left H := { results := [], args := [] }

/-- 'bakelaw1.WholeRuns': WHATEVER THE INPUT: true; the input reads as it did. -/
def wholeRunsSpec : ChangeSpec := { name := "wholeRuns", fn := fun _ => fun
  | [d1, d2, d3, d4] => { results := [.lit (.bool true)], args := [d1, d2, d3, d4] }
  | _ => none }
def wholeRunsRow : OpenClaim := { program := "ytdaaaaacknpbhaa", sum := "a760e5f03758a79a05dc799f23b022aafce6db5cb1c0e246fb1f776d93cdd8a9", func := "bakelite/bakelaw1.WholeRuns", spec := "wholeRuns", unfollowed := true, recurses := true, apart := false }
def WholeRunsSaid : Prop := wholeRunsRow.holds Try.pinned (OpenSpec.ofChange wholeRunsSpec)

/-- ITS FALSE NEIGHBOUR: 'it returns false'. Refute it at one input. -/
def wholeRunsWrong : ChangeSpec := { name := "wholeRuns", fn := fun _ => fun
  | [d1, d2, d3, d4] => { results := [.lit (.bool false)], args := [d1, d2, d3, d4] }
  | _ => none }
def WholeRunsWrongFalsely : Prop := wholeRunsRow.holds Try.pinned (OpenSpec.ofChange wholeRunsWrong)

/-- 'bakelaw1.WholeTells': WHATEVER THE INPUT: true; the input reads as it did. -/
def wholeTellsSpec : ChangeSpec := { name := "wholeTells", fn := fun _ => fun
  | [d1, d2] => { results := [.lit (.bool true)], args := [d1, d2] }
  | _ => none }
def wholeTellsRow : OpenClaim := { program := "ytdaaaaacknpbhaa", sum := "a760e5f03758a79a05dc799f23b022aafce6db5cb1c0e246fb1f776d93cdd8a9", func := "bakelite/bakelaw1.WholeTells", spec := "wholeTells", unfollowed := true, recurses := true, apart := false }
def WholeTellsSaid : Prop := wholeTellsRow.holds Try.pinned (OpenSpec.ofChange wholeTellsSpec)

/-- ITS FALSE NEIGHBOUR: 'it returns false'. Refute it at one input. -/
def wholeTellsWrong : ChangeSpec := { name := "wholeTells", fn := fun _ => fun
  | [d1, d2] => { results := [.lit (.bool false)], args := [d1, d2] }
  | _ => none }
def WholeTellsWrongFalsely : Prop := wholeTellsRow.holds Try.pinned (OpenSpec.ofChange wholeTellsWrong)

/-- 'bakekeep1.CoreEnds': WHATEVER THE INPUT: true; the input reads as it did. -/
def coreEndsSpec : ChangeSpec := { name := "coreEnds", fn := fun _ => fun
  | [d1, d2, d3] => { results := [.lit (.bool true)], args := [d1, d2, d3] }
  | _ => none }
def coreEndsRow : OpenClaim := { program := "ytdaaaaacknpbhaa", sum := "a760e5f03758a79a05dc799f23b022aafce6db5cb1c0e246fb1f776d93cdd8a9", func := "bakelite/bakekeep1.CoreEnds", spec := "coreEnds", unfollowed := true, recurses := true, apart := false }
def CoreEndsSaid : Prop := coreEndsRow.holds Try.pinned (OpenSpec.ofChange coreEndsSpec)

/-- ITS FALSE NEIGHBOUR: 'it returns false'. Refute it at one input. -/
def coreEndsWrong : ChangeSpec := { name := "coreEnds", fn := fun _ => fun
  | [d1, d2, d3] => { results := [.lit (.bool false)], args := [d1, d2, d3] }
  | _ => none }
def CoreEndsWrongFalsely : Prop := coreEndsRow.holds Try.pinned (OpenSpec.ofChange coreEndsWrong)

/-- 'bakekeep1.StdStores': WHATEVER THE INPUT: true; the input reads as it did. -/
def stdStoresSpec : ChangeSpec := { name := "stdStores", fn := fun _ => fun
  | [d1, d2, d3, d4] => { results := [.lit (.bool true)], args := [d1, d2, d3, d4] }
  | _ => none }
def stdStoresRow : OpenClaim := { program := "ytdaaaaacknpbhaa", sum := "a760e5f03758a79a05dc799f23b022aafce6db5cb1c0e246fb1f776d93cdd8a9", func := "bakelite/bakekeep1.StdStores", spec := "stdStores", unfollowed := true, recurses := true, apart := false }
def StdStoresSaid : Prop := stdStoresRow.holds Try.pinned (OpenSpec.ofChange stdStoresSpec)

/-- ITS FALSE NEIGHBOUR: 'it returns false'. Refute it at one input. -/
def stdStoresWrong : ChangeSpec := { name := "stdStores", fn := fun _ => fun
  | [d1, d2, d3, d4] => { results := [.lit (.bool false)], args := [d1, d2, d3, d4] }
  | _ => none }
def StdStoresWrongFalsely : Prop := stdStoresRow.holds Try.pinned (OpenSpec.ofChange stdStoresWrong)

/-- 'bakekeep1.StdStack': WHATEVER THE INPUT: true; the input reads as it did. -/
def stdStackSpec : ChangeSpec := { name := "stdStack", fn := fun _ => fun
  | [d1, d2, d3] => { results := [.lit (.bool true)], args := [d1, d2, d3] }
  | _ => none }
def stdStackRow : OpenClaim := { program := "ytdaaaaacknpbhaa", sum := "a760e5f03758a79a05dc799f23b022aafce6db5cb1c0e246fb1f776d93cdd8a9", func := "bakelite/bakekeep1.StdStack", spec := "stdStack", unfollowed := true, recurses := true, apart := false }
def StdStackSaid : Prop := stdStackRow.holds Try.pinned (OpenSpec.ofChange stdStackSpec)

/-- ITS FALSE NEIGHBOUR: 'it returns false'. Refute it at one input. -/
def stdStackWrong : ChangeSpec := { name := "stdStack", fn := fun _ => fun
  | [d1, d2, d3] => { results := [.lit (.bool false)], args := [d1, d2, d3] }
  | _ => none }
def StdStackWrongFalsely : Prop := stdStackRow.holds Try.pinned (OpenSpec.ofChange stdStackWrong)

/-- 'bakekeep1.StdCounts': WHATEVER THE INPUT: true; the input reads as it did. -/
def stdCountsSpec : ChangeSpec := { name := "stdCounts", fn := fun _ => fun
  | [d1, d2] => { results := [.lit (.bool true)], args := [d1, d2] }
  | _ => none }
def stdCountsRow : OpenClaim := { program := "ytdaaaaacknpbhaa", sum := "a760e5f03758a79a05dc799f23b022aafce6db5cb1c0e246fb1f776d93cdd8a9", func := "bakelite/bakekeep1.StdCounts", spec := "stdCounts", unfollowed := true, recurses := true, apart := false }
def StdCountsSaid : Prop := stdCountsRow.holds Try.pinned (OpenSpec.ofChange stdCountsSpec)

/-- ITS FALSE NEIGHBOUR: 'it returns false'. Refute it at one input. -/
def stdCountsWrong : ChangeSpec := { name := "stdCounts", fn := fun _ => fun
  | [d1, d2] => { results := [.lit (.bool false)], args := [d1, d2] }
  | _ => none }
def StdCountsWrongFalsely : Prop := stdCountsRow.holds Try.pinned (OpenSpec.ofChange stdCountsWrong)

/-- 'bakekeep1.StdAnswers': WHATEVER THE INPUT: true; the input reads as it did. -/
def stdAnswersSpec : ChangeSpec := { name := "stdAnswers", fn := fun _ => fun
  | [d1, d2] => { results := [.lit (.bool true)], args := [d1, d2] }
  | _ => none }
def stdAnswersRow : OpenClaim := { program := "ytdaaaaacknpbhaa", sum := "a760e5f03758a79a05dc799f23b022aafce6db5cb1c0e246fb1f776d93cdd8a9", func := "bakelite/bakekeep1.StdAnswers", spec := "stdAnswers", unfollowed := true, recurses := true, apart := false }
def StdAnswersSaid : Prop := stdAnswersRow.holds Try.pinned (OpenSpec.ofChange stdAnswersSpec)

/-- ITS FALSE NEIGHBOUR: 'it returns false'. Refute it at one input. -/
def stdAnswersWrong : ChangeSpec := { name := "stdAnswers", fn := fun _ => fun
  | [d1, d2] => { results := [.lit (.bool false)], args := [d1, d2] }
  | _ => none }
def StdAnswersWrongFalsely : Prop := stdAnswersRow.holds Try.pinned (OpenSpec.ofChange stdAnswersWrong)

/-- 'bakekeep1.WholeTimes': WHATEVER THE INPUT: true; the input reads as it did. -/
def wholeTimesSpec : ChangeSpec := { name := "wholeTimes", fn := fun _ => fun
  | [d1, d2, d3] => { results := [.lit (.bool true)], args := [d1, d2, d3] }
  | _ => none }
def wholeTimesRow : OpenClaim := { program := "ytdaaaaacknpbhaa", sum := "a760e5f03758a79a05dc799f23b022aafce6db5cb1c0e246fb1f776d93cdd8a9", func := "bakelite/bakekeep1.WholeTimes", spec := "wholeTimes", unfollowed := true, recurses := true, apart := false }
def WholeTimesSaid : Prop := wholeTimesRow.holds Try.pinned (OpenSpec.ofChange wholeTimesSpec)

/-- ITS FALSE NEIGHBOUR: 'it returns false'. Refute it at one input. -/
def wholeTimesWrong : ChangeSpec := { name := "wholeTimes", fn := fun _ => fun
  | [d1, d2, d3] => { results := [.lit (.bool false)], args := [d1, d2, d3] }
  | _ => none }
def WholeTimesWrongFalsely : Prop := wholeTimesRow.holds Try.pinned (OpenSpec.ofChange wholeTimesWrong)

/-- 'bakekeep1.WholeKeeps': WHATEVER THE INPUT: true; the input reads as it did. -/
def wholeKeepsSpec : ChangeSpec := { name := "wholeKeeps", fn := fun _ => fun
  | [d1, d2, d3] => { results := [.lit (.bool true)], args := [d1, d2, d3] }
  | _ => none }
def wholeKeepsRow : OpenClaim := { program := "ytdaaaaacknpbhaa", sum := "a760e5f03758a79a05dc799f23b022aafce6db5cb1c0e246fb1f776d93cdd8a9", func := "bakelite/bakekeep1.WholeKeeps", spec := "wholeKeeps", unfollowed := true, recurses := true, apart := false }
def WholeKeepsSaid : Prop := wholeKeepsRow.holds Try.pinned (OpenSpec.ofChange wholeKeepsSpec)

/-- ITS FALSE NEIGHBOUR: 'it returns false'. Refute it at one input. -/
def wholeKeepsWrong : ChangeSpec := { name := "wholeKeeps", fn := fun _ => fun
  | [d1, d2, d3] => { results := [.lit (.bool false)], args := [d1, d2, d3] }
  | _ => none }
def WholeKeepsWrongFalsely : Prop := wholeKeepsRow.holds Try.pinned (OpenSpec.ofChange wholeKeepsWrong)

/-- 'bakekeep1.CoreResets': WHATEVER THE INPUT: true; the input reads as it did. -/
def coreResetsSpec : ChangeSpec := { name := "coreResets", fn := fun _ => fun
  | [d1, d2] => { results := [.lit (.bool true)], args := [d1, d2] }
  | _ => none }
def coreResetsRow : OpenClaim := { program := "ytdaaaaacknpbhaa", sum := "a760e5f03758a79a05dc799f23b022aafce6db5cb1c0e246fb1f776d93cdd8a9", func := "bakelite/bakekeep1.CoreResets", spec := "coreResets", unfollowed := true, recurses := true, apart := false }
def CoreResetsSaid : Prop := coreResetsRow.holds Try.pinned (OpenSpec.ofChange coreResetsSpec)

/-- ITS FALSE NEIGHBOUR: 'it returns false'. Refute it at one input. -/
def coreResetsWrong : ChangeSpec := { name := "coreResets", fn := fun _ => fun
  | [d1, d2] => { results := [.lit (.bool false)], args := [d1, d2] }
  | _ => none }
def CoreResetsWrongFalsely : Prop := coreResetsRow.holds Try.pinned (OpenSpec.ofChange coreResetsWrong)

/- THE SECOND FORM. 'bulk': how many values and letters a reading holds, each counted each time it is reached (what is shared counts as often as it is met; a slice's spare places count too). A statement '..UptoSaid' is the law's where the arguments, and the package variables that the reading takes, are together of bulk at most 1048576: NARROWER than '..Said'. Prove '..Said' where nothing that the law and all that it calls make is longer than what came in: it says more and counts as full. Else prove '..UptoSaid'. A law counts once. -/
mutual
def uptoBulk {H : Type} : DataW H → Nat
  | .lit (.string bytes) => bytes.length + 1
  | .lit _ => 1
  | .nil => 1
  | .ptr d => uptoBulk d + 1
  | .slice elems spare => uptoBulkAll elems + uptoBulkAll spare + 1
  | .agg parts => uptoBulkAll parts + 1
  | .iface _ d => uptoBulk d + 1
  | .map entries => uptoBulkEntries entries + 1
  | .held _ => 1
def uptoBulkAll {H : Type} : List (DataW H) → Nat
  | [] => 0
  | d :: r => uptoBulk d + uptoBulkAll r
def uptoBulkEntries {H : Type} : List (Lit × DataW H) → Nat
  | [] => 0
  | x :: r => uptoBulkEntry x + uptoBulkEntries r
def uptoBulkEntry {H : Type} : Lit × DataW H → Nat
  | (.string bytes, d) => bytes.length + uptoBulk d + 1
  | (_, d) => uptoBulk d + 1
 end
def uptoSmall : (H : Type) → List (DataW H) → Bool := fun _ ds => decide (uptoBulkAll ds ≤ 1048576)
def OpenSpec.upto (s : _root_.Go.ChangeSpec) : _root_.Go.OpenSpec := { _root_.Go.OpenSpec.ofChange s with cond := some uptoSmall }

/-- 'bakelaw1.WholeRuns', WHERE WHAT IT READS IS OF BULK AT MOST 1048576: true; the input reads as it did. -/
def wholeRunsUptoRow : OpenClaim := { program := "ytdaaaaacknpbhaa", sum := "a760e5f03758a79a05dc799f23b022aafce6db5cb1c0e246fb1f776d93cdd8a9", func := "bakelite/bakelaw1.WholeRuns", spec := "wholeRuns", unfollowed := true, recurses := true, apart := false, narrowed := true }
def WholeRunsUptoSaid : Prop := wholeRunsUptoRow.holds Try.pinned (OpenSpec.upto wholeRunsSpec)

/-- 'bakelaw1.WholeTells', WHERE WHAT IT READS IS OF BULK AT MOST 1048576: true; the input reads as it did. -/
def wholeTellsUptoRow : OpenClaim := { program := "ytdaaaaacknpbhaa", sum := "a760e5f03758a79a05dc799f23b022aafce6db5cb1c0e246fb1f776d93cdd8a9", func := "bakelite/bakelaw1.WholeTells", spec := "wholeTells", unfollowed := true, recurses := true, apart := false, narrowed := true }
def WholeTellsUptoSaid : Prop := wholeTellsUptoRow.holds Try.pinned (OpenSpec.upto wholeTellsSpec)

/-- 'bakekeep1.CoreEnds', WHERE WHAT IT READS IS OF BULK AT MOST 1048576: true; the input reads as it did. -/
def coreEndsUptoRow : OpenClaim := { program := "ytdaaaaacknpbhaa", sum := "a760e5f03758a79a05dc799f23b022aafce6db5cb1c0e246fb1f776d93cdd8a9", func := "bakelite/bakekeep1.CoreEnds", spec := "coreEnds", unfollowed := true, recurses := true, apart := false, narrowed := true }
def CoreEndsUptoSaid : Prop := coreEndsUptoRow.holds Try.pinned (OpenSpec.upto coreEndsSpec)

/-- 'bakekeep1.StdStores', WHERE WHAT IT READS IS OF BULK AT MOST 1048576: true; the input reads as it did. -/
def stdStoresUptoRow : OpenClaim := { program := "ytdaaaaacknpbhaa", sum := "a760e5f03758a79a05dc799f23b022aafce6db5cb1c0e246fb1f776d93cdd8a9", func := "bakelite/bakekeep1.StdStores", spec := "stdStores", unfollowed := true, recurses := true, apart := false, narrowed := true }
def StdStoresUptoSaid : Prop := stdStoresUptoRow.holds Try.pinned (OpenSpec.upto stdStoresSpec)

/-- 'bakekeep1.StdStack', WHERE WHAT IT READS IS OF BULK AT MOST 1048576: true; the input reads as it did. -/
def stdStackUptoRow : OpenClaim := { program := "ytdaaaaacknpbhaa", sum := "a760e5f03758a79a05dc799f23b022aafce6db5cb1c0e246fb1f776d93cdd8a9", func := "bakelite/bakekeep1.StdStack", spec := "stdStack", unfollowed := true, recurses := true, apart := false, narrowed := true }
def StdStackUptoSaid : Prop := stdStackUptoRow.holds Try.pinned (OpenSpec.upto stdStackSpec)

/-- 'bakekeep1.StdCounts', WHERE WHAT IT READS IS OF BULK AT MOST 1048576: true; the input reads as it did. -/
def stdCountsUptoRow : OpenClaim := { program := "ytdaaaaacknpbhaa", sum := "a760e5f03758a79a05dc799f23b022aafce6db5cb1c0e246fb1f776d93cdd8a9", func := "bakelite/bakekeep1.StdCounts", spec := "stdCounts", unfollowed := true, recurses := true, apart := false, narrowed := true }
def StdCountsUptoSaid : Prop := stdCountsUptoRow.holds Try.pinned (OpenSpec.upto stdCountsSpec)

/-- 'bakekeep1.StdAnswers', WHERE WHAT IT READS IS OF BULK AT MOST 1048576: true; the input reads as it did. -/
def stdAnswersUptoRow : OpenClaim := { program := "ytdaaaaacknpbhaa", sum := "a760e5f03758a79a05dc799f23b022aafce6db5cb1c0e246fb1f776d93cdd8a9", func := "bakelite/bakekeep1.StdAnswers", spec := "stdAnswers", unfollowed := true, recurses := true, apart := false, narrowed := true }
def StdAnswersUptoSaid : Prop := stdAnswersUptoRow.holds Try.pinned (OpenSpec.upto stdAnswersSpec)

/-- 'bakekeep1.WholeTimes', WHERE WHAT IT READS IS OF BULK AT MOST 1048576: true; the input reads as it did. -/
def wholeTimesUptoRow : OpenClaim := { program := "ytdaaaaacknpbhaa", sum := "a760e5f03758a79a05dc799f23b022aafce6db5cb1c0e246fb1f776d93cdd8a9", func := "bakelite/bakekeep1.WholeTimes", spec := "wholeTimes", unfollowed := true, recurses := true, apart := false, narrowed := true }
def WholeTimesUptoSaid : Prop := wholeTimesUptoRow.holds Try.pinned (OpenSpec.upto wholeTimesSpec)

/-- 'bakekeep1.WholeKeeps', WHERE WHAT IT READS IS OF BULK AT MOST 1048576: true; the input reads as it did. -/
def wholeKeepsUptoRow : OpenClaim := { program := "ytdaaaaacknpbhaa", sum := "a760e5f03758a79a05dc799f23b022aafce6db5cb1c0e246fb1f776d93cdd8a9", func := "bakelite/bakekeep1.WholeKeeps", spec := "wholeKeeps", unfollowed := true, recurses := true, apart := false, narrowed := true }
def WholeKeepsUptoSaid : Prop := wholeKeepsUptoRow.holds Try.pinned (OpenSpec.upto wholeKeepsSpec)

/-- 'bakekeep1.CoreResets', WHERE WHAT IT READS IS OF BULK AT MOST 1048576: true; the input reads as it did. -/
def coreResetsUptoRow : OpenClaim := { program := "ytdaaaaacknpbhaa", sum := "a760e5f03758a79a05dc799f23b022aafce6db5cb1c0e246fb1f776d93cdd8a9", func := "bakelite/bakekeep1.CoreResets", spec := "coreResets", unfollowed := true, recurses := true, apart := false, narrowed := true }
def CoreResetsUptoSaid : Prop := coreResetsUptoRow.holds Try.pinned (OpenSpec.upto coreResetsSpec)

end Rows
end Go.Proofs.Ytdaaaaacknpbhaa
