/-
  No cell of these rows narrows 'for every input' (looked for: loops, veiled, ifaces, maps, wideKeys, modest, calm, conditions, laid).
  DERIVED. THE GIVEN ROWS OF THIS SEAT. 5 by the template 'for every input the law returns true; each argument reads behind the call as it read before'; 0 by the template 'total and deterministic' (their statements: YtambggbmkeemnaaTotals.lean).
  GIVEN WITH THE SEED: the statements are not yours to turn. If you find one false, say at which input.
  Laid BY PROGRAM, IN A SANDBOX (cutbox-rows.mjs): the forced cells as the released guide's own fill.sh prints them over the translation de0473cf28ee7423… (all of the seat's roots in one cut). By AI agents, Wed Nov 11 2026. No macro, syntax, notation, axiom, sorry.
-/
import Derived.Test.YtambggbmkeemnaaChecked
import GoSem.Claim
import GoSem.ClaimJoined
import GoSem.ClaimMapViews
import Derived.JoinedTies
import Derived.KernelRfl
namespace Go.Proofs.Ytambggbmkeemnaa
/- THE CELL 'sum', in the pinned program and in every row, IS THE sha256 OF THE DUMP (.gsa) THAT YtambggbmkeemnaaProg.lean LOADS. Nothing in Lean hashes anything: it is a label: what it is worth is what the hold of that sum in a sandbox is worth. -/
noncomputable def Try.pinned : Pinned := { name := "ytambggbmkeemnaa", sum := "de0473cf28ee74236bccb5a2a71640959075ca0859c7665212755ebe673b3766", checked := Try.checked }
namespace Rows
def none {H : Type} : Left H := { results := [], args := [] }

/-- 'bakelaw1.VideoActs': WHATEVER THE INPUT: true; the input reads as it did. -/
def videoActsSpec : ChangeSpec := { name := "videoActs", fn := fun _ => fun
  | [d1, d2, d3] => { results := [.lit (.bool true)], args := [d1, d2, d3] }
  | _ => none }
def videoActsRow : OpenClaim := { program := "ytambggbmkeemnaa", sum := "de0473cf28ee74236bccb5a2a71640959075ca0859c7665212755ebe673b3766", func := "bakelite/bakelaw1.VideoActs", spec := "videoActs", unfollowed := true, recurses := true, apart := false }
def VideoActsSaid : Prop := videoActsRow.holds Try.pinned (OpenSpec.ofChange videoActsSpec)

/-- ITS FALSE NEIGHBOUR: 'it returns false'. Refute it at one input. -/
def videoActsWrong : ChangeSpec := { name := "videoActs", fn := fun _ => fun
  | [d1, d2, d3] => { results := [.lit (.bool false)], args := [d1, d2, d3] }
  | _ => none }
def VideoActsWrongFalsely : Prop := videoActsRow.holds Try.pinned (OpenSpec.ofChange videoActsWrong)

/-- 'bakelaw1.VideoTicks': WHATEVER THE INPUT: true; the input reads as it did. -/
def videoTicksSpec : ChangeSpec := { name := "videoTicks", fn := fun _ => fun
  | [d1, d2] => { results := [.lit (.bool true)], args := [d1, d2] }
  | _ => none }
def videoTicksRow : OpenClaim := { program := "ytambggbmkeemnaa", sum := "de0473cf28ee74236bccb5a2a71640959075ca0859c7665212755ebe673b3766", func := "bakelite/bakelaw1.VideoTicks", spec := "videoTicks", unfollowed := true, recurses := true, apart := false }
def VideoTicksSaid : Prop := videoTicksRow.holds Try.pinned (OpenSpec.ofChange videoTicksSpec)

/-- ITS FALSE NEIGHBOUR: 'it returns false'. Refute it at one input. -/
def videoTicksWrong : ChangeSpec := { name := "videoTicks", fn := fun _ => fun
  | [d1, d2] => { results := [.lit (.bool false)], args := [d1, d2] }
  | _ => none }
def VideoTicksWrongFalsely : Prop := videoTicksRow.holds Try.pinned (OpenSpec.ofChange videoTicksWrong)

/-- 'bakekeep1.VideoFrames': WHATEVER THE INPUT: true; the input reads as it did. -/
def videoFramesSpec : ChangeSpec := { name := "videoFrames", fn := fun _ => fun
  | [d1, d2, d3] => { results := [.lit (.bool true)], args := [d1, d2, d3] }
  | _ => none }
def videoFramesRow : OpenClaim := { program := "ytambggbmkeemnaa", sum := "de0473cf28ee74236bccb5a2a71640959075ca0859c7665212755ebe673b3766", func := "bakelite/bakekeep1.VideoFrames", spec := "videoFrames", unfollowed := true, recurses := true, apart := false }
def VideoFramesSaid : Prop := videoFramesRow.holds Try.pinned (OpenSpec.ofChange videoFramesSpec)

/-- ITS FALSE NEIGHBOUR: 'it returns false'. Refute it at one input. -/
def videoFramesWrong : ChangeSpec := { name := "videoFrames", fn := fun _ => fun
  | [d1, d2, d3] => { results := [.lit (.bool false)], args := [d1, d2, d3] }
  | _ => none }
def VideoFramesWrongFalsely : Prop := videoFramesRow.holds Try.pinned (OpenSpec.ofChange videoFramesWrong)

/-- 'bakekeep1.VideoSprites': WHATEVER THE INPUT: true; the input reads as it did. -/
def videoSpritesSpec : ChangeSpec := { name := "videoSprites", fn := fun _ => fun
  | [d1, d2, d3] => { results := [.lit (.bool true)], args := [d1, d2, d3] }
  | _ => none }
def videoSpritesRow : OpenClaim := { program := "ytambggbmkeemnaa", sum := "de0473cf28ee74236bccb5a2a71640959075ca0859c7665212755ebe673b3766", func := "bakelite/bakekeep1.VideoSprites", spec := "videoSprites", unfollowed := true, recurses := true, apart := false }
def VideoSpritesSaid : Prop := videoSpritesRow.holds Try.pinned (OpenSpec.ofChange videoSpritesSpec)

/-- ITS FALSE NEIGHBOUR: 'it returns false'. Refute it at one input. -/
def videoSpritesWrong : ChangeSpec := { name := "videoSprites", fn := fun _ => fun
  | [d1, d2, d3] => { results := [.lit (.bool false)], args := [d1, d2, d3] }
  | _ => none }
def VideoSpritesWrongFalsely : Prop := videoSpritesRow.holds Try.pinned (OpenSpec.ofChange videoSpritesWrong)

/-- 'bakekeep1.VideoKeeps': WHATEVER THE INPUT: true; the input reads as it did. -/
def videoKeepsSpec : ChangeSpec := { name := "videoKeeps", fn := fun _ => fun
  | [d1, d2, d3, d4] => { results := [.lit (.bool true)], args := [d1, d2, d3, d4] }
  | _ => none }
def videoKeepsRow : OpenClaim := { program := "ytambggbmkeemnaa", sum := "de0473cf28ee74236bccb5a2a71640959075ca0859c7665212755ebe673b3766", func := "bakelite/bakekeep1.VideoKeeps", spec := "videoKeeps", unfollowed := true, recurses := true, apart := false }
def VideoKeepsSaid : Prop := videoKeepsRow.holds Try.pinned (OpenSpec.ofChange videoKeepsSpec)

/-- ITS FALSE NEIGHBOUR: 'it returns false'. Refute it at one input. -/
def videoKeepsWrong : ChangeSpec := { name := "videoKeeps", fn := fun _ => fun
  | [d1, d2, d3, d4] => { results := [.lit (.bool false)], args := [d1, d2, d3, d4] }
  | _ => none }
def VideoKeepsWrongFalsely : Prop := videoKeepsRow.holds Try.pinned (OpenSpec.ofChange videoKeepsWrong)

/- THE SECOND FORM. 'bulk': how many values and letters a reading holds, each counted each time it is reached (what is shared counts as often as it is met; a slice's spare places count too). A statement '..UptoSaid' is the law's where the arguments, and the package variables that the reading takes, are together of bulk at most 1048576: NARROWER than '..Said'. Prove '..Said' where nothing that the law and all that it calls make is longer than what came in: it says more and counts as full. Else prove '..UptoSaid'. A law counts once. -/
mutual
def uptoBulk {H : Type} : DataW H → Nat
  | .lit (.string bytes) => bytes.length + 1
  | .lit _ => 1
  | .nil => 1
  | .ptr d => uptoBulk d + 1
  | .slice elems spare => uptoBulkAll elems + uptoBulkAll spare + 1
  | .agg parts => uptoBulkAll parts + 1
  | .iface _ d => uptoBulk d + 1
  | .map entries => uptoBulkEntries entries + 1
  | .held _ => 1
def uptoBulkAll {H : Type} : List (DataW H) → Nat
  | [] => 0
  | d :: r => uptoBulk d + uptoBulkAll r
def uptoBulkEntries {H : Type} : List (Lit × DataW H) → Nat
  | [] => 0
  | x :: r => uptoBulkEntry x + uptoBulkEntries r
def uptoBulkEntry {H : Type} : Lit × DataW H → Nat
  | (.string bytes, d) => bytes.length + uptoBulk d + 1
  | (_, d) => uptoBulk d + 1
 end
def uptoSmall : (H : Type) → List (DataW H) → Bool := fun _ ds => decide (uptoBulkAll ds ≤ 1048576)
def OpenSpec.upto (s : _root_.Go.ChangeSpec) : _root_.Go.OpenSpec := { _root_.Go.OpenSpec.ofChange s with cond := some uptoSmall }

/-- 'bakelaw1.VideoActs', WHERE WHAT IT READS IS OF BULK AT MOST 1048576: true; the input reads as it did. -/
def videoActsUptoRow : OpenClaim := { program := "ytambggbmkeemnaa", sum := "de0473cf28ee74236bccb5a2a71640959075ca0859c7665212755ebe673b3766", func := "bakelite/bakelaw1.VideoActs", spec := "videoActs", unfollowed := true, recurses := true, apart := false, narrowed := true }
def VideoActsUptoSaid : Prop := videoActsUptoRow.holds Try.pinned (OpenSpec.upto videoActsSpec)

/-- 'bakelaw1.VideoTicks', WHERE WHAT IT READS IS OF BULK AT MOST 1048576: true; the input reads as it did. -/
def videoTicksUptoRow : OpenClaim := { program := "ytambggbmkeemnaa", sum := "de0473cf28ee74236bccb5a2a71640959075ca0859c7665212755ebe673b3766", func := "bakelite/bakelaw1.VideoTicks", spec := "videoTicks", unfollowed := true, recurses := true, apart := false, narrowed := true }
def VideoTicksUptoSaid : Prop := videoTicksUptoRow.holds Try.pinned (OpenSpec.upto videoTicksSpec)

/-- 'bakekeep1.VideoFrames', WHERE WHAT IT READS IS OF BULK AT MOST 1048576: true; the input reads as it did. -/
def videoFramesUptoRow : OpenClaim := { program := "ytambggbmkeemnaa", sum := "de0473cf28ee74236bccb5a2a71640959075ca0859c7665212755ebe673b3766", func := "bakelite/bakekeep1.VideoFrames", spec := "videoFrames", unfollowed := true, recurses := true, apart := false, narrowed := true }
def VideoFramesUptoSaid : Prop := videoFramesUptoRow.holds Try.pinned (OpenSpec.upto videoFramesSpec)

/-- 'bakekeep1.VideoSprites', WHERE WHAT IT READS IS OF BULK AT MOST 1048576: true; the input reads as it did. -/
def videoSpritesUptoRow : OpenClaim := { program := "ytambggbmkeemnaa", sum := "de0473cf28ee74236bccb5a2a71640959075ca0859c7665212755ebe673b3766", func := "bakelite/bakekeep1.VideoSprites", spec := "videoSprites", unfollowed := true, recurses := true, apart := false, narrowed := true }
def VideoSpritesUptoSaid : Prop := videoSpritesUptoRow.holds Try.pinned (OpenSpec.upto videoSpritesSpec)

/-- 'bakekeep1.VideoKeeps', WHERE WHAT IT READS IS OF BULK AT MOST 1048576: true; the input reads as it did. -/
def videoKeepsUptoRow : OpenClaim := { program := "ytambggbmkeemnaa", sum := "de0473cf28ee74236bccb5a2a71640959075ca0859c7665212755ebe673b3766", func := "bakelite/bakekeep1.VideoKeeps", spec := "videoKeeps", unfollowed := true, recurses := true, apart := false, narrowed := true }
def VideoKeepsUptoSaid : Prop := videoKeepsUptoRow.holds Try.pinned (OpenSpec.upto videoKeepsSpec)

end Rows
end Go.Proofs.Ytambggbmkeemnaa
