/- What the museum's processor is. No function is named here. -/
import Derived.Test.YtdiajkgebicnnaaTabMath
import Derived.Below
import Derived.BigQuiet
import Derived.ChangeMaps5
import Derived.Deep.Draws
import Derived.Deep.OwnRows
import Derived.Deep.QuietTactic
import Derived.Deep.Slices
import Derived.Lib.Hide
import Derived.Lib.SmallJoins
import Derived.OpenShut
import Derived.OwnWalk
import Derived.RowKit3
import Derived.WalkKit
namespace Go.Proofs.Ytdiajkgebicnnaa
set_option maxRecDepth 100000
open Go.RowKit

def jumpS (r : Int) : List St := [⟨18, r, 5, 0⟩, ⟨19, r, 6, 0⟩]
def zeroS : List St := [⟨2, 8, 0, 0⟩, ⟨18, 8, 5, 0⟩]
def absC : List Cy := [⟨1, 0, 5, [⟨18, 8, 5, 0⟩]⟩, ⟨1, 0, 5, [⟨19, 8, 5, 0⟩]⟩]
def leadC (m : Int) : List Cy :=
  if m = 2 then [⟨1, 0, 5, zeroS⟩]
  else if m = 3 then [⟨1, 0, 5, zeroS ++ [⟨22, 8, 1, 0⟩]⟩, ⟨0, 0, 0, [⟨20, 5, 8, 0⟩] ++ zeroS⟩]
  else if m = 4 then absC
  else if m = 5 then absC ++ [⟨0, 0, 0, [⟨22, 8, 1, 0⟩]⟩]
  else if m = 6 then absC ++ [⟨0, 0, 0, [⟨22, 8, 2, 0⟩]⟩]
  else if m = 8 then [⟨1, 0, 5, zeroS⟩, ⟨1, 2, 5, []⟩, ⟨1, 3, 6, jumpS 8 ++ [⟨22, 8, 2, 0⟩]⟩]
  else []
def operandC (m : Int) (ss : List St) : List Cy := if m = 1 then [⟨1, 0, 5, ss⟩] else leadC m ++ [⟨1, 2, 5, ss⟩]
def loadC (r m : Int) : List Cy := operandC m [⟨1, r, 5, 0⟩, ⟨3, r, 0, 0⟩]
def storeC (r m : Int) : List Cy := leadC m ++ [⟨2, 2, r, []⟩]
def combineC (d r m : Int) : List Cy := operandC m [⟨d, r, 5, 0⟩]
def changeC (d m : Int) : List Cy := if m = 0 then [⟨0, 0, 0, [⟨d, 0, 0, 0⟩]⟩] else operandC m [⟨d, 5, 0, 0⟩] ++ [⟨2, 2, 5, []⟩]
def resetC : List Cy := [⟨1, 10, 5, []⟩, ⟨1, 11, 6, jumpS 7 ++ [⟨2, 3, 0, 255⟩]⟩]
def interruptC (a b : Int) : List Cy := [⟨0, 0, 0, [⟨21, 5, 7, 0⟩]⟩, ⟨2, 4, 5, [⟨20, 5, 7, 0⟩]⟩, ⟨2, 4, 5, []⟩, ⟨2, 4, 4, [⟨16, 0, 0, 4⟩]⟩, ⟨1, a, 5, []⟩, ⟨1, b, 6, jumpS 7⟩]

/-- Instructions of a name, one for each mode; the first has the byte n + 1. -/
def addI (n : Nat) (name : ByteArray) (F : Int → List Cy) : List Int → List In
  | [] => []
  | m :: ms => ⟨n + 1, name, m, F m⟩ :: addI (n + 1) name F ms
theorem addI_len (n : Nat) (name : ByteArray) (F : Int → List Cy) (ms : List Int) : (addI n name F ms).length = ms.length := by
  induction ms generalizing n with
  | nil => rfl
  | cons m ms ih => simp [addI, ih]
/-- .. behind those that are there. -/
def more (l : List In) (name : ByteArray) (F : Int → List Cy) (ms : List Int) : List In := l ++ addI l.length name F ms
def moreP (l : List In) (name : ByteArray) (m : Int) (cs : List Cy) : List In := more l name (fun _ => cs) [m]
theorem more_len (l : List In) (name : ByteArray) (F : Int → List Cy) (ms : List Int) : (more l name F ms).length = l.length + ms.length := by
  rw [more, List.length_append, addI_len]

def loadsI (l : List In) : List In :=
  more (more (more l ⟨#[108, 100, 97]⟩ (loadC 0) [1, 2, 3, 4, 5, 6, 8]) ⟨#[108, 100, 120]⟩ (loadC 1) [1, 2, 4]) ⟨#[108, 100, 121]⟩ (loadC 2) [1, 2, 4]
def storesI (l : List In) : List In :=
  more (more (more l ⟨#[115, 116, 97]⟩ (storeC 0) [2, 3, 4, 5, 6, 8]) ⟨#[115, 116, 120]⟩ (storeC 1) [2, 4]) ⟨#[115, 116, 121]⟩ (storeC 2) [2, 4]
def sumI (l : List In) (name : ByteArray) (d : Int) : List In := more l name (combineC d 0) [1, 2, 4, 5]
def sumsI (l : List In) : List In :=
  more (more (sumI (sumI (sumI (sumI (sumI (sumI l ⟨#[97, 100, 99]⟩ 4) ⟨#[115, 98, 99]⟩ 5) ⟨#[97, 110, 100]⟩ 7) ⟨#[111, 114, 97]⟩ 8) ⟨#[101, 111, 114]⟩ 9) ⟨#[99, 109, 112]⟩ 6) ⟨#[99, 112, 120]⟩ (combineC 6 1) [1, 2]) ⟨#[99, 112, 121]⟩ (combineC 6 2) [1, 2]
def changesI (l : List In) : List In :=
  more (more (more (more (more (more l ⟨#[105, 110, 99]⟩ (changeC 10) [2, 4]) ⟨#[100, 101, 99]⟩ (changeC 11) [2, 4]) ⟨#[97, 115, 108]⟩ (changeC 12) [0, 2]) ⟨#[108, 115, 114]⟩ (changeC 13) [0, 2]) ⟨#[114, 111, 108]⟩ (changeC 14) [0, 2]) ⟨#[114, 111, 114]⟩ (changeC 15) [0, 2]
def moveI (l : List In) (name : ByteArray) (t f : Int) : List In := moreP l name 0 [⟨0, 0, 0, [⟨1, t, f, 0⟩, ⟨3, t, 0, 0⟩]⟩]
def movesI (l : List In) : List In :=
  moreP (moreP (moreP (moreP (moreP (moveI (moveI (moveI (moveI (moveI l ⟨#[116, 97, 120]⟩ 1 0) ⟨#[116, 97, 121]⟩ 2 0) ⟨#[116, 120, 97]⟩ 0 1) ⟨#[116, 121, 97]⟩ 0 2) ⟨#[116, 115, 120]⟩ 1 3)
    ⟨#[116, 120, 115]⟩ 0 [⟨0, 0, 0, [⟨1, 3, 1, 0⟩]⟩]) ⟨#[105, 110, 120]⟩ 0 [⟨0, 0, 0, [⟨10, 1, 0, 0⟩]⟩]) ⟨#[105, 110, 121]⟩ 0 [⟨0, 0, 0, [⟨10, 2, 0, 0⟩]⟩]) ⟨#[100, 101, 120]⟩ 0 [⟨0, 0, 0, [⟨11, 1, 0, 0⟩]⟩]) ⟨#[100, 101, 121]⟩ 0 [⟨0, 0, 0, [⟨11, 2, 0, 0⟩]⟩]
def flagsI (l : List In) : List In :=
  moreP (moreP (moreP (moreP (moreP l ⟨#[99, 108, 99]⟩ 0 [⟨0, 0, 0, [⟨17, 0, 0, 1⟩]⟩]) ⟨#[115, 101, 99]⟩ 0 [⟨0, 0, 0, [⟨16, 0, 0, 1⟩]⟩]) ⟨#[99, 108, 105]⟩ 0 [⟨0, 0, 0, [⟨17, 0, 0, 4⟩]⟩]) ⟨#[115, 101, 105]⟩ 0 [⟨0, 0, 0, [⟨16, 0, 0, 4⟩]⟩]) ⟨#[110, 111, 112]⟩ 0 [⟨0, 0, 0, []⟩]
def stackI (l : List In) : List In :=
  moreP (moreP (moreP (moreP l ⟨#[112, 104, 97]⟩ 0 [⟨2, 4, 0, []⟩]) ⟨#[112, 108, 97]⟩ 0 [⟨1, 5, 0, [⟨3, 0, 0, 0⟩]⟩]) ⟨#[112, 104, 112]⟩ 0 [⟨2, 4, 4, []⟩]) ⟨#[112, 108, 112]⟩ 0 [⟨1, 5, 4, []⟩]
def jumpsI (l : List In) : List In :=
  moreP (moreP (moreP (moreP l ⟨#[106, 109, 112]⟩ 4 [⟨1, 0, 5, []⟩, ⟨1, 0, 6, jumpS 7⟩])
    ⟨#[106, 115, 114]⟩ 4 [⟨1, 0, 5, [⟨18, 8, 5, 0⟩]⟩, ⟨1, 0, 5, [⟨19, 8, 5, 0⟩, ⟨21, 5, 7, 0⟩]⟩, ⟨2, 4, 5, [⟨20, 5, 7, 0⟩]⟩, ⟨2, 4, 5, [⟨1, 7, 8, 0⟩]⟩])
    ⟨#[114, 116, 115]⟩ 0 [⟨1, 5, 5, []⟩, ⟨1, 5, 6, jumpS 7⟩])
    ⟨#[114, 116, 105]⟩ 0 [⟨1, 5, 4, []⟩, ⟨1, 5, 5, []⟩, ⟨1, 5, 6, jumpS 7⟩]
def branchI (l : List In) (name : ByteArray) (v f : Int) : List In := moreP l name 7 [⟨1, 0, 5, [⟨24, 0, v, f⟩]⟩, ⟨0, 0, 0, [⟨23, 7, 5, 0⟩]⟩]
def branchesI (l : List In) : List In :=
  branchI (branchI (branchI (branchI (branchI (branchI l ⟨#[98, 101, 113]⟩ 1 2) ⟨#[98, 110, 101]⟩ 0 2) ⟨#[98, 99, 115]⟩ 1 1) ⟨#[98, 99, 99]⟩ 0 1) ⟨#[98, 109, 105]⟩ 1 128) ⟨#[98, 112, 108]⟩ 0 128
def stdI : List In := branchesI (jumpsI (stackI (flagsI (movesI (changesI (sumsI (storesI (loadsI []))))))))
def stdC : Cp := ⟨⟨#[115, 116, 100]⟩, stdI, resetC, interruptC 6 7, interruptC 8 9⟩
theorem stdI_len : stdI.length = 92 := by decide
end Go.Proofs.Ytdiajkgebicnnaa
