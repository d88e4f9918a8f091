/- A part of the proof of ChipBanks: Shape, VidC, VidD, VidSame. -/
import Derived.Test.YtakaebjojgeehaaChipBanksK01
import Derived.Test.YtakaebjojgeehaaChipBanksK02
import Derived.Test.YtakaebjojgeehaaChipBanksK03
import Derived.Test.YtakaebjojgeehaaChipBanksK04
import Derived.Test.YtakaebjojgeehaaChipBanksK05
import Derived.Test.YtakaebjojgeehaaChipBanksK06
import Derived.Test.YtakaebjojgeehaaChipBanksK15
import Derived.Below
import Derived.BigQuiet
import Derived.ChangeMaps5
import Derived.Deep.DeepCutAuto
import Derived.Deep.Draws
import Derived.Deep.MidRow
import Derived.Deep.OwnRows
import Derived.Deep.QuietTactic
import Derived.Deep.RegionHeld3
import Derived.Deep.RegionWith
import Derived.Deep.Slices
import Derived.Deep.WholeRow
import Derived.Laws.CopyOwn
import Derived.Lib.Hide
import Derived.Lib.SmallJoins
import Derived.OpenShut
import Derived.OrdersHeld
import Derived.OwnWalk
import Derived.RowKit3
import Derived.StillTactics
import Derived.StillTail
import Derived.StillTailTactics
import Derived.Test.YtakaebjojgeehaaChecked
import Derived.WalkKit
namespace Go.Proofs.Ytakaebjojgeehaa
open Go.RowKit Go.ChangeShapes Go.WideShapes
/-- The slice v reads as the list l: R tells what the k cells of an element are. -/
def isArr {α : Type} (k : Nat) (R : World → List Value → α → Prop) (w : World) (v : Value) (l : List α) : Prop :=
  (∃ a cap, v = .slice a 0 cap ∧ l = []) ∨
  ∃ b off cap, v = .slice (some ⟨b, off, none⟩) l.length cap ∧ b < w.heap.size ∧ l.length ≤ cap ∧ cap ≤ 9223372036854775807 ∧
    ∀ i x, l[i]? = some x → ∃ cs, cs.length = k ∧ (∀ j, j < k → w.cell? ⟨b, off + i * k + j, none⟩ = cs[j]?) ∧ R w cs x

end Go.Proofs.Ytakaebjojgeehaa
namespace Go.Proofs.Ytakaebjojgeehaa
open Go.RowKit
set_option maxRecDepth 100000
/-- The cells of a state. -/
def Vd.cs (s : Vd) : Array Value := (Value.int .i64 s.p :: Value.int .i64 s.h :: s.m.map (Value.int .u8)).toArray
theorem Vd.cs_reg {s : Vd} (hl : s.m.length = 32) (i : Nat) (hi : i < 32) : s.cs[2 + i]? = some (.int .u8 (vreg s.m i)) := by
  unfold Vd.cs vreg
  rw [List.getElem?_toArray, Nat.add_comm 2 i, List.getElem?_cons_succ, List.getElem?_cons_succ, List.getElem?_map, List.getElem?_eq_getElem (by omega), List.getD_eq_getElem?_getD, List.getElem?_eq_getElem (by omega)]
  rfl
theorem vidReg_any (s : Vd) (g : Nat) (i : Int) (w : World) (h : rowB w g 68 s.cs) (hs : s.fit) (hi : 0 ≤ i ∧ i < 32) :
    Calls Try.prog 78 #[.pointer (some ⟨g, 0, none⟩), .int .i64 i] w fun e w' => e = .returned (.int .i64 (vreg s.m i.toNat)) ∧ w = w' := by
  have c := rowB_cell h (2 + i.toNat) (Vd.cs_reg hs.m i.toNat (by omega))
  have hb := hs.b i.toNat
  have hg := rowB_lt h
  generalize vreg s.m i.toNat = x at *
  obtain ⟨n, rfl⟩ : ∃ n : Nat, i = n := ⟨i.toNat, by omega⟩
  rw [Int.toNat_natCast] at c
  have hn : n < 32 := by omega
  have wx : wrap64 x = x := IntWalk.wrap64_in _ (by omega)
  go_enter Try.func78, Try.ntmps78
  go_wp2_with fail
  go_ret
  exact ⟨rfl, rfl⟩
end Go.Proofs.Ytakaebjojgeehaa
namespace Go.Proofs.Ytakaebjojgeehaa
open Go.RowKit
set_option maxRecDepth 100000
/-- The numbers of a video chip as they are read: the position is the last one if it is missing. -/
def vidL (l : List Int) : List Int := if l = [] then [2559] else l
/-- A video chip as its numbers and bytes are read. -/
def Vd.ofN (l lb : List Int) : Vd := ⟨(vidL l).getD 0 0 % 2560, (vidL l).getD 1 0 % 2, pad 32 lb⟩
theorem Vd.ofN_fit (l lb : List Int) (hb : ∀ x ∈ lb, 0 ≤ x ∧ x < 256) : (Vd.ofN l lb).fit := by
  refine ⟨⟨Int.emod_nonneg _ (by decide), Int.emod_lt_of_pos _ (by decide)⟩, ⟨Int.emod_nonneg _ (by decide), Int.emod_lt_of_pos _ (by decide)⟩, pad_len _ _, fun i => ?_⟩
  show 0 ≤ (pad 32 lb).getD i 0 ∧ (pad 32 lb).getD i 0 < 256
  rw [pad_get]
  split
  · exact Vd.reg_bd hb i
  · exact ⟨by decide, by decide⟩
/-- A state of a video chip in rows of its own. -/
def devV (lo : Nat) (w : World) (v : Value) (s : Vd) : Prop :=
  ∃ g q, v = .agg #[.slice (some ⟨g, 0, none⟩) 2 2, .slice (some ⟨q, 0, none⟩) 32 32] ∧ lo ≤ g ∧ lo ≤ q ∧ g ≠ q ∧ rowB w g 3 #[.int .i64 s.p, .int .i64 s.h] ∧ rowB w q 5 (byts s.m)
theorem devV.below {lo : Nat} {w w' : World} {v : Value} {s : Vd} (h : devV lo w v s) (hb : Below w.heap.size w w') : devV lo w' v s := by
  obtain ⟨g, q, e, h1, h2, h3, h4, h5⟩ := h
  exact ⟨g, q, e, h1, h2, h3, rowB_below h4 hb (rowB_lt h4), rowB_below h5 hb (rowB_lt h5)⟩
/-- The bytes of a row as an argument. -/
theorem byt32 {w : World} {q : Nat} {m : List Int} (h : rowB w q 5 (byts m)) (hl : m.length = 32) : isByt w (.slice (some ⟨q, 0, none⟩) 32 32) m := by
  have := bytB_arg h (by omega)
  rw [hl] at this
  exact this
end Go.Proofs.Ytakaebjojgeehaa
namespace Go.Proofs.Ytakaebjojgeehaa
open Go.RowKit
set_option maxRecDepth 100000
theorem devV.arg {lo : Nat} {w : World} {v : Value} {s : Vd} (h : devV lo w v s) (hs : s.fit) : ∃ vx vm, v = .agg #[vx, vm] ∧ isArg w vx [s.p, s.h] ∧ isByt w vm s.m := by
  obtain ⟨g, q, rfl, _, _, _, hr, hr2⟩ := h
  exact ⟨_, _, rfl, numB_arg (l := [s.p, s.h]) hr (by simp), byt32 hr2 hs.m⟩
theorem Vd.read_fit {s : Vd} (hs : s.fit) (a : Int) : (s.read a).fit := by
  unfold Vd.read
  split
  · exact ⟨hs.p, ⟨(by decide : (0 : Int) ≤ 0), (by decide : (0 : Int) < 2)⟩, hs.m, hs.b⟩
  · exact hs
end Go.Proofs.Ytakaebjojgeehaa
