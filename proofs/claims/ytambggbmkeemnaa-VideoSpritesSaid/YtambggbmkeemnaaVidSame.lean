/- States of video chips compared, and given on as arguments. -/
import Derived.Test.YtambggbmkeemnaaChecked
import Derived.Test.YtambggbmkeemnaaVidD
import Derived.Below
import Derived.BigQuiet
import Derived.ChangeMaps5
import Derived.Deep.DeepCutAuto
import Derived.Deep.Draws
import Derived.Deep.MidRow
import Derived.Deep.OwnRows
import Derived.Deep.QuietTactic
import Derived.Deep.RegionHeld3
import Derived.Deep.RegionWith
import Derived.Deep.Slices
import Derived.Deep.WholeRow
import Derived.Laws.CopyOwn
import Derived.Lib.Hide
import Derived.Lib.SmallJoins
import Derived.OpenShut
import Derived.OrdersHeld
import Derived.OwnWalk
import Derived.RowKit3
import Derived.StillTactics
import Derived.StillTail
import Derived.StillTailTactics
import Derived.WalkKit
namespace Go.Proofs.Ytambggbmkeemnaa
open Go.RowKit
set_option maxRecDepth 100000

theorem byt_fit {l : List Int} (h : ∀ x ∈ l, (Lit.int .u8 x).wf = true) : ∀ x ∈ l, 0 ≤ x ∧ x < 256 := fun x hx => by
  have := h x hx
  simp [Lit.wf, IntKind.min, IntKind.max, IntKind.signed, IntKind.bits] at this
  omega
theorem Vd.fit_mem {s : Vd} (hs : s.fit) : ∀ x ∈ s.m, 0 ≤ x ∧ x < 256 := fun x hx => by
  obtain ⟨i, hi, rfl⟩ := List.getElem_of_mem hx
  have := hs.b i
  unfold vreg at this
  rw [List.getD_eq_getElem?_getD, List.getElem?_eq_getElem hi] at this
  exact this
theorem Vd.ofN_self {s : Vd} (hs : s.fit) : Vd.ofN [s.p, s.h] s.m = s := by
  obtain ⟨p, h, m⟩ := s
  have h1 := hs.p
  have h2 := hs.h
  have h3 := hs.m
  dsimp only at h1 h2 h3
  show Vd.mk (p % 2560) (h % 2) (pad 32 m) = _
  rw [pad_self h3, Int.emod_eq_of_lt h1.1 h1.2, Int.emod_eq_of_lt h2.1 h2.2]
theorem devV.arg {lo : Nat} {w : World} {v : Value} {s : Vd} (h : devV lo w v s) (hs : s.fit) : ∃ vx vm, v = .agg #[vx, vm] ∧ isArg w vx [s.p, s.h] ∧ isByt w vm s.m := by
  obtain ⟨g, q, rfl, _, _, _, hr, hr2⟩ := h
  exact ⟨_, _, rfl, numB_arg (l := [s.p, s.h]) hr (by simp), byt32 hr2 hs.m⟩
theorem devV.lo0 {lo : Nat} {w : World} {v : Value} {s : Vd} (h : devV lo w v s) : devV 0 w v s := by
  obtain ⟨g, q, e, _, _, h3⟩ := h
  exact ⟨g, q, e, Nat.zero_le _, Nat.zero_le _, h3⟩
theorem sameV_any (v u : Value) (s : Vd) (a b : Nat) (w : World) (hs : s.fit) (h : devV a w v s) (g : devV b w u s) :
    Calls Try.prog 9 #[v, u] w fun e w' => e = .returned (.bool true) ∧ Below w.heap.size w w' := by
  obtain ⟨vx, vm, rfl, h1, h2⟩ := h.arg hs
  obtain ⟨ux, um, rfl, h3, h4⟩ := g.arg hs
  have := sameDv_any _ _ _ _ [s.p, s.h] [s.p, s.h] s.m s.m w h1 h2 h3 h4
  rw [decide_eq_true (rfl : [s.p, s.h] = [s.p, s.h]), decide_eq_true (rfl : s.m = s.m)] at this
  exact this
theorem Vd.read_fit {s : Vd} (hs : s.fit) (a : Int) : (s.read a).fit := by
  unfold Vd.read
  split
  · exact ⟨hs.p, ⟨(by decide : (0 : Int) ≤ 0), (by decide : (0 : Int) < 2)⟩, hs.m, hs.b⟩
  · exact hs
end Go.Proofs.Ytambggbmkeemnaa
