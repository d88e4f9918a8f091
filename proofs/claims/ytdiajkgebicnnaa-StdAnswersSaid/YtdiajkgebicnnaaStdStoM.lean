/- What is stored is loaded again: the program's run, plain facts. -/
import Derived.Test.YtdiajkgebicnnaaChecked
import Derived.Test.YtdiajkgebicnnaaStdRun2
import Derived.Test.YtdiajkgebicnnaaWholes
import Derived.Below
import Derived.BigQuiet
import Derived.ChangeMaps5
import Derived.Deep.CutBlock
import Derived.Deep.DeepAppendWide
import Derived.Deep.DeepCutAuto
import Derived.Deep.Draws
import Derived.Deep.MidRow
import Derived.Deep.OwnRows
import Derived.Deep.QuietTactic
import Derived.Deep.RegionHeld3
import Derived.Deep.RegionLaw
import Derived.Deep.RegionWith
import Derived.Deep.Slices
import Derived.Deep.WholeRow
import Derived.Great.BuildSlice
import Derived.Laws.CopyOwn
import Derived.Laws.OwnMore
import Derived.Lib.Hide
import Derived.Lib.SmallJoins
import Derived.OpenShut
import Derived.OrdersHeld
import Derived.OwnWalk
import Derived.RangeFuncBox
import Derived.RowKit3
import Derived.Shelf.Abstract
import Derived.SizedLaws
import Derived.StillTactics
import Derived.StillTail
import Derived.StillTailTactics
import Derived.WalkKit
namespace Go.Proofs.Ytdiajkgebicnnaa
open Go.RowKit
set_option maxRecDepth 100000

theorem op_ldx1 : opIn 8 stdI = some ⟨8, ⟨#[108, 100, 120]⟩, 1, loadC (1 : Nat) 1⟩ := by kernel_rfl
theorem op_sta3 : opIn 15 stdI = some ⟨15, ⟨#[115, 116, 97]⟩, 3, storeC 0 3⟩ := by kernel_rfl
theorem op_lda2 : opIn 2 stdI = some ⟨2, ⟨#[108, 100, 97]⟩, 2, loadC (0 : Nat) 2⟩ := by kernel_rfl
theorem op_ldy4 : opIn 13 stdI = some ⟨13, ⟨#[108, 100, 121]⟩, 4, loadC (2 : Nat) 4⟩ := by kernel_rfl
theorem at16_small (k : Int) (h : 0 ≤ k ∧ k < 65536) : at16 k = k.toNat := by
  obtain ⟨n, rfl⟩ : ∃ n : Nat, k = (n : Int) := ⟨k.toNat, by omega⟩
  rw [at16_of _ (by omega)]
  rfl
/-- The program. -/
def storesP (n a x : Int) : List Int := [8, x, 1, n, 15, a, 1, (n + 1) % 256, 2, a + x, 13, a + x, 0]
theorem stores_pure (n a x : Int) (hn : 0 ≤ n ∧ n < 256) (ha : 0 ≤ a ∧ a < 200) (hx : 0 ≤ x ∧ x < 50) (f : Nat → Int) (hf : fits f) (h7 : f 7 = 1024) :
    ∃ f' m', runsK 6 ⟨f, -1, 0, false⟩ (loadP (storesP n a x)) = (⟨f', -1, 0, false⟩, m') ∧ f' 0 = n ∧ f' 2 = n ∧ f' 1 = x ∧ f' 7 = 1037 ∧ bits .and .i64 (f' 4) 2 = (if n = 0 then 2 else 0) := by
  obtain ⟨p, hp⟩ : ∃ p, p = storesP n a x := ⟨_, rfl⟩
  have hb : ∀ y ∈ p, 0 ≤ y ∧ y < 256 := by
    rw [hp]
    intro y hy
    simp only [storesP, List.mem_cons, List.not_mem_nil, or_false] at hy
    rcases hy with rfl | rfl | rfl | rfl | rfl | rfl | rfl | rfl | rfl | rfl | rfl | rfl | rfl <;> omega
  have hm : isMem (loadP p) := load_mem hb
  have at_ : ∀ j : Nat, j < 60000 → loadP p (at16 (1024 + (j : Int))) = p.getD j 0 := fun j h => at1024 p j h
  obtain ⟨m, hmd⟩ : ∃ m, m = loadP p := ⟨_, rfl⟩
  rw [← hmd] at hm at_
  have g0 : m (at16 1024) = 8 := (at_ 0 (by decide)).trans (by rw [hp]; rfl)
  have g1 : m (at16 1025) = x := (at_ 1 (by decide)).trans (by rw [hp]; rfl)
  have g2 : m (at16 1026) = 1 := (at_ 2 (by decide)).trans (by rw [hp]; rfl)
  have g3 : m (at16 1027) = n := (at_ 3 (by decide)).trans (by rw [hp]; rfl)
  have g4 : m (at16 1028) = 15 := (at_ 4 (by decide)).trans (by rw [hp]; rfl)
  have g5 : m (at16 1029) = a := (at_ 5 (by decide)).trans (by rw [hp]; rfl)
  have g6 : m (at16 1030) = 1 := (at_ 6 (by decide)).trans (by rw [hp]; rfl)
  have g8 : m (at16 1032) = 2 := (at_ 8 (by decide)).trans (by rw [hp]; rfl)
  have g9 : m (at16 1033) = a + x := (at_ 9 (by decide)).trans (by rw [hp]; rfl)
  have g10 : m (at16 1034) = 13 := (at_ 10 (by decide)).trans (by rw [hp]; rfl)
  have g11 : m (at16 1035) = a + x := (at_ 11 (by decide)).trans (by rw [hp]; rfl)
  have g12 : m (at16 1036) = 0 := (at_ 12 (by decide)).trans (by rw [hp]; rfl)
  rw [← hp, ← hmd]
  clear at_ hp hb hmd
  obtain ⟨f1, l1, r1, ⟨t1, k1⟩, p1, v1, z1⟩ := i_ldi hf hm (by omega) 1 (by decide) _ 8 (by rw [h7]; exact g0) op_ldx1
  rw [h7] at p1 v1
  rw [show (1024 : Int) + 1 = 1025 from rfl, g1] at v1
  obtain ⟨f2, l2, r2, ⟨t2, k2⟩, p2, v2, z2⟩ := i_ldi t1 hm (by omega) 0 (by decide) _ 1 (by rw [p1]; exact g2) op_lda1
  rw [p1] at p2 v2
  rw [show (1024 : Int) + 2 + 1 = 1027 from rfl, g3] at v2
  have x2 : f2 1 = x := (k2 1 (by decide)).trans v1
  obtain ⟨f3, l3, r3, ⟨t3, k3⟩, p3⟩ := i_stzx t2 hm (by omega) _ 15 (by rw [p2]; exact g4) op_sta3
  rw [p2] at p3 r3
  rw [show (1024 : Int) + 2 + 2 + 1 = 1029 from rfl, g5, x2, v2, Int.emod_eq_of_lt (by omega) (by omega)] at r3
  have x3 : f3 1 = x := (k3 1 (by decide)).trans x2
  have hfar : ∀ j : Int, 1024 ≤ j → j < 65536 → flatF.wr m (a + x) n (at16 j) = m (at16 j) := fun j h1 h2 => by
    show (if at16 j = at16 (a + x) then n % 256 else m (at16 j)) = _
    rw [if_neg (by rw [at16_small _ (by omega), at16_small _ (by omega)]; omega)]
  have hnear : flatF.wr m (a + x) n (at16 (a + x)) = n := by
    show (if at16 (a + x) = at16 (a + x) then n % 256 else _) = _
    rw [if_pos rfl, Int.emod_eq_of_lt hn.1 hn.2]
  have hm3 := isMem_wr hm (a + x) n
  obtain ⟨m3, hm3e⟩ : ∃ m3, m3 = flatF.wr m (a + x) n := ⟨_, rfl⟩
  rw [← hm3e] at hfar hnear hm3 r3
  have w6 := (hfar 1030 (by decide) (by decide)).trans g6
  have w8 := (hfar 1032 (by decide) (by decide)).trans g8
  have w9 := (hfar 1033 (by decide) (by decide)).trans g9
  have w10 := (hfar 1034 (by decide) (by decide)).trans g10
  have w11 := (hfar 1035 (by decide) (by decide)).trans g11
  have w12 := (hfar 1036 (by decide) (by decide)).trans g12
  obtain ⟨f4, l4, r4, ⟨t4, k4⟩, p4, v4, z4⟩ := i_ldi t3 hm3 (by omega) 0 (by decide) _ 1 (by rw [p3]; exact w6) op_lda1
  rw [p3] at p4
  have x4 : f4 1 = x := (k4 1 (by decide)).trans x3
  obtain ⟨f5, l5, r5, ⟨t5, k5⟩, p5, v5, z5⟩ := i_ldz t4 hm3 (by omega) 0 (by decide) _ 2 (by rw [p4]; exact w8) op_lda2
  rw [p4] at p5 v5
  rw [show (1024 : Int) + 2 + 2 + 2 + 2 + 1 = 1033 from rfl, w9, hnear] at v5
  have x5 : f5 1 = x := (k5 1 (by decide)).trans x4
  obtain ⟨f6, l6, r6, ⟨t6, k6⟩, p6, v6, z6⟩ := i_lda16 t5 hm3 (by omega) 2 (by decide) _ 13 (by rw [p5]; exact w10) op_ldy4
  rw [p5] at p6 v6 z6
  rw [show (1024 : Int) + 2 + 2 + 2 + 2 + 2 + 1 = 1035 from rfl, show (1024 : Int) + 2 + 2 + 2 + 2 + 2 + 2 = 1036 from rfl, w11, w12, show a + x + 256 * 0 = a + x by omega, hnear] at v6 z6
  refine ⟨f6, m3, ?_, (k6 0 (by decide)).trans v5, v6, (k6 1 (by decide)).trans x5, p6, ?_⟩
  · rw [runsK_cons r1, runsK_cons r2, runsK_cons r3, runsK_cons r4, runsK_cons r5, runsK_cons r6]
    rfl
  · rw [z6, flg_zero ⟨(t5 4).1, (t5 4).2.2 (by decide) (by decide)⟩ hn]
end Go.Proofs.Ytdiajkgebicnnaa
