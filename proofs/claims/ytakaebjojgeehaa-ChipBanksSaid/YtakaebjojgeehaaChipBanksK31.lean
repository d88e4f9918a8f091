/- A part of the proof of ChipBanks: SndC. -/
import Derived.Test.YtakaebjojgeehaaChipBanksK01
import Derived.Test.YtakaebjojgeehaaChipBanksK02
import Derived.Test.YtakaebjojgeehaaChipBanksK03
import Derived.Test.YtakaebjojgeehaaChipBanksK04
import Derived.Test.YtakaebjojgeehaaChipBanksK07
import Derived.Test.YtakaebjojgeehaaChipBanksK08
import Derived.Test.YtakaebjojgeehaaChipBanksK11
import Derived.Below
import Derived.BigQuiet
import Derived.ChangeMaps5
import Derived.Deep.AppendSrc
import Derived.Deep.DeepCutAuto
import Derived.Deep.Draws
import Derived.Deep.MidRow
import Derived.Deep.OwnRows
import Derived.Deep.QuietTactic
import Derived.Deep.RegionHeld3
import Derived.Deep.RegionWith
import Derived.Deep.Slices
import Derived.Deep.WholeRow
import Derived.Lib.Hide
import Derived.Lib.SmallJoins
import Derived.OpenShut
import Derived.OrdersHeld
import Derived.OwnWalk
import Derived.RowKit3
import Derived.StillTactics
import Derived.StillTail
import Derived.StillTailTactics
import Derived.Test.YtakaebjojgeehaaChecked
import Derived.WalkKit
namespace Go.Proofs.Ytakaebjojgeehaa
open Go.RowKit
set_option maxRecDepth 100000
/-- The cells of a voice, and of two. -/
def Vc.cs (s : Vc) : Array Value := #[.int .i64 s.p, .int .i64 s.v, .int .i64 s.r, .int .i64 s.c, .int .i64 s.f, .int .i64 s.g]
def Sn.cs (s : Sn) : Array Value := #[.int .i64 s.a.p, .int .i64 s.a.v, .int .i64 s.a.r, .int .i64 s.a.c, .int .i64 s.a.f, .int .i64 s.a.g, .int .i64 s.b.p, .int .i64 s.b.v, .int .i64 s.b.r, .int .i64 s.b.c, .int .i64 s.b.f, .int .i64 s.b.g]
theorem agVc : isAg Try.prog 71 6 := ⟨⟨_, Try.underlying71, rfl⟩, by kernel_rfl⟩
theorem agSn : isAg Try.prog 73 12 := ⟨⟨_, Try.underlying73, rfl⟩, by kernel_rfl⟩
theorem Vc.one (p v r c f g : Int) : (#[.int .i64 p, .int .i64 v, .int .i64 r, .int .i64 c, .int .i64 f, .int .i64 g] : Array Value).all (·.oneCell') = true := by simp [Value.oneCell']
theorem vcCells {w : World} {y : Nat} {ty : TypeId} {p v r c f g : Value} (h : rowB w y ty #[p, v, r, c, f, g]) : w.cell? ⟨y, 0, none⟩ = some p ∧ w.cell? ⟨y, 1, none⟩ = some v ∧ w.cell? ⟨y, 2, none⟩ = some r ∧ w.cell? ⟨y, 3, none⟩ = some c ∧ w.cell? ⟨y, 4, none⟩ = some f ∧ w.cell? ⟨y, 5, none⟩ = some g ∧ w.frozen? ⟨y, 0, none⟩ = false ∧ w.frozen? ⟨y, 1, none⟩ = false ∧ w.frozen? ⟨y, 2, none⟩ = false ∧ w.frozen? ⟨y, 3, none⟩ = false ∧ w.frozen? ⟨y, 4, none⟩ = false ∧ w.frozen? ⟨y, 5, none⟩ = false :=
  ⟨rowB_cell h 0 rfl, rowB_cell h 1 rfl, rowB_cell h 2 rfl, rowB_cell h 3 rfl, rowB_cell h 4 rfl, rowB_cell h 5 rfl, rowB_free h 0, rowB_free h 1, rowB_free h 2, rowB_free h 3, rowB_free h 4, rowB_free h 5⟩
theorem get_lo (p : Int) (hp : 0 ≤ p ∧ p < 4096) : lo (p / 2 ^ wd 0) (fz 0 8) = p % 256 ∧ lo (p / 2 ^ wd 8) (fz 8 4) = p / 256 := by
  have e1 : wd 0 = 0 := rfl
  have e2 : fz 0 8 = 8 := rfl
  have e3 : wd 8 = 8 := rfl
  have e4 : fz 8 4 = 4 := rfl
  rw [e1, e2, e3, e4]
  unfold lo
  rw [show (2 : Int) ^ 0 = 1 by decide, show (2 : Int) ^ 8 = 256 by decide, show (2 : Int) ^ 4 = 16 by decide]
  omega
theorem put_lo (p x : Int) (hp : 0 ≤ p ∧ p < 4096) : putN p (wd 0) (fz 0 8) x = p / 256 * 256 + x % 256 ∧ putN p (wd 8) (fz 8 4) x = p % 256 + x % 16 * 256 := by
  have e1 : wd 0 = 0 := rfl
  have e2 : fz 0 8 = 8 := rfl
  have e3 : wd 8 = 8 := rfl
  have e4 : fz 8 4 = 4 := rfl
  rw [e1, e2, e3, e4]
  unfold putN lo
  simp only [show (2 : Int) ^ 62 = 4611686018427387904 by decide, show (2 : Int) ^ (0 + 8) = 256 by decide, show (2 : Int) ^ (8 + 4) = 4096 by decide, show (2 : Int) ^ 0 = 1 by decide, show (2 : Int) ^ 4 = 16 by decide]
  omega
theorem vcRead_any (s : Vc) (hs : s.fit) (k : Int) (hk : 0 ≤ k ∧ k < 4) (w : World) :
    Calls Try.prog 79 #[.agg s.cs, .int .i64 k] w fun e w' => e = .returned (.int .i64 (s.reg k)) ∧ Below w.heap.size w w' := by
  have b0 := (boxes1 w (.cells s.cs 71)).2.1
  have hg := get_lo s.p hs.p
  obtain ⟨p, v, r, c, f, g⟩ := s
  dsimp only [Vc.cs] at *
  clear hs
  rcases (by omega : k = 0 ∨ k = 1 ∨ k = 2 ∨ k = 3) with rfl | rfl | rfl | rfl
  · rw [show (⟨p, v, r, c, f, g⟩ : Vc).reg 0 = p % 256 from rfl]
    go_enter Try.func79, Try.ntmps79
    go_wp2_with (go_at_call 75; refine (get_any _ _ _ _).mono ?_; rintro e w' ⟨rfl, rfl⟩; rw [hg.1])
    go_ret
    exact ⟨rfl, b0⟩
  · rw [show (⟨p, v, r, c, f, g⟩ : Vc).reg 1 = p / 256 from rfl]
    go_enter Try.func79, Try.ntmps79
    go_wp2_with (go_at_call 75; refine (get_any _ _ _ _).mono ?_; rintro e w' ⟨rfl, rfl⟩; rw [hg.2])
    go_ret
    exact ⟨rfl, b0⟩
  · rw [show (⟨p, v, r, c, f, g⟩ : Vc).reg 2 = v from rfl]
    go_enter Try.func79, Try.ntmps79
    go_wp2_with fail
    go_ret
    exact ⟨rfl, b0⟩
  · rw [show (⟨p, v, r, c, f, g⟩ : Vc).reg 3 = r from rfl]
    go_enter Try.func79, Try.ntmps79
    go_wp2_with fail
    go_ret
    exact ⟨rfl, b0⟩
set_option maxHeartbeats 1000000 in
theorem vcWrite_any (s : Vc) (hs : s.fit) (k x : Int) (hk : 0 ≤ k ∧ k < 4) (w : World) :
    Calls Try.prog 73 #[.agg s.cs, .int .i64 k, .int .i64 x] w fun e w' => e = .returned (.agg (s.write k x).cs) ∧ Below w.heap.size w w' := by
  obtain ⟨k0, k1, bW, sW⟩ := boxes2 w (.cells s.cs 71) (.cells #[.int .i64 0, .int .i64 0, .int .i64 0, .int .i64 0, .int .i64 0, .int .i64 0] 71)
  have k0 : rowB _ _ _ _ := k0
  have k1 : rowB _ _ _ _ := k1
  have hp := put_lo s.p x hs.p
  obtain ⟨p, v, r, c, f, g⟩ := s
  dsimp only [Vc.cs] at *
  clear hs
  rcases (by omega : k = 0 ∨ k = 1 ∨ k = 2 ∨ k = 3) with rfl | rfl | rfl | rfl
  · have e : (⟨p, v, r, c, f, g⟩ : Vc).write 0 x = ⟨p / 256 * 256 + x % 256, v, r, c, f, g⟩ := rfl
    rw [e]
    clear e
    go_enter Try.func73, Try.ntmps73
    go_upto_region 1 with (fail)
    generalize (w.alloc (.cells #[.int .i64 p, .int .i64 v, .int .i64 r, .int .i64 c, .int .i64 f, .int .i64 g] 71)).alloc (.cells #[.int .i64 0, .int .i64 0, .int .i64 0, .int .i64 0, .int .i64 0, .int .i64 0] 71) = w1 at *
    obtain ⟨e0, e1, e2, e3, e4, e5, z0, z1, z2, z3, z4, z5⟩ := vcCells k0
    go_upto_region 10 with (first
        | (go_at_call 67; refine (put_any _ _ _ _ _).mono ?_; rintro e w' ⟨rfl, rfl⟩; rw [hp.1])
  )
    have r0 : rowB _ w.heap.size 71 #[.int .i64 (p / 256 * 256 + x % 256), .int .i64 v, .int .i64 r, .int .i64 c, .int .i64 f, .int .i64 g] := (rowB_set k0 0 (.int .i64 (p / 256 * 256 + x % 256)))
    have r1 := (rowB_other k1 ⟨w.heap.size, 0, none⟩ (.int .i64 (p / 256 * 256 + x % 256)) (show w.heap.size ≠ _ by omega))
    have bX := (Below.setCell bW (p := ⟨w.heap.size, 0, none⟩) (show w.heap.size ≤ w.heap.size by omega) (.int .i64 (p / 256 * 256 + x % 256)))
    clear k0 k1 bW e0 z0 e1 z1 e2 z2 e3 z3 e4 z4 e5 z5
    go_wp2_with (first
        | (refine wpList_loadR rfl 71 _ rfl w.heap.size rfl 71 #[.int .i64 (p / 256 * 256 + x % 256), .int .i64 v, .int .i64 r, .int .i64 c, .int .i64 f, .int .i64 g] ?_ agVc ?_; with_reducible exact r0)
        | (refine wpList_storeR rfl 71 _ _ rfl (w.heap.size + 1) rfl #[.int .i64 (p / 256 * 256 + x % 256), .int .i64 v, .int .i64 r, .int .i64 c, .int .i64 f, .int .i64 g] rfl (Vc.one _ _ _ _ _ _) 71 #[.int .i64 0, .int .i64 0, .int .i64 0, .int .i64 0, .int .i64 0, .int .i64 0] rfl ?_ agVc ?_; with_reducible exact r1)
  )
    refine bodyPost_ret (resultsR rfl (w.heap.size + 1) _ rfl (rowB_row r1 _) agVc) rfl ?_
    exact ⟨rfl, below_rowR bX _ (by omega)⟩
  · have e : (⟨p, v, r, c, f, g⟩ : Vc).write 1 x = ⟨p % 256 + x % 16 * 256, v, r, c, f, g⟩ := rfl
    rw [e]
    clear e
    go_enter Try.func73, Try.ntmps73
    go_upto_region 1 with (fail)
    generalize (w.alloc (.cells #[.int .i64 p, .int .i64 v, .int .i64 r, .int .i64 c, .int .i64 f, .int .i64 g] 71)).alloc (.cells #[.int .i64 0, .int .i64 0, .int .i64 0, .int .i64 0, .int .i64 0, .int .i64 0] 71) = w1 at *
    obtain ⟨e0, e1, e2, e3, e4, e5, z0, z1, z2, z3, z4, z5⟩ := vcCells k0
    go_upto_region 10 with (first
        | (go_at_call 67; refine (put_any _ _ _ _ _).mono ?_; rintro e w' ⟨rfl, rfl⟩; rw [hp.2])
  )
    have r0 : rowB _ w.heap.size 71 #[.int .i64 (p % 256 + x % 16 * 256), .int .i64 v, .int .i64 r, .int .i64 c, .int .i64 f, .int .i64 g] := (rowB_set k0 0 (.int .i64 (p % 256 + x % 16 * 256)))
    have r1 := (rowB_other k1 ⟨w.heap.size, 0, none⟩ (.int .i64 (p % 256 + x % 16 * 256)) (show w.heap.size ≠ _ by omega))
    have bX := (Below.setCell bW (p := ⟨w.heap.size, 0, none⟩) (show w.heap.size ≤ w.heap.size by omega) (.int .i64 (p % 256 + x % 16 * 256)))
    clear k0 k1 bW e0 z0 e1 z1 e2 z2 e3 z3 e4 z4 e5 z5
    go_wp2_with (first
        | (refine wpList_loadR rfl 71 _ rfl w.heap.size rfl 71 #[.int .i64 (p % 256 + x % 16 * 256), .int .i64 v, .int .i64 r, .int .i64 c, .int .i64 f, .int .i64 g] ?_ agVc ?_; with_reducible exact r0)
        | (refine wpList_storeR rfl 71 _ _ rfl (w.heap.size + 1) rfl #[.int .i64 (p % 256 + x % 16 * 256), .int .i64 v, .int .i64 r, .int .i64 c, .int .i64 f, .int .i64 g] rfl (Vc.one _ _ _ _ _ _) 71 #[.int .i64 0, .int .i64 0, .int .i64 0, .int .i64 0, .int .i64 0, .int .i64 0] rfl ?_ agVc ?_; with_reducible exact r1)
  )
    refine bodyPost_ret (resultsR rfl (w.heap.size + 1) _ rfl (rowB_row r1 _) agVc) rfl ?_
    exact ⟨rfl, below_rowR bX _ (by omega)⟩
  · have e : (⟨p, v, r, c, f, g⟩ : Vc).write 2 x = ⟨p, x % 16, r, c, f, 0⟩ := rfl
    rw [e]
    clear e
    go_enter Try.func73, Try.ntmps73
    go_upto_region 1 with (fail)
    generalize (w.alloc (.cells #[.int .i64 p, .int .i64 v, .int .i64 r, .int .i64 c, .int .i64 f, .int .i64 g] 71)).alloc (.cells #[.int .i64 0, .int .i64 0, .int .i64 0, .int .i64 0, .int .i64 0, .int .i64 0] 71) = w1 at *
    obtain ⟨e0, e1, e2, e3, e4, e5, z0, z1, z2, z3, z4, z5⟩ := vcCells k0
    go_upto_region 10 with (first
        | (go_at_call 16; refine (low_any _ _ _).mono ?_; rintro e w' ⟨rfl, rfl⟩; rw [show lo x (wd 4) = x % 16 from rfl])
  )
    have r0 : rowB _ w.heap.size 71 #[.int .i64 p, .int .i64 (x % 16), .int .i64 r, .int .i64 c, .int .i64 f, .int .i64 0] := (rowB_set (rowB_set k0 1 (.int .i64 (x % 16))) 5 (.int .i64 0))
    have r1 := (rowB_other (rowB_other k1 ⟨w.heap.size, 1, none⟩ (.int .i64 (x % 16)) (show w.heap.size ≠ _ by omega)) ⟨w.heap.size, 5, none⟩ (.int .i64 0) (show w.heap.size ≠ _ by omega))
    have bX := (Below.setCell (Below.setCell bW (p := ⟨w.heap.size, 1, none⟩) (show w.heap.size ≤ w.heap.size by omega) (.int .i64 (x % 16))) (p := ⟨w.heap.size, 5, none⟩) (show w.heap.size ≤ w.heap.size by omega) (.int .i64 0))
    clear k0 k1 bW e0 z0 e1 z1 e2 z2 e3 z3 e4 z4 e5 z5
    go_wp2_with (first
        | (refine wpList_loadR rfl 71 _ rfl w.heap.size rfl 71 #[.int .i64 p, .int .i64 (x % 16), .int .i64 r, .int .i64 c, .int .i64 f, .int .i64 0] ?_ agVc ?_; with_reducible exact r0)
        | (refine wpList_storeR rfl 71 _ _ rfl (w.heap.size + 1) rfl #[.int .i64 p, .int .i64 (x % 16), .int .i64 r, .int .i64 c, .int .i64 f, .int .i64 0] rfl (Vc.one _ _ _ _ _ _) 71 #[.int .i64 0, .int .i64 0, .int .i64 0, .int .i64 0, .int .i64 0, .int .i64 0] rfl ?_ agVc ?_; with_reducible exact r1)
  )
    refine bodyPost_ret (resultsR rfl (w.heap.size + 1) _ rfl (rowB_row r1 _) agVc) rfl ?_
    exact ⟨rfl, below_rowR bX _ (by omega)⟩
  · have e : (⟨p, v, r, c, f, g⟩ : Vc).write 3 x = ⟨p, v, x % 256, c, f, g⟩ := rfl
    rw [e]
    clear e
    go_enter Try.func73, Try.ntmps73
    go_upto_region 1 with (fail)
    generalize (w.alloc (.cells #[.int .i64 p, .int .i64 v, .int .i64 r, .int .i64 c, .int .i64 f, .int .i64 g] 71)).alloc (.cells #[.int .i64 0, .int .i64 0, .int .i64 0, .int .i64 0, .int .i64 0, .int .i64 0] 71) = w1 at *
    obtain ⟨e0, e1, e2, e3, e4, e5, z0, z1, z2, z3, z4, z5⟩ := vcCells k0
    go_upto_region 10 with (first
        | (go_at_call 16; refine (low_any _ _ _).mono ?_; rintro e w' ⟨rfl, rfl⟩; rw [show lo x (wd 8) = x % 256 from rfl])
  )
    have r0 : rowB _ w.heap.size 71 #[.int .i64 p, .int .i64 v, .int .i64 (x % 256), .int .i64 c, .int .i64 f, .int .i64 g] := (rowB_set k0 2 (.int .i64 (x % 256)))
    have r1 := (rowB_other k1 ⟨w.heap.size, 2, none⟩ (.int .i64 (x % 256)) (show w.heap.size ≠ _ by omega))
    have bX := (Below.setCell bW (p := ⟨w.heap.size, 2, none⟩) (show w.heap.size ≤ w.heap.size by omega) (.int .i64 (x % 256)))
    clear k0 k1 bW e0 z0 e1 z1 e2 z2 e3 z3 e4 z4 e5 z5
    go_wp2_with (first
        | (refine wpList_loadR rfl 71 _ rfl w.heap.size rfl 71 #[.int .i64 p, .int .i64 v, .int .i64 (x % 256), .int .i64 c, .int .i64 f, .int .i64 g] ?_ agVc ?_; with_reducible exact r0)
        | (refine wpList_storeR rfl 71 _ _ rfl (w.heap.size + 1) rfl #[.int .i64 p, .int .i64 v, .int .i64 (x % 256), .int .i64 c, .int .i64 f, .int .i64 g] rfl (Vc.one _ _ _ _ _ _) 71 #[.int .i64 0, .int .i64 0, .int .i64 0, .int .i64 0, .int .i64 0, .int .i64 0] rfl ?_ agVc ?_; with_reducible exact r1)
  )
    refine bodyPost_ret (resultsR rfl (w.heap.size + 1) _ rfl (rowB_row r1 _) agVc) rfl ?_
    exact ⟨rfl, below_rowR bX _ (by omega)⟩
end Go.Proofs.Ytakaebjojgeehaa
