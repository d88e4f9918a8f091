/- A part of the proof of ChipTicks: SndC. -/
import Derived.Test.YtakaebjojgeehaaGreatChipTicksK01
import Derived.Test.YtakaebjojgeehaaGreatChipTicksK02
import Derived.Test.YtakaebjojgeehaaGreatChipTicksK03
import Derived.Test.YtakaebjojgeehaaGreatChipTicksK04
import Derived.Test.YtakaebjojgeehaaGreatChipTicksK05
import Derived.Test.YtakaebjojgeehaaGreatChipTicksK08
import Derived.Test.YtakaebjojgeehaaGreatChipTicksK13
import Derived.Below
import Derived.BigQuiet
import Derived.ChangeMaps5
import Derived.Deep.AppendSrc
import Derived.Deep.DeepCutAuto
import Derived.Deep.Draws
import Derived.Deep.MidRow
import Derived.Deep.OwnRows
import Derived.Deep.QuietTactic
import Derived.Deep.RegionHeld3
import Derived.Deep.RegionWith
import Derived.Deep.Slices
import Derived.Deep.WholeRow
import Derived.Lib.Hide
import Derived.Lib.SmallJoins
import Derived.OpenShut
import Derived.OrdersHeld
import Derived.OwnWalk
import Derived.RowKit3
import Derived.StillTactics
import Derived.StillTail
import Derived.StillTailTactics
import Derived.Test.YtakaebjojgeehaaGreatChecked
import Derived.WalkKit
namespace Go.Proofs.YtakaebjojgeehaaGreat
open Go.RowKit
set_option maxRecDepth 100000
/-- The cells of a voice, and of two. -/
def Vc.cs (s : Vc) : Array Value := #[.int .i64 s.p, .int .i64 s.v, .int .i64 s.r, .int .i64 s.c, .int .i64 s.f, .int .i64 s.g]
def Sn.cs (s : Sn) : Array Value := #[.int .i64 s.a.p, .int .i64 s.a.v, .int .i64 s.a.r, .int .i64 s.a.c, .int .i64 s.a.f, .int .i64 s.a.g, .int .i64 s.b.p, .int .i64 s.b.v, .int .i64 s.b.r, .int .i64 s.b.c, .int .i64 s.b.f, .int .i64 s.b.g]
theorem agVc : isAg Tryz.prog 95 6 := ⟨⟨_, Tryz.underlying95, rfl⟩, by kernel_rfl⟩
theorem agSn : isAg Tryz.prog 97 12 := ⟨⟨_, Tryz.underlying97, rfl⟩, by kernel_rfl⟩
theorem Vc.one (p v r c f g : Int) : (#[.int .i64 p, .int .i64 v, .int .i64 r, .int .i64 c, .int .i64 f, .int .i64 g] : Array Value).all (·.oneCell') = true := by simp [Value.oneCell']
theorem vcCells {w : World} {y : Nat} {ty : TypeId} {p v r c f g : Value} (h : rowB w y ty #[p, v, r, c, f, g]) : w.cell? ⟨y, 0, none⟩ = some p ∧ w.cell? ⟨y, 1, none⟩ = some v ∧ w.cell? ⟨y, 2, none⟩ = some r ∧ w.cell? ⟨y, 3, none⟩ = some c ∧ w.cell? ⟨y, 4, none⟩ = some f ∧ w.cell? ⟨y, 5, none⟩ = some g ∧ w.frozen? ⟨y, 0, none⟩ = false ∧ w.frozen? ⟨y, 1, none⟩ = false ∧ w.frozen? ⟨y, 2, none⟩ = false ∧ w.frozen? ⟨y, 3, none⟩ = false ∧ w.frozen? ⟨y, 4, none⟩ = false ∧ w.frozen? ⟨y, 5, none⟩ = false :=
  ⟨rowB_cell h 0 rfl, rowB_cell h 1 rfl, rowB_cell h 2 rfl, rowB_cell h 3 rfl, rowB_cell h 4 rfl, rowB_cell h 5 rfl, rowB_free h 0, rowB_free h 1, rowB_free h 2, rowB_free h 3, rowB_free h 4, rowB_free h 5⟩
theorem vcSwings_any (s : Vc) (w : World) :
    Calls Tryz.prog 101 #[.agg s.cs] w fun e w' => e = .returned (.bool (decide (0 < s.p))) ∧ Below w.heap.size w w' := by
  have b0 := (boxes1 w (.cells s.cs 95)).2.1
  obtain ⟨p, v, r, c, f, g⟩ := s
  dsimp only [Vc.cs] at *
  go_enter Tryz.func101, Tryz.ntmps101
  go_wp2_with fail
  go_ret
  exact ⟨rfl, b0⟩
theorem vcFades_any (s : Vc) (w : World) :
    Calls Tryz.prog 103 #[.agg s.cs] w fun e w' => e = .returned (.bool (decide (0 < s.r ∧ 0 < s.v))) ∧ Below w.heap.size w w' := by
  have b0 := (boxes1 w (.cells s.cs 95)).2.1
  obtain ⟨p, v, r, c, f, g⟩ := s
  dsimp only [Vc.cs] at *
  by_cases h : 0 < r
  · have hd : decide (0 < r) = true := decide_eq_true h
    have e : decide (0 < r ∧ 0 < v) = decide (0 < v) := by by_cases h2 : 0 < v <;> simp [h, h2]
    rw [e]
    go_enter Tryz.func103, Tryz.ntmps103
    go_wp2_with fail
    go_ret
    exact ⟨rfl, b0⟩
  · have hd : decide (0 < r) = false := decide_eq_false h
    have e : decide (0 < r ∧ 0 < v) = false := decide_eq_false (fun q => h q.1)
    rw [e]
    go_enter Tryz.func103, Tryz.ntmps103
    go_wp2_with fail
    go_ret
    exact ⟨rfl, b0⟩
theorem vcSpan_any (s : Vc) (hr : 0 ≤ s.r ∧ s.r < 256) (w : World) :
    Calls Tryz.prog 104 #[.agg s.cs] w fun e w' => e = .returned (.int .i64 (64 * s.r)) ∧ Below w.heap.size w w' := by
  have b0 := (boxes1 w (.cells s.cs 95)).2.1
  obtain ⟨p, v, r, c, f, g⟩ := s
  dsimp only [Vc.cs] at *
  have w1 : wrap64 (64 * r) = 64 * r := IntWalk.wrap64_in _ (by omega)
  go_enter Tryz.func104, Tryz.ntmps104
  go_wp2_with fail
  go_ret
  exact ⟨rfl, b0⟩
theorem sndLeft_any (c p : Int) (hc : 0 ≤ c ∧ c < 16384) (hp : 0 ≤ p ∧ p < 32768) (w : World) :
    Calls Tryz.prog 102 #[.int .i64 c, .int .i64 p] w fun e w' => e = .returned (.int .i64 (max 1 (p - c))) ∧ w = w' := by
  have w1 : wrap64 (p - c) = p - c := IntWalk.wrap64_in _ (by omega)
  go_enter Tryz.func102, Tryz.ntmps102
  go_wp2_with fail
  all_goals (go_ret; refine ⟨ret_int ?_, rfl⟩; omega)
theorem cy_left (c p : Int) : (if c + 1 < p then p - c else 1) = max 1 (p - c) := by split <;> omega
theorem cyN_le (p c n : Int) (hn : 0 ≤ n) : cyN p c n ≤ n + 1 := by
  unfold cyN
  obtain ⟨t, ht⟩ : ∃ t, (if c + 1 < p then p - c else 1) = t := ⟨_, rfl⟩
  have ht1 : 1 ≤ t := by rw [← ht]; split <;> omega
  rw [ht]
  split
  · omega
  · have := Int.ediv_le_self p (show 0 ≤ n - t by omega)
    omega
theorem sndPass_any (c p n : Int) (hc : 0 ≤ c ∧ c < 16384) (hp : 0 < p ∧ p < 32768) (hn : 0 < n ∧ n ≤ 10000000) (w : World) :
    Calls Tryz.prog 131 #[.int .i64 c, .int .i64 p, .int .i64 n] w fun e w' => e = .returned (.tuple #[.int .i64 (cyC p c n), .int .i64 (cyN p c n)]) ∧ Below w.heap.size w w' := by
  have hL := sndLeft_any c p hc ⟨by omega, hp.2⟩ w
  unfold cyC cyN
  rw [cy_left]
  have ht1 : 1 ≤ max 1 (p - c) ∧ max 1 (p - c) < 32768 := by omega
  generalize max 1 (p - c) = t at *
  by_cases h : n < t
  · rw [if_pos h, if_pos h]
    have hd : decide (n < t) = true := decide_eq_true h
    have w1 : wrap64 (c + n) = c + n := IntWalk.wrap64_in _ (by omega)
    go_enter Tryz.func131, Tryz.ntmps131
    go_wp2_with (go_at_call 102; refine hL.mono ?_; rintro e w' ⟨rfl, rfl⟩)
    go_ret2
    exact ⟨rfl, Below.refl _ _⟩
  · rw [if_neg h, if_neg h]
    have hd : decide (n < t) = false := decide_eq_false h
    obtain ⟨m, hm⟩ : ∃ m, n - t = m := ⟨_, rfl⟩
    have w1 : wrap64 (n - t) = m := (IntWalk.wrap64_in _ (by omega)).trans hm
    rw [hm]
    have hm0 : 0 ≤ m ∧ m ≤ 10000000 := by omega
    have t1 : m.tdiv p = m / p := Int.tdiv_eq_ediv_of_nonneg hm0.1
    have t2 : m.tmod p = m % p := Int.tmod_eq_emod_of_nonneg hm0.1
    have hq := Int.ediv_le_self p hm0.1
    have hq0 := Int.ediv_nonneg hm0.1 (show 0 ≤ p by omega)
    have hp0 : p ≠ 0 := by omega
    obtain ⟨E, hE⟩ : ∃ E, m / p = E := ⟨_, rfl⟩
    obtain ⟨R, hR⟩ : ∃ R, m % p = R := ⟨_, rfl⟩
    rw [hE] at t1 hq hq0
    rw [hR] at t2
    rw [hE, hR]
    have w2 : wrap64 E = E := IntWalk.wrap64_in _ (by omega)
    have w3 : wrap64 (1 + E) = 1 + E := IntWalk.wrap64_in _ (by omega)
    go_enter Tryz.func131, Tryz.ntmps131
    go_upto_region 5 with (go_at_call 102; refine hL.mono ?_; rintro e w' ⟨rfl, rfl⟩)
    go_quiet (fail)
    go_wp2_with fail
    go_ret2
    exact ⟨rfl, below_drewN w nq _⟩
theorem get_lo (p : Int) (hp : 0 ≤ p ∧ p < 4096) : lo (p / 2 ^ wd 0) (fz 0 8) = p % 256 ∧ lo (p / 2 ^ wd 8) (fz 8 4) = p / 256 := by
  have e1 : wd 0 = 0 := rfl
  have e2 : fz 0 8 = 8 := rfl
  have e3 : wd 8 = 8 := rfl
  have e4 : fz 8 4 = 4 := rfl
  rw [e1, e2, e3, e4]
  unfold lo
  rw [show (2 : Int) ^ 0 = 1 by decide, show (2 : Int) ^ 8 = 256 by decide, show (2 : Int) ^ 4 = 16 by decide]
  omega
theorem put_lo (p x : Int) (hp : 0 ≤ p ∧ p < 4096) : putN p (wd 0) (fz 0 8) x = p / 256 * 256 + x % 256 ∧ putN p (wd 8) (fz 8 4) x = p % 256 + x % 16 * 256 := by
  have e1 : wd 0 = 0 := rfl
  have e2 : fz 0 8 = 8 := rfl
  have e3 : wd 8 = 8 := rfl
  have e4 : fz 8 4 = 4 := rfl
  rw [e1, e2, e3, e4]
  unfold putN lo
  simp only [show (2 : Int) ^ 62 = 4611686018427387904 by decide, show (2 : Int) ^ (0 + 8) = 256 by decide, show (2 : Int) ^ (8 + 4) = 4096 by decide, show (2 : Int) ^ 0 = 1 by decide, show (2 : Int) ^ 4 = 16 by decide]
  omega
theorem Vc.skip_none {s : Vc} (n : Int) (h1 : ¬ 0 < s.p) (h2 : ¬ (0 < s.r ∧ 0 < s.v)) : s.skip n = s := by
  unfold Vc.skip Vc.skipW Vc.skipF
  rw [if_neg h1, if_neg h2]
theorem vcRead_any (s : Vc) (hs : s.fit) (k : Int) (hk : 0 ≤ k ∧ k < 4) (w : World) :
    Calls Tryz.prog 117 #[.agg s.cs, .int .i64 k] w fun e w' => e = .returned (.int .i64 (s.reg k)) ∧ Below w.heap.size w w' := by
  have b0 := (boxes1 w (.cells s.cs 95)).2.1
  have hg := get_lo s.p hs.p
  obtain ⟨p, v, r, c, f, g⟩ := s
  dsimp only [Vc.cs] at *
  clear hs
  rcases (by omega : k = 0 ∨ k = 1 ∨ k = 2 ∨ k = 3) with rfl | rfl | rfl | rfl
  · rw [show (⟨p, v, r, c, f, g⟩ : Vc).reg 0 = p % 256 from rfl]
    go_enter Tryz.func117, Tryz.ntmps117
    go_wp2_with (go_at_call 112; refine (get_any _ _ _ _).mono ?_; rintro e w' ⟨rfl, rfl⟩; rw [hg.1])
    go_ret
    exact ⟨rfl, b0⟩
  · rw [show (⟨p, v, r, c, f, g⟩ : Vc).reg 1 = p / 256 from rfl]
    go_enter Tryz.func117, Tryz.ntmps117
    go_wp2_with (go_at_call 112; refine (get_any _ _ _ _).mono ?_; rintro e w' ⟨rfl, rfl⟩; rw [hg.2])
    go_ret
    exact ⟨rfl, b0⟩
  · rw [show (⟨p, v, r, c, f, g⟩ : Vc).reg 2 = v from rfl]
    go_enter Tryz.func117, Tryz.ntmps117
    go_wp2_with fail
    go_ret
    exact ⟨rfl, b0⟩
  · rw [show (⟨p, v, r, c, f, g⟩ : Vc).reg 3 = r from rfl]
    go_enter Tryz.func117, Tryz.ntmps117
    go_wp2_with fail
    go_ret
    exact ⟨rfl, b0⟩
set_option maxHeartbeats 1000000 in
theorem vcWrite_any (s : Vc) (hs : s.fit) (k x : Int) (hk : 0 ≤ k ∧ k < 4) (w : World) :
    Calls Tryz.prog 120 #[.agg s.cs, .int .i64 k, .int .i64 x] w fun e w' => e = .returned (.agg (s.write k x).cs) ∧ Below w.heap.size w w' := by
  obtain ⟨k0, k1, bW, sW⟩ := boxes2 w (.cells s.cs 95) (.cells #[.int .i64 0, .int .i64 0, .int .i64 0, .int .i64 0, .int .i64 0, .int .i64 0] 95)
  have k0 : rowB _ _ _ _ := k0
  have k1 : rowB _ _ _ _ := k1
  have hp := put_lo s.p x hs.p
  obtain ⟨p, v, r, c, f, g⟩ := s
  dsimp only [Vc.cs] at *
  clear hs
  rcases (by omega : k = 0 ∨ k = 1 ∨ k = 2 ∨ k = 3) with rfl | rfl | rfl | rfl
  · have e : (⟨p, v, r, c, f, g⟩ : Vc).write 0 x = ⟨p / 256 * 256 + x % 256, v, r, c, f, g⟩ := rfl
    rw [e]
    clear e
    go_enter Tryz.func120, Tryz.ntmps120
    go_upto_region 1 with (fail)
    generalize (w.alloc (.cells #[.int .i64 p, .int .i64 v, .int .i64 r, .int .i64 c, .int .i64 f, .int .i64 g] 95)).alloc (.cells #[.int .i64 0, .int .i64 0, .int .i64 0, .int .i64 0, .int .i64 0, .int .i64 0] 95) = w1 at *
    obtain ⟨e0, e1, e2, e3, e4, e5, z0, z1, z2, z3, z4, z5⟩ := vcCells k0
    go_upto_region 10 with (first
        | (go_at_call 119; refine (put_any _ _ _ _ _).mono ?_; rintro e w' ⟨rfl, rfl⟩; rw [hp.1])
  )
    have r0 : rowB _ w.heap.size 95 #[.int .i64 (p / 256 * 256 + x % 256), .int .i64 v, .int .i64 r, .int .i64 c, .int .i64 f, .int .i64 g] := (rowB_set k0 0 (.int .i64 (p / 256 * 256 + x % 256)))
    have r1 := (rowB_other k1 ⟨w.heap.size, 0, none⟩ (.int .i64 (p / 256 * 256 + x % 256)) (show w.heap.size ≠ _ by omega))
    have bX := (Below.setCell bW (p := ⟨w.heap.size, 0, none⟩) (show w.heap.size ≤ w.heap.size by omega) (.int .i64 (p / 256 * 256 + x % 256)))
    clear k0 k1 bW e0 z0 e1 z1 e2 z2 e3 z3 e4 z4 e5 z5
    go_wp2_with (first
        | (refine wpList_loadR rfl 95 _ rfl w.heap.size rfl 95 #[.int .i64 (p / 256 * 256 + x % 256), .int .i64 v, .int .i64 r, .int .i64 c, .int .i64 f, .int .i64 g] ?_ agVc ?_; with_reducible exact r0)
        | (refine wpList_storeR rfl 95 _ _ rfl (w.heap.size + 1) rfl #[.int .i64 (p / 256 * 256 + x % 256), .int .i64 v, .int .i64 r, .int .i64 c, .int .i64 f, .int .i64 g] rfl (Vc.one _ _ _ _ _ _) 95 #[.int .i64 0, .int .i64 0, .int .i64 0, .int .i64 0, .int .i64 0, .int .i64 0] rfl ?_ agVc ?_; with_reducible exact r1)
  )
    refine bodyPost_ret (resultsR rfl (w.heap.size + 1) _ rfl (rowB_row r1 _) agVc) rfl ?_
    exact ⟨rfl, below_rowR bX _ (by omega)⟩
  · have e : (⟨p, v, r, c, f, g⟩ : Vc).write 1 x = ⟨p % 256 + x % 16 * 256, v, r, c, f, g⟩ := rfl
    rw [e]
    clear e
    go_enter Tryz.func120, Tryz.ntmps120
    go_upto_region 1 with (fail)
    generalize (w.alloc (.cells #[.int .i64 p, .int .i64 v, .int .i64 r, .int .i64 c, .int .i64 f, .int .i64 g] 95)).alloc (.cells #[.int .i64 0, .int .i64 0, .int .i64 0, .int .i64 0, .int .i64 0, .int .i64 0] 95) = w1 at *
    obtain ⟨e0, e1, e2, e3, e4, e5, z0, z1, z2, z3, z4, z5⟩ := vcCells k0
    go_upto_region 10 with (first
        | (go_at_call 119; refine (put_any _ _ _ _ _).mono ?_; rintro e w' ⟨rfl, rfl⟩; rw [hp.2])
  )
    have r0 : rowB _ w.heap.size 95 #[.int .i64 (p % 256 + x % 16 * 256), .int .i64 v, .int .i64 r, .int .i64 c, .int .i64 f, .int .i64 g] := (rowB_set k0 0 (.int .i64 (p % 256 + x % 16 * 256)))
    have r1 := (rowB_other k1 ⟨w.heap.size, 0, none⟩ (.int .i64 (p % 256 + x % 16 * 256)) (show w.heap.size ≠ _ by omega))
    have bX := (Below.setCell bW (p := ⟨w.heap.size, 0, none⟩) (show w.heap.size ≤ w.heap.size by omega) (.int .i64 (p % 256 + x % 16 * 256)))
    clear k0 k1 bW e0 z0 e1 z1 e2 z2 e3 z3 e4 z4 e5 z5
    go_wp2_with (first
        | (refine wpList_loadR rfl 95 _ rfl w.heap.size rfl 95 #[.int .i64 (p % 256 + x % 16 * 256), .int .i64 v, .int .i64 r, .int .i64 c, .int .i64 f, .int .i64 g] ?_ agVc ?_; with_reducible exact r0)
        | (refine wpList_storeR rfl 95 _ _ rfl (w.heap.size + 1) rfl #[.int .i64 (p % 256 + x % 16 * 256), .int .i64 v, .int .i64 r, .int .i64 c, .int .i64 f, .int .i64 g] rfl (Vc.one _ _ _ _ _ _) 95 #[.int .i64 0, .int .i64 0, .int .i64 0, .int .i64 0, .int .i64 0, .int .i64 0] rfl ?_ agVc ?_; with_reducible exact r1)
  )
    refine bodyPost_ret (resultsR rfl (w.heap.size + 1) _ rfl (rowB_row r1 _) agVc) rfl ?_
    exact ⟨rfl, below_rowR bX _ (by omega)⟩
  · have e : (⟨p, v, r, c, f, g⟩ : Vc).write 2 x = ⟨p, x % 16, r, c, f, 0⟩ := rfl
    rw [e]
    clear e
    go_enter Tryz.func120, Tryz.ntmps120
    go_upto_region 1 with (fail)
    generalize (w.alloc (.cells #[.int .i64 p, .int .i64 v, .int .i64 r, .int .i64 c, .int .i64 f, .int .i64 g] 95)).alloc (.cells #[.int .i64 0, .int .i64 0, .int .i64 0, .int .i64 0, .int .i64 0, .int .i64 0] 95) = w1 at *
    obtain ⟨e0, e1, e2, e3, e4, e5, z0, z1, z2, z3, z4, z5⟩ := vcCells k0
    go_upto_region 10 with (first
        | (go_at_call 83; refine (low_any _ _ _).mono ?_; rintro e w' ⟨rfl, rfl⟩; rw [show lo x (wd 4) = x % 16 from rfl])
  )
    have r0 : rowB _ w.heap.size 95 #[.int .i64 p, .int .i64 (x % 16), .int .i64 r, .int .i64 c, .int .i64 f, .int .i64 0] := (rowB_set (rowB_set k0 1 (.int .i64 (x % 16))) 5 (.int .i64 0))
    have r1 := (rowB_other (rowB_other k1 ⟨w.heap.size, 1, none⟩ (.int .i64 (x % 16)) (show w.heap.size ≠ _ by omega)) ⟨w.heap.size, 5, none⟩ (.int .i64 0) (show w.heap.size ≠ _ by omega))
    have bX := (Below.setCell (Below.setCell bW (p := ⟨w.heap.size, 1, none⟩) (show w.heap.size ≤ w.heap.size by omega) (.int .i64 (x % 16))) (p := ⟨w.heap.size, 5, none⟩) (show w.heap.size ≤ w.heap.size by omega) (.int .i64 0))
    clear k0 k1 bW e0 z0 e1 z1 e2 z2 e3 z3 e4 z4 e5 z5
    go_wp2_with (first
        | (refine wpList_loadR rfl 95 _ rfl w.heap.size rfl 95 #[.int .i64 p, .int .i64 (x % 16), .int .i64 r, .int .i64 c, .int .i64 f, .int .i64 0] ?_ agVc ?_; with_reducible exact r0)
        | (refine wpList_storeR rfl 95 _ _ rfl (w.heap.size + 1) rfl #[.int .i64 p, .int .i64 (x % 16), .int .i64 r, .int .i64 c, .int .i64 f, .int .i64 0] rfl (Vc.one _ _ _ _ _ _) 95 #[.int .i64 0, .int .i64 0, .int .i64 0, .int .i64 0, .int .i64 0, .int .i64 0] rfl ?_ agVc ?_; with_reducible exact r1)
  )
    refine bodyPost_ret (resultsR rfl (w.heap.size + 1) _ rfl (rowB_row r1 _) agVc) rfl ?_
    exact ⟨rfl, below_rowR bX _ (by omega)⟩
  · have e : (⟨p, v, r, c, f, g⟩ : Vc).write 3 x = ⟨p, v, x % 256, c, f, g⟩ := rfl
    rw [e]
    clear e
    go_enter Tryz.func120, Tryz.ntmps120
    go_upto_region 1 with (fail)
    generalize (w.alloc (.cells #[.int .i64 p, .int .i64 v, .int .i64 r, .int .i64 c, .int .i64 f, .int .i64 g] 95)).alloc (.cells #[.int .i64 0, .int .i64 0, .int .i64 0, .int .i64 0, .int .i64 0, .int .i64 0] 95) = w1 at *
    obtain ⟨e0, e1, e2, e3, e4, e5, z0, z1, z2, z3, z4, z5⟩ := vcCells k0
    go_upto_region 10 with (first
        | (go_at_call 83; refine (low_any _ _ _).mono ?_; rintro e w' ⟨rfl, rfl⟩; rw [show lo x (wd 8) = x % 256 from rfl])
  )
    have r0 : rowB _ w.heap.size 95 #[.int .i64 p, .int .i64 v, .int .i64 (x % 256), .int .i64 c, .int .i64 f, .int .i64 g] := (rowB_set k0 2 (.int .i64 (x % 256)))
    have r1 := (rowB_other k1 ⟨w.heap.size, 2, none⟩ (.int .i64 (x % 256)) (show w.heap.size ≠ _ by omega))
    have bX := (Below.setCell bW (p := ⟨w.heap.size, 2, none⟩) (show w.heap.size ≤ w.heap.size by omega) (.int .i64 (x % 256)))
    clear k0 k1 bW e0 z0 e1 z1 e2 z2 e3 z3 e4 z4 e5 z5
    go_wp2_with (first
        | (refine wpList_loadR rfl 95 _ rfl w.heap.size rfl 95 #[.int .i64 p, .int .i64 v, .int .i64 (x % 256), .int .i64 c, .int .i64 f, .int .i64 g] ?_ agVc ?_; with_reducible exact r0)
        | (refine wpList_storeR rfl 95 _ _ rfl (w.heap.size + 1) rfl #[.int .i64 p, .int .i64 v, .int .i64 (x % 256), .int .i64 c, .int .i64 f, .int .i64 g] rfl (Vc.one _ _ _ _ _ _) 95 #[.int .i64 0, .int .i64 0, .int .i64 0, .int .i64 0, .int .i64 0, .int .i64 0] rfl ?_ agVc ?_; with_reducible exact r1)
  )
    refine bodyPost_ret (resultsR rfl (w.heap.size + 1) _ rfl (rowB_row r1 _) agVc) rfl ?_
    exact ⟨rfl, below_rowR bX _ (by omega)⟩
set_option maxHeartbeats 2000000 in
theorem vcAfter_any (s : Vc) (hs : s.fit) (n : Int) (hn : 0 < n ∧ n ≤ 10000000) (w : World) :
    Calls Tryz.prog 90 #[.agg s.cs, .int .i64 n] w fun e w' => e = .returned (.agg (s.skip n).cs) ∧ Below w.heap.size w w' := by
  obtain ⟨k0, k1, bW, sW⟩ := boxes2 w (.cells s.cs 95) (.cells #[.int .i64 0, .int .i64 0, .int .i64 0, .int .i64 0, .int .i64 0, .int .i64 0] 95)
  have k0 : rowB _ _ _ _ := k0
  have k1 : rowB _ _ _ _ := k1
  have hcp := hs.p
  have hcv := hs.v
  have hcr := hs.r
  have hcc := hs.c
  have hcf := hs.f
  have hcg := hs.g
  obtain ⟨p, v, r, c, f, g⟩ := s
  dsimp only [Vc.cs] at *
  have hSw := fun w => vcSwings_any ⟨p, v, r, c, f, g⟩ w
  dsimp only [Vc.cs] at hSw
  clear hs
  obtain ⟨C, hC⟩ : ∃ C, cyC p c n = C := ⟨_, rfl⟩
  obtain ⟨E, hE⟩ : ∃ E, cyN p c n = E := ⟨_, rfl⟩
  obtain ⟨G, hG⟩ : ∃ G, cyC (64 * r) g n = G := ⟨_, rfl⟩
  obtain ⟨D, hD⟩ : ∃ D, cyN (64 * r) g n = D := ⟨_, rfl⟩
  by_cases h1 : 0 < p
  · have hdp : decide (0 < p) = true := decide_eq_true h1
    simp only [hdp] at hSw
    have hE0 := cyN_bd p c n h1
    have hE1 := cyN_le p c n (by omega)
    rw [hE] at hE0 hE1
    have wE : wrap64 (f + E) = f + E := IntWalk.wrap64_in _ (by omega)
    have hLo : lo (f + E) (wd 1) = (f + E) % 2 := rfl
    by_cases h2 : 0 < r ∧ 0 < v
    · have hD0 := cyN_bd (64 * r) g n (by omega)
      rw [hD] at hD0
      by_cases h3 : D < v
      · have eT : (⟨p, v, r, c, f, g⟩ : Vc).skip n = ⟨p, v - D, r, C, (f + E) % 2, G⟩ := by
          unfold Vc.skip Vc.skipW
          rw [if_pos h1]
          unfold Vc.skipF
          dsimp only
          rw [if_pos h2, hD, if_pos h3]
          rw [hC, hE, hG]
        rw [eT]
        clear eT
        dsimp only
        go_enter Tryz.func90, Tryz.ntmps90
        go_upto_region 1 with (fail)
        generalize (w.alloc (.cells #[.int .i64 p, .int .i64 v, .int .i64 r, .int .i64 c, .int .i64 f, .int .i64 g] 95)).alloc (.cells #[.int .i64 0, .int .i64 0, .int .i64 0, .int .i64 0, .int .i64 0, .int .i64 0] 95) = w1 at *
        go_upto_region 2 with (first
            | (refine wpList_loadR rfl 95 _ rfl w.heap.size rfl 95 #[.int .i64 p, .int .i64 v, .int .i64 r, .int .i64 c, .int .i64 f, .int .i64 g] ?_ agVc ?_; with_reducible exact k0)
            | (go_at_call 101; refine (hSw _).mono ?_; rintro e w2 ⟨rfl, hb⟩; replace k0 := rowB_below k0 hb (rowB_lt k0); replace k1 := rowB_below k1 hb (rowB_lt k1); replace bW := bW.trans (hb.mono bW.size); clear hb; obtain ⟨e0, e1, e2, e3, e4, e5, z0, z1, z2, z3, z4, z5⟩ := vcCells k0)
      )
        go_upto_region 3 with (first
            | (go_at_call 131; refine (sndPass_any c p n (by omega) (by omega) hn _).mono ?_; rintro e w3 ⟨rfl, hb⟩; replace k0 := rowB_below k0 hb (rowB_lt k0); replace k1 := rowB_below k1 hb (rowB_lt k1); replace bW := bW.trans (hb.mono bW.size); clear hb; rw [hC, hE])
      )
        clear e0 z0 e1 z1 e2 z2 e3 z3 e4 z4 e5 z5
        obtain ⟨e0, e1, e2, e3, e4, e5, z0, z1, z2, z3, z4, z5⟩ := vcCells k0
        go_upto_region 4 with (first
            | (go_at_call 83; refine (low_any _ _ _).mono ?_; rintro e w' ⟨rfl, rfl⟩; rw [hLo])
      )
        clear e0 z0 e1 z1 e2 z2 e3 z3 e4 z4 e5 z5
        replace k0 : rowB _ w.heap.size 95 #[.int .i64 p, .int .i64 v, .int .i64 r, .int .i64 C, .int .i64 ((f + E) % 2), .int .i64 g] := (rowB_set (rowB_set k0 3 (.int .i64 C)) 4 (.int .i64 ((f + E) % 2)))
        replace k1 := (rowB_other (rowB_other k1 ⟨w.heap.size, 3, none⟩ (.int .i64 C) (show w.heap.size ≠ _ by omega)) ⟨w.heap.size, 4, none⟩ (.int .i64 ((f + E) % 2)) (show w.heap.size ≠ _ by omega))
        replace bW := (Below.setCell (Below.setCell bW (p := ⟨w.heap.size, 3, none⟩) (show w.heap.size ≤ w.heap.size by omega) (.int .i64 C)) (p := ⟨w.heap.size, 4, none⟩) (show w.heap.size ≤ w.heap.size by omega) (.int .i64 ((f + E) % 2)))
        change Code.wp _ _ _ _ ((w3.setCell ⟨w.heap.size, 3, none⟩ (.int .i64 C)).setCell ⟨w.heap.size, 4, none⟩ (.int .i64 ((f + E) % 2)))
        generalize ((w3.setCell ⟨w.heap.size, 3, none⟩ (.int .i64 C)).setCell ⟨w.heap.size, 4, none⟩ (.int .i64 ((f + E) % 2))) = w7 at *
        have hFa := fun w => vcFades_any ⟨p, v, r, C, (f + E) % 2, g⟩ w
        dsimp only [Vc.cs] at hFa
        rw [decide_eq_true h2] at hFa
        go_upto_region 5 with (first
            | (refine wpList_loadR rfl 95 _ rfl w.heap.size rfl 95 #[.int .i64 p, .int .i64 v, .int .i64 r, .int .i64 C, .int .i64 ((f + E) % 2), .int .i64 g] ?_ agVc ?_; with_reducible exact k0)
            | (go_at_call 103; refine (hFa _).mono ?_; rintro e w8 ⟨rfl, hb⟩; replace k0 := rowB_below k0 hb (rowB_lt k0); replace k1 := rowB_below k1 hb (rowB_lt k1); replace bW := bW.trans (hb.mono bW.size); clear hb)
      )
        have hS : Below w8.heap.size w8 w8.drew := (Below.refl _ _).drew
        refine wp_region_mix (fun w' => Below w8.heap.size w8 w') [(0, 1), (1, 1), (2, 1), (4, 1), (3, 3), (5, 2), (6, 0), (7, 0), (8, 0), (9, 0), (10, 0)] (by kernel_rfl) (by kernel_rfl) (fun _ _ _ _ _ h => h) ?_
        simp only [List.map_cons, List.map_nil, opOf, List.getD_cons_zero, List.getD_cons_succ]
        change wpMix _ _ _ _ _ _ w8.drew
        refine wpMix_held (.pointer (some ⟨w.heap.size, 5, none⟩)) rfl hS (fun w' hw' => by go_simp) ?_
        simp only [Act.put, List.setIfInBounds_toArray, List.set_cons_zero, List.set_cons_succ]
        refine wpMix_held (.int .i64 g) rfl hS (fun w' hw' => by have c5 := rowB_cell (rowB_below k0 hw' (rowB_lt k0)) 5 (v := .int .i64 g) rfl; go_simp) ?_
        simp only [Act.put, List.setIfInBounds_toArray, List.set_cons_zero, List.set_cons_succ]
        refine wpMix_held ((.agg #[.int .i64 p, .int .i64 v, .int .i64 r, .int .i64 C, .int .i64 ((f + E) % 2), .int .i64 g])) rfl hS (fun w' hw' => exec_rowR 95 _ rfl w.heap.size rfl 95 #[.int .i64 p, .int .i64 v, .int .i64 r, .int .i64 C, .int .i64 ((f + E) % 2), .int .i64 g] (rowB_below k0 hw' (rowB_lt k0)) agVc) ?_
        simp only [Act.put, List.setIfInBounds_toArray, List.set_cons_zero, List.set_cons_succ]
        refine wpMix_held (.int .i64 n) rfl hS (fun w' hw' => by go_simp) ?_
        simp only [Act.put, List.setIfInBounds_toArray, List.set_cons_zero, List.set_cons_succ]
        refine wpMix_call ?_
        go_wp2_with (go_at_call 104; refine (vcSpan_any ⟨p, v, r, C, (f + E) % 2, g⟩ hcr _).mono ?_; rintro e w9 ⟨rfl, hb⟩; replace hS := hS.trans (hb.mono hS.size); clear hb)
        first | refine ⟨fun _ => hS, ?_⟩ | refine ⟨hS, ?_⟩ | refine And.intro (fun _ => hS) ?_
        refine wpMix_call ?_
        go_wp2_with (go_at_call 131; refine (sndPass_any g (64 * r) n hcg (by omega) hn _).mono ?_; rintro e wa ⟨rfl, hb⟩; rw [hG, hD]; replace hS := hS.trans (hb.mono hS.size); clear hb)
        try refine ⟨fun h => (by cases h), ?_⟩
        (refine wpMix_still (fun K hK => ?_); go_simp; refine hK _ ?_; clear hK K)
        (refine wpMix_still (fun K hK => ?_); go_simp; refine hK _ ?_; clear hK K)
        (refine wpMix_still (fun K hK => ?_); go_simp; refine hK _ ?_; clear hK K)
        (refine wpMix_still (fun K hK => ?_); go_simp; refine hK _ ?_; clear hK K)
        (refine wpMix_still (fun K hK => ?_); go_simp; refine hK _ ?_; clear hK K)
        refine wpMix_nil ?_
        replace k0 := rowB_below k0 hS (rowB_lt k0)
        replace k1 := rowB_below k1 hS (rowB_lt k1)
        replace bW := bW.trans (hS.mono bW.size)
        clear hS
        obtain ⟨e0, e1, e2, e3, e4, e5, z0, z1, z2, z3, z4, z5⟩ := vcCells k0
        have hd3 : decide (v ≤ D) = false := decide_eq_false (by omega)
        have wz : wrap64 (v - D) = v - D := IntWalk.wrap64_in _ (by omega)
        go_upto_region 9 with (fail)
        clear e0 z0 e1 z1 e2 z2 e3 z3 e4 z4 e5 z5
        replace k0 : rowB _ w.heap.size 95 #[.int .i64 p, .int .i64 (v - D), .int .i64 r, .int .i64 C, .int .i64 ((f + E) % 2), .int .i64 G] := (rowB_set (rowB_set k0 5 (.int .i64 G)) 1 (.int .i64 (v - D)))
        replace k1 := (rowB_other (rowB_other k1 ⟨w.heap.size, 5, none⟩ (.int .i64 G) (show w.heap.size ≠ _ by omega)) ⟨w.heap.size, 1, none⟩ (.int .i64 (v - D)) (show w.heap.size ≠ _ by omega))
        replace bW := (Below.setCell (Below.setCell bW (p := ⟨w.heap.size, 5, none⟩) (show w.heap.size ≤ w.heap.size by omega) (.int .i64 G)) (p := ⟨w.heap.size, 1, none⟩) (show w.heap.size ≤ w.heap.size by omega) (.int .i64 (v - D)))
        change Code.wp _ _ _ _ ((wa.setCell ⟨w.heap.size, 5, none⟩ (.int .i64 G)).setCell ⟨w.heap.size, 1, none⟩ (.int .i64 (v - D)))
        generalize ((wa.setCell ⟨w.heap.size, 5, none⟩ (.int .i64 G)).setCell ⟨w.heap.size, 1, none⟩ (.int .i64 (v - D))) = wd at *
        go_wp2_with (first
            | (refine wpList_loadR rfl 95 _ rfl w.heap.size rfl 95 #[.int .i64 p, .int .i64 (v - D), .int .i64 r, .int .i64 C, .int .i64 ((f + E) % 2), .int .i64 G] ?_ agVc ?_; with_reducible exact k0)
            | (refine wpList_storeR rfl 95 _ _ rfl (w.heap.size + 1) rfl #[.int .i64 p, .int .i64 (v - D), .int .i64 r, .int .i64 C, .int .i64 ((f + E) % 2), .int .i64 G] rfl (Vc.one _ _ _ _ _ _) 95 #[.int .i64 0, .int .i64 0, .int .i64 0, .int .i64 0, .int .i64 0, .int .i64 0] rfl ?_ agVc ?_; with_reducible exact k1)
      )
        refine bodyPost_ret (resultsR rfl (w.heap.size + 1) _ rfl (rowB_row k1 _) agVc) rfl ?_
        exact ⟨rfl, below_rowR bW _ (by omega)⟩
      · have eT : (⟨p, v, r, c, f, g⟩ : Vc).skip n = ⟨p, 0, r, C, (f + E) % 2, 0⟩ := by
          unfold Vc.skip Vc.skipW
          rw [if_pos h1]
          unfold Vc.skipF
          dsimp only
          rw [if_pos h2, hD, if_neg h3]
          rw [hC, hE]
        rw [eT]
        clear eT
        dsimp only
        go_enter Tryz.func90, Tryz.ntmps90
        go_upto_region 1 with (fail)
        generalize (w.alloc (.cells #[.int .i64 p, .int .i64 v, .int .i64 r, .int .i64 c, .int .i64 f, .int .i64 g] 95)).alloc (.cells #[.int .i64 0, .int .i64 0, .int .i64 0, .int .i64 0, .int .i64 0, .int .i64 0] 95) = w1 at *
        go_upto_region 2 with (first
            | (refine wpList_loadR rfl 95 _ rfl w.heap.size rfl 95 #[.int .i64 p, .int .i64 v, .int .i64 r, .int .i64 c, .int .i64 f, .int .i64 g] ?_ agVc ?_; with_reducible exact k0)
            | (go_at_call 101; refine (hSw _).mono ?_; rintro e w2 ⟨rfl, hb⟩; replace k0 := rowB_below k0 hb (rowB_lt k0); replace k1 := rowB_below k1 hb (rowB_lt k1); replace bW := bW.trans (hb.mono bW.size); clear hb; obtain ⟨e0, e1, e2, e3, e4, e5, z0, z1, z2, z3, z4, z5⟩ := vcCells k0)
      )
        go_upto_region 3 with (first
            | (go_at_call 131; refine (sndPass_any c p n (by omega) (by omega) hn _).mono ?_; rintro e w3 ⟨rfl, hb⟩; replace k0 := rowB_below k0 hb (rowB_lt k0); replace k1 := rowB_below k1 hb (rowB_lt k1); replace bW := bW.trans (hb.mono bW.size); clear hb; rw [hC, hE])
      )
        clear e0 z0 e1 z1 e2 z2 e3 z3 e4 z4 e5 z5
        obtain ⟨e0, e1, e2, e3, e4, e5, z0, z1, z2, z3, z4, z5⟩ := vcCells k0
        go_upto_region 4 with (first
            | (go_at_call 83; refine (low_any _ _ _).mono ?_; rintro e w' ⟨rfl, rfl⟩; rw [hLo])
      )
        clear e0 z0 e1 z1 e2 z2 e3 z3 e4 z4 e5 z5
        replace k0 : rowB _ w.heap.size 95 #[.int .i64 p, .int .i64 v, .int .i64 r, .int .i64 C, .int .i64 ((f + E) % 2), .int .i64 g] := (rowB_set (rowB_set k0 3 (.int .i64 C)) 4 (.int .i64 ((f + E) % 2)))
        replace k1 := (rowB_other (rowB_other k1 ⟨w.heap.size, 3, none⟩ (.int .i64 C) (show w.heap.size ≠ _ by omega)) ⟨w.heap.size, 4, none⟩ (.int .i64 ((f + E) % 2)) (show w.heap.size ≠ _ by omega))
        replace bW := (Below.setCell (Below.setCell bW (p := ⟨w.heap.size, 3, none⟩) (show w.heap.size ≤ w.heap.size by omega) (.int .i64 C)) (p := ⟨w.heap.size, 4, none⟩) (show w.heap.size ≤ w.heap.size by omega) (.int .i64 ((f + E) % 2)))
        change Code.wp _ _ _ _ ((w3.setCell ⟨w.heap.size, 3, none⟩ (.int .i64 C)).setCell ⟨w.heap.size, 4, none⟩ (.int .i64 ((f + E) % 2)))
        generalize ((w3.setCell ⟨w.heap.size, 3, none⟩ (.int .i64 C)).setCell ⟨w.heap.size, 4, none⟩ (.int .i64 ((f + E) % 2))) = w7 at *
        have hFa := fun w => vcFades_any ⟨p, v, r, C, (f + E) % 2, g⟩ w
        dsimp only [Vc.cs] at hFa
        rw [decide_eq_true h2] at hFa
        go_upto_region 5 with (first
            | (refine wpList_loadR rfl 95 _ rfl w.heap.size rfl 95 #[.int .i64 p, .int .i64 v, .int .i64 r, .int .i64 C, .int .i64 ((f + E) % 2), .int .i64 g] ?_ agVc ?_; with_reducible exact k0)
            | (go_at_call 103; refine (hFa _).mono ?_; rintro e w8 ⟨rfl, hb⟩; replace k0 := rowB_below k0 hb (rowB_lt k0); replace k1 := rowB_below k1 hb (rowB_lt k1); replace bW := bW.trans (hb.mono bW.size); clear hb)
      )
        have hS : Below w8.heap.size w8 w8.drew := (Below.refl _ _).drew
        refine wp_region_mix (fun w' => Below w8.heap.size w8 w') [(0, 1), (1, 1), (2, 1), (4, 1), (3, 3), (5, 2), (6, 0), (7, 0), (8, 0), (9, 0), (10, 0)] (by kernel_rfl) (by kernel_rfl) (fun _ _ _ _ _ h => h) ?_
        simp only [List.map_cons, List.map_nil, opOf, List.getD_cons_zero, List.getD_cons_succ]
        change wpMix _ _ _ _ _ _ w8.drew
        refine wpMix_held (.pointer (some ⟨w.heap.size, 5, none⟩)) rfl hS (fun w' hw' => by go_simp) ?_
        simp only [Act.put, List.setIfInBounds_toArray, List.set_cons_zero, List.set_cons_succ]
        refine wpMix_held (.int .i64 g) rfl hS (fun w' hw' => by have c5 := rowB_cell (rowB_below k0 hw' (rowB_lt k0)) 5 (v := .int .i64 g) rfl; go_simp) ?_
        simp only [Act.put, List.setIfInBounds_toArray, List.set_cons_zero, List.set_cons_succ]
        refine wpMix_held ((.agg #[.int .i64 p, .int .i64 v, .int .i64 r, .int .i64 C, .int .i64 ((f + E) % 2), .int .i64 g])) rfl hS (fun w' hw' => exec_rowR 95 _ rfl w.heap.size rfl 95 #[.int .i64 p, .int .i64 v, .int .i64 r, .int .i64 C, .int .i64 ((f + E) % 2), .int .i64 g] (rowB_below k0 hw' (rowB_lt k0)) agVc) ?_
        simp only [Act.put, List.setIfInBounds_toArray, List.set_cons_zero, List.set_cons_succ]
        refine wpMix_held (.int .i64 n) rfl hS (fun w' hw' => by go_simp) ?_
        simp only [Act.put, List.setIfInBounds_toArray, List.set_cons_zero, List.set_cons_succ]
        refine wpMix_call ?_
        go_wp2_with (go_at_call 104; refine (vcSpan_any ⟨p, v, r, C, (f + E) % 2, g⟩ hcr _).mono ?_; rintro e w9 ⟨rfl, hb⟩; replace hS := hS.trans (hb.mono hS.size); clear hb)
        first | refine ⟨fun _ => hS, ?_⟩ | refine ⟨hS, ?_⟩ | refine And.intro (fun _ => hS) ?_
        refine wpMix_call ?_
        go_wp2_with (go_at_call 131; refine (sndPass_any g (64 * r) n hcg (by omega) hn _).mono ?_; rintro e wa ⟨rfl, hb⟩; rw [hG, hD]; replace hS := hS.trans (hb.mono hS.size); clear hb)
        try refine ⟨fun h => (by cases h), ?_⟩
        (refine wpMix_still (fun K hK => ?_); go_simp; refine hK _ ?_; clear hK K)
        (refine wpMix_still (fun K hK => ?_); go_simp; refine hK _ ?_; clear hK K)
        (refine wpMix_still (fun K hK => ?_); go_simp; refine hK _ ?_; clear hK K)
        (refine wpMix_still (fun K hK => ?_); go_simp; refine hK _ ?_; clear hK K)
        (refine wpMix_still (fun K hK => ?_); go_simp; refine hK _ ?_; clear hK K)
        refine wpMix_nil ?_
        replace k0 := rowB_below k0 hS (rowB_lt k0)
        replace k1 := rowB_below k1 hS (rowB_lt k1)
        replace bW := bW.trans (hS.mono bW.size)
        clear hS
        obtain ⟨e0, e1, e2, e3, e4, e5, z0, z1, z2, z3, z4, z5⟩ := vcCells k0
        have hd3 : decide (v ≤ D) = true := decide_eq_true (by omega)
        have wz : wrap64 (v - v) = 0 := by rw [Int.sub_self]; exact IntWalk.wrap64_in _ (by omega)
        go_upto_region 7 with (fail)
        go_quiet (fail)
        replace k0 := rowB_below k0 (below_drewN wa nq _) (rowB_lt k0)
        replace k1 := rowB_below k1 (below_drewN wa nq _) (rowB_lt k1)
        replace bW := bW.trans ((below_drewN wa nq _).mono bW.size)
        generalize wa.drewN nq = wb at *
        clear e0 z0 e1 z1 e2 z2 e3 z3 e4 z4 e5 z5
        obtain ⟨e0, e1, e2, e3, e4, e5, z0, z1, z2, z3, z4, z5⟩ := vcCells k0
        go_upto_region 9 with (fail)
        clear e0 z0 e1 z1 e2 z2 e3 z3 e4 z4 e5 z5
        replace k0 : rowB _ w.heap.size 95 #[.int .i64 p, .int .i64 0, .int .i64 r, .int .i64 C, .int .i64 ((f + E) % 2), .int .i64 0] := (rowB_set (rowB_set k0 5 (.int .i64 0)) 1 (.int .i64 0))
        replace k1 := (rowB_other (rowB_other k1 ⟨w.heap.size, 5, none⟩ (.int .i64 0) (show w.heap.size ≠ _ by omega)) ⟨w.heap.size, 1, none⟩ (.int .i64 0) (show w.heap.size ≠ _ by omega))
        replace bW := (Below.setCell (Below.setCell bW (p := ⟨w.heap.size, 5, none⟩) (show w.heap.size ≤ w.heap.size by omega) (.int .i64 0)) (p := ⟨w.heap.size, 1, none⟩) (show w.heap.size ≤ w.heap.size by omega) (.int .i64 0))
        change Code.wp _ _ _ _ ((wb.setCell ⟨w.heap.size, 5, none⟩ (.int .i64 0)).setCell ⟨w.heap.size, 1, none⟩ (.int .i64 0))
        generalize ((wb.setCell ⟨w.heap.size, 5, none⟩ (.int .i64 0)).setCell ⟨w.heap.size, 1, none⟩ (.int .i64 0)) = wd at *
        go_wp2_with (first
            | (refine wpList_loadR rfl 95 _ rfl w.heap.size rfl 95 #[.int .i64 p, .int .i64 0, .int .i64 r, .int .i64 C, .int .i64 ((f + E) % 2), .int .i64 0] ?_ agVc ?_; with_reducible exact k0)
            | (refine wpList_storeR rfl 95 _ _ rfl (w.heap.size + 1) rfl #[.int .i64 p, .int .i64 0, .int .i64 r, .int .i64 C, .int .i64 ((f + E) % 2), .int .i64 0] rfl (Vc.one _ _ _ _ _ _) 95 #[.int .i64 0, .int .i64 0, .int .i64 0, .int .i64 0, .int .i64 0, .int .i64 0] rfl ?_ agVc ?_; with_reducible exact k1)
      )
        refine bodyPost_ret (resultsR rfl (w.heap.size + 1) _ rfl (rowB_row k1 _) agVc) rfl ?_
        exact ⟨rfl, below_rowR bW _ (by omega)⟩
    · have eT : (⟨p, v, r, c, f, g⟩ : Vc).skip n = ⟨p, v, r, C, (f + E) % 2, g⟩ := by
        unfold Vc.skip Vc.skipW
        rw [if_pos h1]
        unfold Vc.skipF
        dsimp only
        rw [if_neg h2]
        rw [hC, hE]
      rw [eT]
      clear eT
      dsimp only
      go_enter Tryz.func90, Tryz.ntmps90
      go_upto_region 1 with (fail)
      generalize (w.alloc (.cells #[.int .i64 p, .int .i64 v, .int .i64 r, .int .i64 c, .int .i64 f, .int .i64 g] 95)).alloc (.cells #[.int .i64 0, .int .i64 0, .int .i64 0, .int .i64 0, .int .i64 0, .int .i64 0] 95) = w1 at *
      go_upto_region 2 with (first
          | (refine wpList_loadR rfl 95 _ rfl w.heap.size rfl 95 #[.int .i64 p, .int .i64 v, .int .i64 r, .int .i64 c, .int .i64 f, .int .i64 g] ?_ agVc ?_; with_reducible exact k0)
          | (go_at_call 101; refine (hSw _).mono ?_; rintro e w2 ⟨rfl, hb⟩; replace k0 := rowB_below k0 hb (rowB_lt k0); replace k1 := rowB_below k1 hb (rowB_lt k1); replace bW := bW.trans (hb.mono bW.size); clear hb; obtain ⟨e0, e1, e2, e3, e4, e5, z0, z1, z2, z3, z4, z5⟩ := vcCells k0)
    )
      go_upto_region 3 with (first
          | (go_at_call 131; refine (sndPass_any c p n (by omega) (by omega) hn _).mono ?_; rintro e w3 ⟨rfl, hb⟩; replace k0 := rowB_below k0 hb (rowB_lt k0); replace k1 := rowB_below k1 hb (rowB_lt k1); replace bW := bW.trans (hb.mono bW.size); clear hb; rw [hC, hE])
    )
      clear e0 z0 e1 z1 e2 z2 e3 z3 e4 z4 e5 z5
      obtain ⟨e0, e1, e2, e3, e4, e5, z0, z1, z2, z3, z4, z5⟩ := vcCells k0
      go_upto_region 4 with (first
          | (go_at_call 83; refine (low_any _ _ _).mono ?_; rintro e w' ⟨rfl, rfl⟩; rw [hLo])
    )
      clear e0 z0 e1 z1 e2 z2 e3 z3 e4 z4 e5 z5
      replace k0 : rowB _ w.heap.size 95 #[.int .i64 p, .int .i64 v, .int .i64 r, .int .i64 C, .int .i64 ((f + E) % 2), .int .i64 g] := (rowB_set (rowB_set k0 3 (.int .i64 C)) 4 (.int .i64 ((f + E) % 2)))
      replace k1 := (rowB_other (rowB_other k1 ⟨w.heap.size, 3, none⟩ (.int .i64 C) (show w.heap.size ≠ _ by omega)) ⟨w.heap.size, 4, none⟩ (.int .i64 ((f + E) % 2)) (show w.heap.size ≠ _ by omega))
      replace bW := (Below.setCell (Below.setCell bW (p := ⟨w.heap.size, 3, none⟩) (show w.heap.size ≤ w.heap.size by omega) (.int .i64 C)) (p := ⟨w.heap.size, 4, none⟩) (show w.heap.size ≤ w.heap.size by omega) (.int .i64 ((f + E) % 2)))
      change Code.wp _ _ _ _ ((w3.setCell ⟨w.heap.size, 3, none⟩ (.int .i64 C)).setCell ⟨w.heap.size, 4, none⟩ (.int .i64 ((f + E) % 2)))
      generalize ((w3.setCell ⟨w.heap.size, 3, none⟩ (.int .i64 C)).setCell ⟨w.heap.size, 4, none⟩ (.int .i64 ((f + E) % 2))) = w7 at *
      have hFa := fun w => vcFades_any ⟨p, v, r, C, (f + E) % 2, g⟩ w
      dsimp only [Vc.cs] at hFa
      rw [decide_eq_false h2] at hFa
      go_upto_region 9 with (first
          | (refine wpList_loadR rfl 95 _ rfl w.heap.size rfl 95 #[.int .i64 p, .int .i64 v, .int .i64 r, .int .i64 C, .int .i64 ((f + E) % 2), .int .i64 g] ?_ agVc ?_; with_reducible exact k0)
          | (go_at_call 103; refine (hFa _).mono ?_; rintro e w8 ⟨rfl, hb⟩; replace k0 := rowB_below k0 hb (rowB_lt k0); replace k1 := rowB_below k1 hb (rowB_lt k1); replace bW := bW.trans (hb.mono bW.size); clear hb)
    )
      go_wp2_with (first
          | (go_at_call 83; refine (low_any _ _ _).mono ?_; rintro e w' ⟨rfl, rfl⟩)
          | (refine wpList_loadR rfl 95 _ rfl w.heap.size rfl 95 #[.int .i64 p, .int .i64 v, .int .i64 r, .int .i64 C, .int .i64 ((f + E) % 2), .int .i64 g] ?_ agVc ?_; with_reducible exact k0)
          | (refine wpList_storeR rfl 95 _ _ rfl (w.heap.size + 1) rfl #[.int .i64 p, .int .i64 v, .int .i64 r, .int .i64 C, .int .i64 ((f + E) % 2), .int .i64 g] rfl (Vc.one _ _ _ _ _ _) 95 #[.int .i64 0, .int .i64 0, .int .i64 0, .int .i64 0, .int .i64 0, .int .i64 0] rfl ?_ agVc ?_; with_reducible exact k1)
    )
      refine bodyPost_ret (resultsR rfl (w.heap.size + 1) _ rfl (rowB_row k1 _) agVc) rfl ?_
      exact ⟨rfl, below_rowR bW _ (by omega)⟩
  · have hdp : decide (0 < p) = false := decide_eq_false h1
    simp only [hdp] at hSw
    by_cases h2 : 0 < r ∧ 0 < v
    · have hD0 := cyN_bd (64 * r) g n (by omega)
      rw [hD] at hD0
      by_cases h3 : D < v
      · have eT : (⟨p, v, r, c, f, g⟩ : Vc).skip n = ⟨p, v - D, r, c, f, G⟩ := by
          unfold Vc.skip Vc.skipW
          rw [if_neg h1]
          unfold Vc.skipF
          dsimp only
          rw [if_pos h2, hD, if_pos h3]
          rw [hG]
        rw [eT]
        clear eT
        dsimp only
        go_enter Tryz.func90, Tryz.ntmps90
        go_upto_region 1 with (fail)
        generalize (w.alloc (.cells #[.int .i64 p, .int .i64 v, .int .i64 r, .int .i64 c, .int .i64 f, .int .i64 g] 95)).alloc (.cells #[.int .i64 0, .int .i64 0, .int .i64 0, .int .i64 0, .int .i64 0, .int .i64 0] 95) = w1 at *
        go_upto_region 4 with (first
            | (refine wpList_loadR rfl 95 _ rfl w.heap.size rfl 95 #[.int .i64 p, .int .i64 v, .int .i64 r, .int .i64 c, .int .i64 f, .int .i64 g] ?_ agVc ?_; with_reducible exact k0)
            | (go_at_call 101; refine (hSw _).mono ?_; rintro e w2 ⟨rfl, hb⟩; replace k0 := rowB_below k0 hb (rowB_lt k0); replace k1 := rowB_below k1 hb (rowB_lt k1); replace bW := bW.trans (hb.mono bW.size); clear hb; obtain ⟨e0, e1, e2, e3, e4, e5, z0, z1, z2, z3, z4, z5⟩ := vcCells k0)
      )
        clear e0 z0 e1 z1 e2 z2 e3 z3 e4 z4 e5 z5
        have hFa := fun w => vcFades_any ⟨p, v, r, c, f, g⟩ w
        dsimp only [Vc.cs] at hFa
        rw [decide_eq_true h2] at hFa
        go_upto_region 5 with (first
            | (refine wpList_loadR rfl 95 _ rfl w.heap.size rfl 95 #[.int .i64 p, .int .i64 v, .int .i64 r, .int .i64 c, .int .i64 f, .int .i64 g] ?_ agVc ?_; with_reducible exact k0)
            | (go_at_call 103; refine (hFa _).mono ?_; rintro e w8 ⟨rfl, hb⟩; replace k0 := rowB_below k0 hb (rowB_lt k0); replace k1 := rowB_below k1 hb (rowB_lt k1); replace bW := bW.trans (hb.mono bW.size); clear hb)
      )
        have hS : Below w8.heap.size w8 w8.drew := (Below.refl _ _).drew
        refine wp_region_mix (fun w' => Below w8.heap.size w8 w') [(0, 1), (1, 1), (2, 1), (4, 1), (3, 3), (5, 2), (6, 0), (7, 0), (8, 0), (9, 0), (10, 0)] (by kernel_rfl) (by kernel_rfl) (fun _ _ _ _ _ h => h) ?_
        simp only [List.map_cons, List.map_nil, opOf, List.getD_cons_zero, List.getD_cons_succ]
        change wpMix _ _ _ _ _ _ w8.drew
        refine wpMix_held (.pointer (some ⟨w.heap.size, 5, none⟩)) rfl hS (fun w' hw' => by go_simp) ?_
        simp only [Act.put, List.setIfInBounds_toArray, List.set_cons_zero, List.set_cons_succ]
        refine wpMix_held (.int .i64 g) rfl hS (fun w' hw' => by have c5 := rowB_cell (rowB_below k0 hw' (rowB_lt k0)) 5 (v := .int .i64 g) rfl; go_simp) ?_
        simp only [Act.put, List.setIfInBounds_toArray, List.set_cons_zero, List.set_cons_succ]
        refine wpMix_held ((.agg #[.int .i64 p, .int .i64 v, .int .i64 r, .int .i64 c, .int .i64 f, .int .i64 g])) rfl hS (fun w' hw' => exec_rowR 95 _ rfl w.heap.size rfl 95 #[.int .i64 p, .int .i64 v, .int .i64 r, .int .i64 c, .int .i64 f, .int .i64 g] (rowB_below k0 hw' (rowB_lt k0)) agVc) ?_
        simp only [Act.put, List.setIfInBounds_toArray, List.set_cons_zero, List.set_cons_succ]
        refine wpMix_held (.int .i64 n) rfl hS (fun w' hw' => by go_simp) ?_
        simp only [Act.put, List.setIfInBounds_toArray, List.set_cons_zero, List.set_cons_succ]
        refine wpMix_call ?_
        go_wp2_with (go_at_call 104; refine (vcSpan_any ⟨p, v, r, c, f, g⟩ hcr _).mono ?_; rintro e w9 ⟨rfl, hb⟩; replace hS := hS.trans (hb.mono hS.size); clear hb)
        first | refine ⟨fun _ => hS, ?_⟩ | refine ⟨hS, ?_⟩ | refine And.intro (fun _ => hS) ?_
        refine wpMix_call ?_
        go_wp2_with (go_at_call 131; refine (sndPass_any g (64 * r) n hcg (by omega) hn _).mono ?_; rintro e wa ⟨rfl, hb⟩; rw [hG, hD]; replace hS := hS.trans (hb.mono hS.size); clear hb)
        try refine ⟨fun h => (by cases h), ?_⟩
        (refine wpMix_still (fun K hK => ?_); go_simp; refine hK _ ?_; clear hK K)
        (refine wpMix_still (fun K hK => ?_); go_simp; refine hK _ ?_; clear hK K)
        (refine wpMix_still (fun K hK => ?_); go_simp; refine hK _ ?_; clear hK K)
        (refine wpMix_still (fun K hK => ?_); go_simp; refine hK _ ?_; clear hK K)
        (refine wpMix_still (fun K hK => ?_); go_simp; refine hK _ ?_; clear hK K)
        refine wpMix_nil ?_
        replace k0 := rowB_below k0 hS (rowB_lt k0)
        replace k1 := rowB_below k1 hS (rowB_lt k1)
        replace bW := bW.trans (hS.mono bW.size)
        clear hS
        obtain ⟨e0, e1, e2, e3, e4, e5, z0, z1, z2, z3, z4, z5⟩ := vcCells k0
        have hd3 : decide (v ≤ D) = false := decide_eq_false (by omega)
        have wz : wrap64 (v - D) = v - D := IntWalk.wrap64_in _ (by omega)
        go_upto_region 9 with (fail)
        clear e0 z0 e1 z1 e2 z2 e3 z3 e4 z4 e5 z5
        replace k0 : rowB _ w.heap.size 95 #[.int .i64 p, .int .i64 (v - D), .int .i64 r, .int .i64 c, .int .i64 f, .int .i64 G] := (rowB_set (rowB_set k0 5 (.int .i64 G)) 1 (.int .i64 (v - D)))
        replace k1 := (rowB_other (rowB_other k1 ⟨w.heap.size, 5, none⟩ (.int .i64 G) (show w.heap.size ≠ _ by omega)) ⟨w.heap.size, 1, none⟩ (.int .i64 (v - D)) (show w.heap.size ≠ _ by omega))
        replace bW := (Below.setCell (Below.setCell bW (p := ⟨w.heap.size, 5, none⟩) (show w.heap.size ≤ w.heap.size by omega) (.int .i64 G)) (p := ⟨w.heap.size, 1, none⟩) (show w.heap.size ≤ w.heap.size by omega) (.int .i64 (v - D)))
        change Code.wp _ _ _ _ ((wa.setCell ⟨w.heap.size, 5, none⟩ (.int .i64 G)).setCell ⟨w.heap.size, 1, none⟩ (.int .i64 (v - D)))
        generalize ((wa.setCell ⟨w.heap.size, 5, none⟩ (.int .i64 G)).setCell ⟨w.heap.size, 1, none⟩ (.int .i64 (v - D))) = wd at *
        go_wp2_with (first
            | (refine wpList_loadR rfl 95 _ rfl w.heap.size rfl 95 #[.int .i64 p, .int .i64 (v - D), .int .i64 r, .int .i64 c, .int .i64 f, .int .i64 G] ?_ agVc ?_; with_reducible exact k0)
            | (refine wpList_storeR rfl 95 _ _ rfl (w.heap.size + 1) rfl #[.int .i64 p, .int .i64 (v - D), .int .i64 r, .int .i64 c, .int .i64 f, .int .i64 G] rfl (Vc.one _ _ _ _ _ _) 95 #[.int .i64 0, .int .i64 0, .int .i64 0, .int .i64 0, .int .i64 0, .int .i64 0] rfl ?_ agVc ?_; with_reducible exact k1)
      )
        refine bodyPost_ret (resultsR rfl (w.heap.size + 1) _ rfl (rowB_row k1 _) agVc) rfl ?_
        exact ⟨rfl, below_rowR bW _ (by omega)⟩
      · have eT : (⟨p, v, r, c, f, g⟩ : Vc).skip n = ⟨p, 0, r, c, f, 0⟩ := by
          unfold Vc.skip Vc.skipW
          rw [if_neg h1]
          unfold Vc.skipF
          dsimp only
          rw [if_pos h2, hD, if_neg h3]
        rw [eT]
        clear eT
        dsimp only
        go_enter Tryz.func90, Tryz.ntmps90
        go_upto_region 1 with (fail)
        generalize (w.alloc (.cells #[.int .i64 p, .int .i64 v, .int .i64 r, .int .i64 c, .int .i64 f, .int .i64 g] 95)).alloc (.cells #[.int .i64 0, .int .i64 0, .int .i64 0, .int .i64 0, .int .i64 0, .int .i64 0] 95) = w1 at *
        go_upto_region 4 with (first
            | (refine wpList_loadR rfl 95 _ rfl w.heap.size rfl 95 #[.int .i64 p, .int .i64 v, .int .i64 r, .int .i64 c, .int .i64 f, .int .i64 g] ?_ agVc ?_; with_reducible exact k0)
            | (go_at_call 101; refine (hSw _).mono ?_; rintro e w2 ⟨rfl, hb⟩; replace k0 := rowB_below k0 hb (rowB_lt k0); replace k1 := rowB_below k1 hb (rowB_lt k1); replace bW := bW.trans (hb.mono bW.size); clear hb; obtain ⟨e0, e1, e2, e3, e4, e5, z0, z1, z2, z3, z4, z5⟩ := vcCells k0)
      )
        clear e0 z0 e1 z1 e2 z2 e3 z3 e4 z4 e5 z5
        have hFa := fun w => vcFades_any ⟨p, v, r, c, f, g⟩ w
        dsimp only [Vc.cs] at hFa
        rw [decide_eq_true h2] at hFa
        go_upto_region 5 with (first
            | (refine wpList_loadR rfl 95 _ rfl w.heap.size rfl 95 #[.int .i64 p, .int .i64 v, .int .i64 r, .int .i64 c, .int .i64 f, .int .i64 g] ?_ agVc ?_; with_reducible exact k0)
            | (go_at_call 103; refine (hFa _).mono ?_; rintro e w8 ⟨rfl, hb⟩; replace k0 := rowB_below k0 hb (rowB_lt k0); replace k1 := rowB_below k1 hb (rowB_lt k1); replace bW := bW.trans (hb.mono bW.size); clear hb)
      )
        have hS : Below w8.heap.size w8 w8.drew := (Below.refl _ _).drew
        refine wp_region_mix (fun w' => Below w8.heap.size w8 w') [(0, 1), (1, 1), (2, 1), (4, 1), (3, 3), (5, 2), (6, 0), (7, 0), (8, 0), (9, 0), (10, 0)] (by kernel_rfl) (by kernel_rfl) (fun _ _ _ _ _ h => h) ?_
        simp only [List.map_cons, List.map_nil, opOf, List.getD_cons_zero, List.getD_cons_succ]
        change wpMix _ _ _ _ _ _ w8.drew
        refine wpMix_held (.pointer (some ⟨w.heap.size, 5, none⟩)) rfl hS (fun w' hw' => by go_simp) ?_
        simp only [Act.put, List.setIfInBounds_toArray, List.set_cons_zero, List.set_cons_succ]
        refine wpMix_held (.int .i64 g) rfl hS (fun w' hw' => by have c5 := rowB_cell (rowB_below k0 hw' (rowB_lt k0)) 5 (v := .int .i64 g) rfl; go_simp) ?_
        simp only [Act.put, List.setIfInBounds_toArray, List.set_cons_zero, List.set_cons_succ]
        refine wpMix_held ((.agg #[.int .i64 p, .int .i64 v, .int .i64 r, .int .i64 c, .int .i64 f, .int .i64 g])) rfl hS (fun w' hw' => exec_rowR 95 _ rfl w.heap.size rfl 95 #[.int .i64 p, .int .i64 v, .int .i64 r, .int .i64 c, .int .i64 f, .int .i64 g] (rowB_below k0 hw' (rowB_lt k0)) agVc) ?_
        simp only [Act.put, List.setIfInBounds_toArray, List.set_cons_zero, List.set_cons_succ]
        refine wpMix_held (.int .i64 n) rfl hS (fun w' hw' => by go_simp) ?_
        simp only [Act.put, List.setIfInBounds_toArray, List.set_cons_zero, List.set_cons_succ]
        refine wpMix_call ?_
        go_wp2_with (go_at_call 104; refine (vcSpan_any ⟨p, v, r, c, f, g⟩ hcr _).mono ?_; rintro e w9 ⟨rfl, hb⟩; replace hS := hS.trans (hb.mono hS.size); clear hb)
        first | refine ⟨fun _ => hS, ?_⟩ | refine ⟨hS, ?_⟩ | refine And.intro (fun _ => hS) ?_
        refine wpMix_call ?_
        go_wp2_with (go_at_call 131; refine (sndPass_any g (64 * r) n hcg (by omega) hn _).mono ?_; rintro e wa ⟨rfl, hb⟩; rw [hG, hD]; replace hS := hS.trans (hb.mono hS.size); clear hb)
        try refine ⟨fun h => (by cases h), ?_⟩
        (refine wpMix_still (fun K hK => ?_); go_simp; refine hK _ ?_; clear hK K)
        (refine wpMix_still (fun K hK => ?_); go_simp; refine hK _ ?_; clear hK K)
        (refine wpMix_still (fun K hK => ?_); go_simp; refine hK _ ?_; clear hK K)
        (refine wpMix_still (fun K hK => ?_); go_simp; refine hK _ ?_; clear hK K)
        (refine wpMix_still (fun K hK => ?_); go_simp; refine hK _ ?_; clear hK K)
        refine wpMix_nil ?_
        replace k0 := rowB_below k0 hS (rowB_lt k0)
        replace k1 := rowB_below k1 hS (rowB_lt k1)
        replace bW := bW.trans (hS.mono bW.size)
        clear hS
        obtain ⟨e0, e1, e2, e3, e4, e5, z0, z1, z2, z3, z4, z5⟩ := vcCells k0
        have hd3 : decide (v ≤ D) = true := decide_eq_true (by omega)
        have wz : wrap64 (v - v) = 0 := by rw [Int.sub_self]; exact IntWalk.wrap64_in _ (by omega)
        go_upto_region 7 with (fail)
        go_quiet (fail)
        replace k0 := rowB_below k0 (below_drewN wa nq _) (rowB_lt k0)
        replace k1 := rowB_below k1 (below_drewN wa nq _) (rowB_lt k1)
        replace bW := bW.trans ((below_drewN wa nq _).mono bW.size)
        generalize wa.drewN nq = wb at *
        clear e0 z0 e1 z1 e2 z2 e3 z3 e4 z4 e5 z5
        obtain ⟨e0, e1, e2, e3, e4, e5, z0, z1, z2, z3, z4, z5⟩ := vcCells k0
        go_upto_region 9 with (fail)
        clear e0 z0 e1 z1 e2 z2 e3 z3 e4 z4 e5 z5
        replace k0 : rowB _ w.heap.size 95 #[.int .i64 p, .int .i64 0, .int .i64 r, .int .i64 c, .int .i64 f, .int .i64 0] := (rowB_set (rowB_set k0 5 (.int .i64 0)) 1 (.int .i64 0))
        replace k1 := (rowB_other (rowB_other k1 ⟨w.heap.size, 5, none⟩ (.int .i64 0) (show w.heap.size ≠ _ by omega)) ⟨w.heap.size, 1, none⟩ (.int .i64 0) (show w.heap.size ≠ _ by omega))
        replace bW := (Below.setCell (Below.setCell bW (p := ⟨w.heap.size, 5, none⟩) (show w.heap.size ≤ w.heap.size by omega) (.int .i64 0)) (p := ⟨w.heap.size, 1, none⟩) (show w.heap.size ≤ w.heap.size by omega) (.int .i64 0))
        change Code.wp _ _ _ _ ((wb.setCell ⟨w.heap.size, 5, none⟩ (.int .i64 0)).setCell ⟨w.heap.size, 1, none⟩ (.int .i64 0))
        generalize ((wb.setCell ⟨w.heap.size, 5, none⟩ (.int .i64 0)).setCell ⟨w.heap.size, 1, none⟩ (.int .i64 0)) = wd at *
        go_wp2_with (first
            | (refine wpList_loadR rfl 95 _ rfl w.heap.size rfl 95 #[.int .i64 p, .int .i64 0, .int .i64 r, .int .i64 c, .int .i64 f, .int .i64 0] ?_ agVc ?_; with_reducible exact k0)
            | (refine wpList_storeR rfl 95 _ _ rfl (w.heap.size + 1) rfl #[.int .i64 p, .int .i64 0, .int .i64 r, .int .i64 c, .int .i64 f, .int .i64 0] rfl (Vc.one _ _ _ _ _ _) 95 #[.int .i64 0, .int .i64 0, .int .i64 0, .int .i64 0, .int .i64 0, .int .i64 0] rfl ?_ agVc ?_; with_reducible exact k1)
      )
        refine bodyPost_ret (resultsR rfl (w.heap.size + 1) _ rfl (rowB_row k1 _) agVc) rfl ?_
        exact ⟨rfl, below_rowR bW _ (by omega)⟩
    · have eT : (⟨p, v, r, c, f, g⟩ : Vc).skip n = ⟨p, v, r, c, f, g⟩ := by
        unfold Vc.skip Vc.skipW
        rw [if_neg h1]
        unfold Vc.skipF
        dsimp only
        rw [if_neg h2]
      rw [eT]
      clear eT
      dsimp only
      go_enter Tryz.func90, Tryz.ntmps90
      go_upto_region 1 with (fail)
      generalize (w.alloc (.cells #[.int .i64 p, .int .i64 v, .int .i64 r, .int .i64 c, .int .i64 f, .int .i64 g] 95)).alloc (.cells #[.int .i64 0, .int .i64 0, .int .i64 0, .int .i64 0, .int .i64 0, .int .i64 0] 95) = w1 at *
      go_upto_region 4 with (first
          | (refine wpList_loadR rfl 95 _ rfl w.heap.size rfl 95 #[.int .i64 p, .int .i64 v, .int .i64 r, .int .i64 c, .int .i64 f, .int .i64 g] ?_ agVc ?_; with_reducible exact k0)
          | (go_at_call 101; refine (hSw _).mono ?_; rintro e w2 ⟨rfl, hb⟩; replace k0 := rowB_below k0 hb (rowB_lt k0); replace k1 := rowB_below k1 hb (rowB_lt k1); replace bW := bW.trans (hb.mono bW.size); clear hb; obtain ⟨e0, e1, e2, e3, e4, e5, z0, z1, z2, z3, z4, z5⟩ := vcCells k0)
    )
      clear e0 z0 e1 z1 e2 z2 e3 z3 e4 z4 e5 z5
      have hFa := fun w => vcFades_any ⟨p, v, r, c, f, g⟩ w
      dsimp only [Vc.cs] at hFa
      rw [decide_eq_false h2] at hFa
      go_upto_region 9 with (first
          | (refine wpList_loadR rfl 95 _ rfl w.heap.size rfl 95 #[.int .i64 p, .int .i64 v, .int .i64 r, .int .i64 c, .int .i64 f, .int .i64 g] ?_ agVc ?_; with_reducible exact k0)
          | (go_at_call 103; refine (hFa _).mono ?_; rintro e w8 ⟨rfl, hb⟩; replace k0 := rowB_below k0 hb (rowB_lt k0); replace k1 := rowB_below k1 hb (rowB_lt k1); replace bW := bW.trans (hb.mono bW.size); clear hb)
    )
      go_wp2_with (first
          | (go_at_call 83; refine (low_any _ _ _).mono ?_; rintro e w' ⟨rfl, rfl⟩)
          | (refine wpList_loadR rfl 95 _ rfl w.heap.size rfl 95 #[.int .i64 p, .int .i64 v, .int .i64 r, .int .i64 c, .int .i64 f, .int .i64 g] ?_ agVc ?_; with_reducible exact k0)
          | (refine wpList_storeR rfl 95 _ _ rfl (w.heap.size + 1) rfl #[.int .i64 p, .int .i64 v, .int .i64 r, .int .i64 c, .int .i64 f, .int .i64 g] rfl (Vc.one _ _ _ _ _ _) 95 #[.int .i64 0, .int .i64 0, .int .i64 0, .int .i64 0, .int .i64 0, .int .i64 0] rfl ?_ agVc ?_; with_reducible exact k1)
    )
      refine bodyPost_ret (resultsR rfl (w.heap.size + 1) _ rfl (rowB_row k1 _) agVc) rfl ?_
      exact ⟨rfl, below_rowR bW _ (by omega)⟩
end Go.Proofs.YtakaebjojgeehaaGreat
