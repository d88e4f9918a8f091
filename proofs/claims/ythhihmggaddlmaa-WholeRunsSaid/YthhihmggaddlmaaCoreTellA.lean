/- What a processor makes of a byte, as plain data; contracts of package core's steps, begun and stopped. -/
import Derived.Test.YthhihmggaddlmaaAluDo
import Derived.Test.YthhihmggaddlmaaChecked
import Derived.Test.YthhihmggaddlmaaCoreFind
import Derived.Below
import Derived.BigQuiet
import Derived.ChangeMaps5
import Derived.Deep.CutBlock
import Derived.Deep.DeepCutAuto
import Derived.Deep.Draws
import Derived.Deep.MidRow
import Derived.Deep.OwnRows
import Derived.Deep.QuietTactic
import Derived.Deep.RegionHeld3
import Derived.Deep.RegionLaw
import Derived.Deep.RegionWith
import Derived.Deep.Slices
import Derived.Deep.WholeRow
import Derived.Lib.Hide
import Derived.Lib.SmallJoins
import Derived.OpenShut
import Derived.OrdersHeld
import Derived.OwnWalk
import Derived.RowKit3
import Derived.SizedLaws
import Derived.StillTactics
import Derived.StillTail
import Derived.StillTailTactics
import Derived.WalkKit
namespace Go.Proofs.Ythhihmggaddlmaa
open Go.RowKit
set_option maxRecDepth 100000

/-- The registers behind the steps of a cycle, and whether one of them ends the instruction. -/
def stepsF : List St → (Nat → Int) → (Nat → Int) × Bool
  | [], f => (f, false)
  | s :: l, f => if endB s.d (reg s.f) s.n (fitR f) = true then (doF s.d (reg s.t) (reg s.f) s.n (fitR f), true) else stepsF l (doF s.d (reg s.t) (reg s.f) s.n (fitR f))
/-- The registers when the byte has been read. -/
def readR (x : Cy) (d : Int) (f : Nat → Int) : Nat → Int := if x.bus = 1 ∧ isReg x.reg = true then setR f x.reg.toNat d else f
/-- The state's cells behind a cycle. -/
def overB (l : List Cy) (pl : Int) (s : (Nat → Int) × Bool) : Bool := s.2 || !curB l (pl + 1)
def tellCore (c : Cp) (f : Nat → Int) (op pl : Int) (n : Bool) (data : Int) : Array Value :=
  if op = -1 then core12 f (begunV c (lo data 8)) 0 n
  else if curB (cyclesOf c op) pl = false then (if op = 259 then core12 f op pl n else core12 f (-1) 0 n)
  else if overB (cyclesOf c op) pl (stepsF (cycAt (cyclesOf c op) pl).steps (readR (cycAt (cyclesOf c op) pl) (lo data 8) f)) = true
    then core12 (stepsF (cycAt (cyclesOf c op) pl).steps (readR (cycAt (cyclesOf c op) pl) (lo data 8) f)).1 (-1) 0 n
    else core12 (stepsF (cycAt (cyclesOf c op) pl).steps (readR (cycAt (cyclesOf c op) pl) (lo data 8) f)).1 op (pl + 1) n

/-- The cells of a step, wherever the argument's memory is kept. -/
theorem st_form {v : Value} {l : List St} {w : World} (h : isArr 4 stepR w v l) : ∃ a cap, v = .slice a l.length cap ∧ (0 < l.length → l.length ≤ 9223372036854775807) ∧ ∀ (i : Nat) (x : St), l[i]? = some x → ∃ b off, a = some ⟨b, off, none⟩ ∧ ∀ w', Below w.heap.size w w' → w'.cell? ⟨b, off + i * 4, none⟩ = some (.int .i64 x.d) ∧ w'.cell? ⟨b, off + i * 4 + 1, none⟩ = some (.int .i64 x.t) ∧ w'.cell? ⟨b, off + i * 4 + 2, none⟩ = some (.int .i64 x.f) ∧ w'.cell? ⟨b, off + i * 4 + 3, none⟩ = some (.int .i64 x.n) := by
  obtain ⟨a, cap, rfl, hlen, hform⟩ := isArr_form h
  refine ⟨a, cap, rfl, hlen, fun i x hx => ?_⟩
  obtain ⟨b, off, rfl, hb, _, _, cs, _, hcs, rfl⟩ := hform i x hx
  obtain ⟨c0, c1, c2, c3⟩ := four_cells hcs
  exact ⟨b, off, rfl, fun w' hb' => ⟨(hb'.cell (p := ⟨b, off + i * 4, none⟩) hb).trans c0, (hb'.cell (p := ⟨b, off + i * 4 + 1, none⟩) hb).trans c1, (hb'.cell (p := ⟨b, off + i * 4 + 2, none⟩) hb).trans c2, (hb'.cell (p := ⟨b, off + i * 4 + 3, none⟩) hb).trans c3⟩⟩

set_option maxHeartbeats 2000000 in
theorem steps_any (v : Value) (l : List St) (f : Nat → Int) (w0 w : World) (h : isArr 4 stepR w0 v l) (hb0 : Below w0.heap.size w0 w) :
    Calls Try.prog 97 #[v, .agg (arr9 f)] w fun e w' => e = .returned (.tuple #[.agg (arr9 (stepsF l f).1), .bool (stepsF l f).2]) ∧ Below w.heap.size w w' := by
  obtain ⟨k0, k1, bW, sW⟩ := boxes2 w (.cells (arr9 f) 27) (.cells (arr9 fun _ => 0) 27)
  have k0 : regB _ _ _ _ := k0
  have k1 : regB _ _ _ _ := k1
  obtain ⟨a, cap, rfl, hlen, hform⟩ := st_form h
  have HF := Lib.hid hform
  have b01 := hb0.trans (bW.mono hb0.size)
  have hw0 := hb0.size
  obtain ⟨S, hS⟩ : ∃ S, S = stepsF l f := ⟨_, rfl⟩
  have HS := Lib.hid hS
  rw [← hS]
  clear h hform hb0 hS
  go_enter Try.func97, Try.ntmps97
  go_upto_region 1 with (fail)
  rw [zero9]
  generalize (w.alloc (.cells (arr9 f) 27)).alloc (.cells (arr9 fun _ => 0) 27) = w1 at *
  go_wp2_with fail
  go_loopw [11] (fun i wr => ∃ (k : Nat) (F : Nat → Int), k ≤ l.length ∧ i = .int .i64 k ∧ regB wr w.heap.size 27 F ∧ regB wr (w.heap.size + 1) 27 (fun _ => 0) ∧ Below w.heap.size w wr ∧ Below w0.heap.size w0 wr ∧ S = stepsF (l.drop k) F) (fun i _ => l.length - (intOf i).toNat)
  case atStart => exact ⟨0, f, Nat.zero_le _, rfl, k0, k1, bW, b01, HS.out⟩
  case round =>
    clear k0 k1 bW b01
    obtain ⟨k, F, hk, rfl, hR, hZ, bB, b0, hSF⟩ := hrel
    have HSF := Lib.hid hSF
    clear hSF
    by_cases hlt : k < l.length
    · obtain ⟨x, hx, hdr⟩ := drop_at hlt
      obtain ⟨b, off, rfl, hcell⟩ := HF.out k x hx
      obtain ⟨e0, e1, e2, e3⟩ := hcell _ b0
      have hd := do_any x.d x.t x.f x.n F
      have HS2 := Lib.hid (HSF.out.trans (by rw [hdr]; rfl) : S = if endB x.d (reg x.f) x.n (fitR F) = true then (doF x.d (reg x.t) (reg x.f) x.n (fitR F), true) else stepsF (l.drop (k + 1)) (doF x.d (reg x.t) (reg x.f) x.n (fitR F)))
      clear hx hdr hcell HSF
      generalize doF x.d (reg x.t) (reg x.f) x.n (fitR F) = G at *
      generalize endB x.d (reg x.f) x.n (fitR F) = E at *
      obtain ⟨d, t, u, n⟩ := x
      dsimp only at e0 e1 e2 e3 hd
      have nR := regB_alloc hR (.cells #[.int .i64 d, .int .i64 t, .int .i64 u, .int .i64 n] 100)
      have nZ := regB_alloc hZ (.cells #[.int .i64 d, .int .i64 t, .int .i64 u, .int .i64 n] 100)
      have nb := bB.alloc bB.size (.cells #[.int .i64 d, .int .i64 t, .int .i64 u, .int .i64 n] 100)
      have nb0 := b0.alloc b0.size (.cells #[.int .i64 d, .int .i64 t, .int .i64 u, .int .i64 n] 100)
      cases E
      · go_wp2_with (first
          | (go_at_call 104; refine (hd _).mono ?_; rintro e w2 ⟨rfl, hb2⟩; have hR2 := regB_below nR hb2 (regB_lt nR); have hZ2 := regB_below nZ hb2 (regB_lt nZ); have bB2 := nb.trans (hb2.mono nb.size); have b02 := nb0.trans (hb2.mono nb0.size))
          | (refine wpList_load9 rfl 27 _ rfl (w.heap.size) rfl 27 F ?_ is9R ?_; with_reducible exact nR) | (refine wpList_store9 rfl 27 _ _ rfl (w.heap.size) rfl G rfl 27 F ?_ is9R ?_; exact hR2))
        go_roundw
        case measure => simp [intOf]; omega
        case rel => exact ⟨k + 1, G, by omega, by go_num, regB_row hR2 _, regB_row_other hZ2 _ (by omega), below_rowR bB2 _ (Nat.le_refl _), below_rowR b02 _ hw0, HS2.out⟩
      · go_wp2_with (first
          | (go_at_call 104; refine (hd _).mono ?_; rintro e w2 ⟨rfl, hb2⟩; have hR2 := regB_below nR hb2 (regB_lt nR); have hZ2 := regB_below nZ hb2 (regB_lt nZ); have bB2 := nb.trans (hb2.mono nb.size); have hR3 := regB_row hR2 G; have hZ3 := regB_row_other hZ2 (arr9 G) (show w.heap.size ≠ w.heap.size + 1 by omega))
          | (refine wpList_load9 rfl 27 _ rfl (w.heap.size) rfl 27 F ?_ is9R ?_; with_reducible exact nR) | (refine wpList_store9 rfl 27 _ _ rfl (w.heap.size) rfl G rfl 27 F ?_ is9R ?_; with_reducible exact hR2)
          | (refine wpList_load9 rfl 27 _ rfl (w.heap.size) rfl 27 G ?_ is9R ?_; with_reducible exact hR3) | (refine wpList_store9 rfl 27 _ _ rfl (w.heap.size + 1) rfl G rfl 27 (fun _ => 0) ?_ is9R ?_; with_reducible exact hZ3))
        refine bodyPost_ret (results9b rfl is9R (w.heap.size + 1) _ rfl (regB_row hZ3 G) _ rfl) rfl ⟨?_, below_rowR (below_rowR bB2 _ (Nat.le_refl _)) _ (by omega)⟩
        rw [HS2.out]
        rfl
    · obtain rfl : k = l.length := by omega
      have HS2 := Lib.hid (HSF.out.trans (by rw [List.drop_length]; rfl) : S = (F, false))
      clear HSF
      go_wp2_with (first
          | (refine wpList_load9 rfl 27 _ rfl (w.heap.size) rfl 27 F ?_ is9R ?_; with_reducible exact hR) | (refine wpList_store9 rfl 27 _ _ rfl (w.heap.size + 1) rfl F rfl 27 (fun _ => 0) ?_ is9R ?_; with_reducible exact hZ))
      refine bodyPost_ret (results9b rfl is9R (w.heap.size + 1) _ rfl (regB_row hZ F) _ rfl) rfl ⟨?_, below_rowR bB _ (by omega)⟩
      rw [HS2.out]
      rfl

theorem begun_any (c : Cp) (v0 v1 v2 v3 : Value) (d : Int) (w0 w : World) (h : cpuArg w0 v0 v1 v2 v3 c) (hb0 : Below w0.heap.size w0 w) :
    Calls Try.prog 93 #[.agg (cpu5 c.name v0 v1 v2 v3), .int .i64 d] w fun e w' => e = .returned (.int .i64 (begunV c d)) ∧ Below w.heap.size w w' := by
  obtain ⟨k0, bW, sW⟩ := boxes1 w (.cells (cpu5 c.name v0 v1 v2 v3) 25)
  have k0 : rowB _ _ _ _ := k0
  have hf := finds_any c.name v0 v1 v2 v3 c.instrs d w0 _ h.1 (hb0.trans (bW.mono hb0.size))
  obtain ⟨B, hB⟩ : ∃ B, B = begunV c d := ⟨_, rfl⟩
  rw [← hB]
  have HB := Lib.hid hB
  clear hB h hb0
  go_enter Try.func93, Try.ntmps93
  go_upto_region 1 with (fail)
  generalize w.alloc (.cells (cpu5 c.name v0 v1 v2 v3) 25) = w1 at *
  cases hs : (opIn d c.instrs).isSome
  · rw [hs] at hf
    have HV := Lib.hid (HB.out.trans (by unfold begunV; rw [hs]; rfl) : B = 259)
    go_wp2_with (first
      | (refine wpList_loadR rfl 25 _ rfl (w.heap.size) rfl 25 (cpu5 c.name v0 v1 v2 v3) ?_ agP ?_; with_reducible exact k0)
      | (go_at_call 103; refine hf.mono ?_; rintro e w2 ⟨u, rfl, hu, hb2⟩; have bB := bW.trans (hb2.mono bW.size); obtain ⟨ua, ucap, rfl, _, _⟩ := isArr_form hu; clear hu))
    go_ret
    exact ⟨by rw [HV.out]; rfl, bB⟩
  · rw [hs] at hf
    have HV := Lib.hid (HB.out.trans (by unfold begunV; rw [hs]; rfl) : B = if (cycIn d c.instrs).length = 0 then -1 else d)
    generalize cycIn d c.instrs = l at *
    by_cases hl : l.length = 0
    · obtain rfl : l = [] := List.eq_nil_of_length_eq_zero hl
      go_wp2_with (first
      | (refine wpList_loadR rfl 25 _ rfl (w.heap.size) rfl 25 (cpu5 c.name v0 v1 v2 v3) ?_ agP ?_; with_reducible exact k0)
      | (go_at_call 103; refine hf.mono ?_; rintro e w2 ⟨u, rfl, hu, hb2⟩; have bB := bW.trans (hb2.mono bW.size); obtain ⟨ua, ucap, rfl, _, _⟩ := isArr_form hu; clear hu))
      go_ret
      exact ⟨by rw [HV.out]; rfl, bB⟩
    · have HV2 := Lib.hid (HV.out.trans (if_neg hl))
      have hlb : ((l.length : Int) == 0) = false := beq_false_of_ne (by omega)
      go_wp2_with (first
      | (refine wpList_loadR rfl 25 _ rfl (w.heap.size) rfl 25 (cpu5 c.name v0 v1 v2 v3) ?_ agP ?_; with_reducible exact k0)
      | (go_at_call 103; refine hf.mono ?_; rintro e w2 ⟨u, rfl, hu, hb2⟩; have bB := bW.trans (hb2.mono bW.size); obtain ⟨ua, ucap, rfl, _, _⟩ := isArr_form hu; clear hu))
      go_ret
      exact ⟨by rw [HV2.out]; rfl, bB⟩

theorem stopped_any (f : Nat → Int) (op pl : Int) (n : Bool) (w : World) :
    Calls Try.prog 96 #[.agg (core12 f op pl n)] w fun e w' => e = .returned (.agg (if op = 259 then core12 f op pl n else core12 f (-1) 0 n)) ∧ Below w.heap.size w w' := by
  obtain ⟨Q, hQ⟩ : ∃ Q, Q = if op = 259 then core12 f op pl n else core12 f (-1) 0 n := ⟨_, rfl⟩
  rw [← hQ]
  have HQ := Lib.hid hQ
  clear hQ
  obtain ⟨k0, k1, bW, sW⟩ := boxes2 w (.cells (core12 f op pl n) 29) (.cells (core12 (fun _ => 0) 0 0 false) 29)
  have k0 : coreB _ _ _ _ _ _ _ := k0
  have k1 : coreB _ _ _ _ _ _ _ := k1
  have z9 := rowB_free k0 9
  have z10 := rowB_free k0 10
  have c9 := coreB_op k0
  have c10 := coreB_pl k0
  have k2 := coreB_setPl (coreB_setOp k0 (-1)) 0
  have k3 := rowB_other (rowB_other k1 ⟨w.heap.size, 9, none⟩ (.int .i64 (-1)) (by simp)) ⟨w.heap.size, 10, none⟩ (.int .i64 0) (by simp)
  have b2 := (bW.setCell (p := ⟨w.heap.size, 9, none⟩) (by simp) (.int .i64 (-1))).setCell (p := ⟨w.heap.size, 10, none⟩) (by simp) (.int .i64 0)
  go_enter Try.func96, Try.ntmps96
  go_upto_region 1 with (fail)
  change Code.wp _ _ _ _ ((w.alloc (.cells (core12 f op pl n) 29)).alloc (.cells (core12 (fun _ => 0) 0 0 false) 29))
  generalize (w.alloc (.cells (core12 f op pl n) 29)).alloc (.cells (core12 (fun _ => 0) 0 0 false) 29) = w1 at *
  by_cases ho : op = 259
  · subst ho
    have HO := Lib.hid (HQ.out.trans (if_pos rfl) : Q = core12 f 259 pl n)
    clear k2 k3 b2
    go_wp2_with (first
      | (refine wpList_loadR rfl 29 _ rfl (w.heap.size) rfl 29 (core12 f 259 pl n) ?_ agK ?_; with_reducible exact k0)
      | (refine wpList_storeR rfl 29 _ _ rfl (w.heap.size + 1) rfl (core12 f 259 pl n) rfl (core12_one _ _ _ _) 29 (core12 (fun _ => 0) 0 0 false) rfl ?_ agK ?_; with_reducible exact k1))
    exact bodyPost_ret (resultsR rfl (w.heap.size + 1) _ rfl (rowB_row k1 _) agK) rfl ⟨by rw [HO.out], below_rowR bW _ (by omega)⟩
  · have HO := Lib.hid (HQ.out.trans (if_neg ho) : Q = core12 f (-1) 0 n)
    have hob : (op == 259) = false := by simpa using ho
    have hoc : (op != 259) = true := by simpa using ho
    clear ho
    go_upto_region 3 with (fail)
    generalize (w1.setCell ⟨w.heap.size, 9, none⟩ (.int .i64 (-1))).setCell ⟨w.heap.size, 10, none⟩ (.int .i64 0) = w2 at *
    go_wp2_with (first
      | (refine wpList_loadR rfl 29 _ rfl (w.heap.size) rfl 29 (core12 f (-1) 0 n) ?_ agK ?_; with_reducible exact k2)
      | (refine wpList_storeR rfl 29 _ _ rfl (w.heap.size + 1) rfl (core12 f (-1) 0 n) rfl (core12_one _ _ _ _) 29 (core12 (fun _ => 0) 0 0 false) rfl ?_ agK ?_; with_reducible exact k3))
    refine bodyPost_ret (resultsR rfl (w.heap.size + 1) _ rfl (rowB_row k3 _) agK) rfl ⟨?_, below_rowR b2 _ (by omega)⟩
    rw [HO.out]
end Go.Proofs.Ythhihmggaddlmaa
