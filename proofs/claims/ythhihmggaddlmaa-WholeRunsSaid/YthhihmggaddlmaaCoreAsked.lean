/- The contract of package core's asked. -/
import Derived.Test.YthhihmggaddlmaaChecked
import Derived.Test.YthhihmggaddlmaaCoreFind
import Derived.Below
import Derived.BigQuiet
import Derived.ChangeMaps5
import Derived.Deep.DeepCutAuto
import Derived.Deep.Draws
import Derived.Deep.MidRow
import Derived.Deep.OwnRows
import Derived.Deep.QuietTactic
import Derived.Deep.RegionHeld3
import Derived.Deep.RegionWith
import Derived.Deep.Slices
import Derived.Deep.WholeRow
import Derived.Lib.Hide
import Derived.Lib.SmallJoins
import Derived.OpenShut
import Derived.OrdersHeld
import Derived.OwnWalk
import Derived.RowKit3
import Derived.SizedLaws
import Derived.StillTactics
import Derived.StillTail
import Derived.StillTailTactics
import Derived.WalkKit
namespace Go.Proofs.Ythhihmggaddlmaa
open Go.RowKit
set_option maxRecDepth 100000

/-- The cells of a cycle, wherever the argument's memory is kept. -/
theorem cyc_form {v : Value} {l : List Cy} {w : World} (h : isArr 4 cycleR w v l) : ∃ a cap, v = .slice a l.length cap ∧ (0 < l.length → l.length ≤ 9223372036854775807) ∧ ∀ (i : Nat) (x : Cy), l[i]? = some x → ∃ b off, a = some ⟨b, off, none⟩ ∧ ∃ sa sc, (∀ w', Below w.heap.size w w' → w'.cell? ⟨b, off + i * 4, none⟩ = some (.int .i64 x.bus) ∧ w'.cell? ⟨b, off + i * 4 + 1, none⟩ = some (.int .i64 x.place) ∧ w'.cell? ⟨b, off + i * 4 + 2, none⟩ = some (.int .i64 x.reg) ∧ w'.cell? ⟨b, off + i * 4 + 3, none⟩ = some (.slice sa x.steps.length sc)) ∧ isArr 4 stepR w (.slice sa x.steps.length sc) x.steps := by
  obtain ⟨a, cap, rfl, hlen, hform⟩ := isArr_form h
  refine ⟨a, cap, rfl, hlen, fun i x hx => ?_⟩
  obtain ⟨b, off, rfl, hb, _, _, cs, _, hcs, u, rfl, hst⟩ := hform i x hx
  obtain ⟨c0, c1, c2, c3⟩ := four_cells hcs
  obtain ⟨sa, sc, rfl, _, _⟩ := isArr_form hst
  exact ⟨b, off, rfl, sa, sc, fun w' hb' => ⟨(hb'.cell (p := ⟨b, off + i * 4, none⟩) hb).trans c0, (hb'.cell (p := ⟨b, off + i * 4 + 1, none⟩) hb).trans c1, (hb'.cell (p := ⟨b, off + i * 4 + 2, none⟩) hb).trans c2, (hb'.cell (p := ⟨b, off + i * 4 + 3, none⟩) hb).trans c3⟩, hst⟩
set_option maxHeartbeats 2000000 in
theorem askedC_any (c : Cp) (v0 v1 v2 v3 : Value) (f : Nat → Int) (op pl : Int) (n : Bool) (w0 w : World) (h : cpuArg w0 v0 v1 v2 v3 c) (hb0 : Below w0.heap.size w0 w) :
    Calls Try.prog 89 #[.agg (cpu5 c.name v0 v1 v2 v3), .agg (core12 f op pl n)] w fun e w' => ∃ sa sc, e = .returned (.agg (cyc4 (doneC c op pl).bus (doneC c op pl).place (doneC c op pl).reg (.slice sa (doneC c op pl).steps.length sc))) ∧ isArr 4 stepR w0 (.slice sa (doneC c op pl).steps.length sc) (doneC c op pl).steps ∧ Below w.heap.size w w' := by
  obtain ⟨k0, k1, k2, bW, sW⟩ := boxes3 w (.cells (cpu5 c.name v0 v1 v2 v3) 25) (.cells (core12 f op pl n) 29) (.cells (cyc4 0 0 0 (.slice none 0 0)) 84)
  have k0 : rowB _ _ _ _ := k0
  have k1 : coreB _ _ _ _ _ _ _ := k1
  have k2 : rowB _ _ _ _ := k2
  have hcy := cyclesC_any c v0 v1 v2 v3 op w0 _ h (hb0.trans (bW.mono hb0.size))
  have cop := coreB_op k1
  obtain ⟨X, hX⟩ : ∃ X, X = doneC c op pl := ⟨_, rfl⟩
  rw [← hX]
  have HXD := Lib.hid hX
  have b01 := hb0.trans (bW.mono hb0.size)
  clear h hX hb0
  go_enter Try.func89, Try.ntmps89
  go_upto_region 1 with (fail)
  change Code.wp _ _ _ _ (((w.alloc (.cells (cpu5 c.name v0 v1 v2 v3) 25)).alloc (.cells (core12 f op pl n) 29)).alloc (.cells (cyc4 0 0 0 (.slice none 0 0)) 84))
  generalize ((w.alloc (.cells (cpu5 c.name v0 v1 v2 v3) 25)).alloc (.cells (core12 f op pl n) 29)).alloc (.cells (cyc4 0 0 0 (.slice none 0 0)) 84) = w1 at *
  by_cases hop : op = -1
  · have HD := Lib.hid (show doneC c op pl = ⟨1, 0, 0, []⟩ by unfold doneC; rw [if_pos hop])
    have hopb : (op == -1) = true := by simpa using hop
    go_wp2_with (refine wpList_storeR rfl 84 _ _ rfl (w.heap.size + 2) rfl (cyc4 1 0 0 (.slice none 0 0)) rfl (cyc4_one _ _ _ _ _ _) 84 (cyc4 0 0 0 (.slice none 0 0)) rfl ?_ agC ?_; with_reducible exact k2)
    refine bodyPost_ret (resultsR rfl (w.heap.size + 2) _ rfl (rowB_row k2 _) agC) rfl ?_
    rw [HXD.out.trans HD.out]
    exact ⟨_, _, rfl, .inl ⟨_, _, rfl, rfl⟩, below_rowR bW _ (by omega)⟩
  · have HXE := Lib.hid (HXD.out.trans (show doneC c op pl = cycAt (cyclesOf c op) pl by unfold doneC; rw [if_neg hop]))
    clear HXD
    have hopb : (op == -1) = false := by simpa using hop
    generalize cyclesOf c op = l at *
    go_upto_region 4 with (first
      | (refine wpList_loadR rfl 25 _ rfl (w.heap.size) rfl 25 (cpu5 c.name v0 v1 v2 v3) ?_ agP ?_; with_reducible exact k0)
      | (go_at_call 94; refine hcy.mono ?_; rintro e w2 ⟨u, rfl, hu, hb2⟩; have j0 := rowB_below k0 hb2 (rowB_lt k0); have j1 := rowB_below k1 hb2 (rowB_lt k1); have j2 := rowB_below k2 hb2 (rowB_lt k2); have bj := bW.trans (hb2.mono bW.size); have b02 := b01.trans (hb2.mono b01.size); have HU := Lib.hid hu; obtain ⟨ua, ucap, rfl, _, hform⟩ := cyc_form hu; have HF := Lib.hid hform; clear hu hform hcy))
    clear k0 k1 k2 bW cop hb2
    have jop := coreB_pl j1
    cases hcur : curB l pl
    · have HX := Lib.hid (show cycAt l pl = ⟨0, 0, 0, []⟩ by unfold cycAt; rw [hcur]; rfl)
      go_wp2_with (first
      | (refine wpList_loadR rfl 29 _ rfl (w.heap.size + 1) rfl 29 (core12 f op pl n) ?_ agK ?_; with_reducible exact j1)
      | (go_at_call 95; refine (current_any _ _ _ _ _ _ _ _).mono ?_; rintro e w3 ⟨rfl, hb3⟩; rw [show (decide (0 ≤ pl) && decide (pl < (l.length : Int))) = false from hcur]; have i2 := rowB_below j2 hb3 (rowB_lt j2); have bi := bj.trans (hb3.mono bj.size))
      | (refine wpList_storeR rfl 84 _ _ rfl (w.heap.size + 2) rfl (cyc4 0 0 0 (.slice none 0 0)) rfl (cyc4_one _ _ _ _ _ _) 84 (cyc4 0 0 0 (.slice none 0 0)) rfl ?_ agC ?_; with_reducible exact i2))
      refine bodyPost_ret (resultsR rfl (w.heap.size + 2) _ rfl (rowB_row i2 _) agC) rfl ?_
      rw [HXE.out.trans HX.out]
      exact ⟨_, _, rfl, .inl ⟨_, _, rfl, rfl⟩, below_rowR bi _ (by omega)⟩
    · obtain ⟨h1, h2⟩ : 0 ≤ pl ∧ pl < (l.length : Int) := by
        unfold curB at hcur
        simpa using hcur
      obtain ⟨k, rfl⟩ : ∃ k : Nat, pl = (k : Int) := ⟨pl.toNat, by omega⟩
      have hk : k < l.length := by omega
      obtain ⟨x, hx, _⟩ := drop_at hk
      have HX := Lib.hid (show cycAt l (k : Int) = x by unfold cycAt; rw [if_pos hcur, Int.toNat_natCast, List.getD_eq_getElem?_getD, hx]; rfl)
      obtain ⟨b, off, rfl, sa, sc, hcell, hst⟩ := HF.out k x hx
      have HS := Lib.hid hst
      have HCL := Lib.hid hcell
      clear hst hcell hx
      go_wp2_with (first
      | (refine wpList_loadR rfl 29 _ rfl (w.heap.size + 1) rfl 29 (core12 f op k n) ?_ agK ?_; with_reducible exact j1)
      | (go_at_call 95; refine (current_any _ _ _ _ _ _ _ _).mono ?_; rintro e w3 ⟨rfl, hb3⟩; rw [show (decide (0 ≤ (k : Int)) && decide ((k : Int) < (l.length : Int))) = true from hcur]; have i1 := rowB_below j1 hb3 (rowB_lt j1); have ipl := coreB_pl i1; have i2 := rowB_below j2 hb3 (rowB_lt j2); have bi := bj.trans (hb3.mono bj.size); obtain ⟨x0, x1, x2, x3⟩ := HCL.out w3 (b02.trans (hb3.mono b02.size)))
      | (refine wpList_storeR rfl 84 _ _ rfl (w.heap.size + 2) rfl (cyc4 x.bus x.place x.reg (.slice sa x.steps.length sc)) rfl (cyc4_one _ _ _ _ _ _) 84 (cyc4 0 0 0 (.slice none 0 0)) rfl ?_ agC ?_; with_reducible exact i2))
      refine bodyPost_ret (resultsR rfl (w.heap.size + 2) _ rfl (rowB_row i2 _) agC) rfl ?_
      rw [HXE.out.trans HX.out]
      exact ⟨sa, sc, rfl, HS.out, below_rowR bi _ (by omega)⟩
end Go.Proofs.Ythhihmggaddlmaa
