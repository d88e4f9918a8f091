/- Contracts of the closures of the reference's Answered. -/
import Derived.Test.YthhihmggaddlmaaChecked
import Derived.Test.YthhihmggaddlmaaCoreSmall
import Derived.Test.YthhihmggaddlmaaTabIdx
import Derived.Below
import Derived.BigQuiet
import Derived.ChangeMaps5
import Derived.Deep.CutBlock
import Derived.Deep.DeepCutAuto
import Derived.Deep.Draws
import Derived.Deep.MidRow
import Derived.Deep.OwnRows
import Derived.Deep.QuietTactic
import Derived.Deep.RegionHeld3
import Derived.Deep.RegionLaw
import Derived.Deep.RegionWith
import Derived.Deep.Slices
import Derived.Deep.WholeRow
import Derived.Lib.Hide
import Derived.Lib.SmallJoins
import Derived.OpenShut
import Derived.OrdersHeld
import Derived.OwnWalk
import Derived.RowKit3
import Derived.Shelf.Abstract
import Derived.SizedLaws
import Derived.StillTactics
import Derived.StillTail
import Derived.StillTailTactics
import Derived.WalkKit
namespace Go.Proofs.Ythhihmggaddlmaa
open Go.RowKit
set_option maxRecDepth 100000

theorem mkFn (fn : Fn) (first cap : Array Value) (w : World) : (Instr.makeFunc fn first cap).run Try.prog w = .ok (.func fn first cap) w := rfl
theorem idle_any (f : Nat → Int) (op pl : Int) (n : Bool) (g : Nat) (w : World) (h : coreB w g 29 f op pl n) :
    Calls Try.prog 56 #[.pointer (some ⟨g, 0, none⟩)] w fun e w' => e = .returned (.agg (core12 f (-1) 0 n)) ∧ (∀ k t cs, k ≠ g → rowB w k t cs → rowB w' k t cs) ∧ ∀ B w0, Below B w0 w → B ≤ g → Below B w0 w' := by
  have lg := rowB_lt h
  have j0 := rowB_alloc h (.cells (core12 (fun _ => 0) 0 0 false) 29)
  have j1 := rowB_new w 29 (core12 (fun _ => 0) 0 0 false)
  have i0 := coreB_setPl (coreB_setOp j0 (-1)) 0
  have i1 := rowB_other (rowB_other j1 ⟨g, 9, none⟩ (.int .i64 (-1)) (by show g ≠ w.heap.size; omega)) ⟨g, 10, none⟩ (.int .i64 0) (by show g ≠ w.heap.size; omega)
  have HK := Lib.hid (fun (k : Nat) (t : TypeId) (cs : Array Value) (hk : k ≠ g) (hr : rowB w k t cs) => rowB_row_other (rowB_other (rowB_other (rowB_alloc hr (.cells (core12 (fun _ => 0) 0 0 false) 29)) ⟨g, 9, none⟩ (.int .i64 (-1)) (by show g ≠ k; omega)) ⟨g, 10, none⟩ (.int .i64 0) (by show g ≠ k; omega)) (core12 f (-1) 0 n) (by have := rowB_lt hr; omega : w.heap.size ≠ k))
  have HB := Lib.hid (fun (B : Nat) (w0 : World) (hb : Below B w0 w) (hB : B ≤ g) => below_rowR (((hb.alloc (by omega) (.cells (core12 (fun _ => 0) 0 0 false) 29)).setCell (p := ⟨g, 9, none⟩) hB (.int .i64 (-1))).setCell (p := ⟨g, 10, none⟩) hB (.int .i64 0)) (core12 f (-1) 0 n) (by omega : B ≤ w.heap.size))
  have z9 := rowB_free j0 9
  have z10 := rowB_free j0 10
  have c9 := coreB_op j0
  have c10 := coreB_pl j0
  go_enter Try.func56, Try.ntmps56
  go_upto_region 1 with (fail)
  change Code.wp _ _ _ _ (w.alloc (.cells (core12 (fun _ => 0) 0 0 false) 29))
  generalize w.alloc (.cells (core12 (fun _ => 0) 0 0 false) 29) = w1 at *
  go_upto_region 2 with (fail)
  generalize (w1.setCell ⟨g, 9, none⟩ (.int .i64 (-1))).setCell ⟨g, 10, none⟩ (.int .i64 0) = w2 at *
  go_wp2_with (first
      | (refine wpList_loadR rfl 29 _ rfl (g) rfl 29 (core12 f (-1) 0 n) ?_ agK ?_; with_reducible exact i0)
      | (refine wpList_storeR rfl 29 _ _ rfl (w.heap.size) rfl (core12 f (-1) 0 n) rfl (core12_one _ _ _ _) 29 (core12 (fun _ => 0) 0 0 false) rfl ?_ agK ?_; with_reducible exact i1))
  exact bodyPost_ret (resultsR rfl (w.heap.size) _ rfl (rowB_row i1 _) agK) rfl ⟨rfl, HK.out, HB.out⟩
theorem byteIs_any (g : Nat) (d : Int) (x : In) (cv : Value) (w : World) (hm : rowB w g 3 #[.int .i64 d]) (hcy : isArr 4 cycleR w cv x.cycles) :
    Calls Try.prog 58 #[.agg #[.int .i64 x.op, .string x.name, .int .i64 x.mode, cv], .pointer (some ⟨g, 0, none⟩)] w fun e w' => e = .returned (.bool (x.op == d)) ∧ Below w.heap.size w w' := by
  obtain ⟨xo, xn, xm, cyc⟩ := x
  dsimp only at hcy ⊢
  have km := rowB_cell hm 0 (v := .int .i64 d) rfl
  have lm : g < w.heap.size := rowB_lt hm
  obtain ⟨ca, ccap, rfl, _, _⟩ := isArr_form hcy
  clear hm hcy
  go_enter Try.func58, Try.ntmps58
  go_wp2_with fail
  go_ret
  exact ⟨rfl, (Below.refl _ _).alloc (Nat.le_refl _) _⟩
theorem idx_op (d : Int) (l : List In) : (idxI (fun x => x.op == d) l = -1 ∧ begunV ⟨ByteArray.empty, l, [], [], []⟩ d = 259) ∨
    ∃ (k : Nat) (x : In), idxI (fun x => x.op == d) l = (k : Int) ∧ l[k]? = some x ∧ k < l.length ∧ begunV ⟨ByteArray.empty, l, [], [], []⟩ d = if x.cycles.length = 0 then -1 else d := by
  have e : opIn d l = l[l.findIdx fun x => x.op == d]? := List.find?_eq_getElem?_findIdx
  unfold begunV idxI
  dsimp only
  by_cases h : (l.findIdx fun x => x.op == d) < l.length
  · obtain ⟨x, hx, _⟩ := drop_at h
    rw [hx] at e
    refine .inr ⟨_, x, if_pos h, hx, h, ?_⟩
    rw [e, if_neg (by simp)]
    have hc : cycIn d l = x.cycles := by unfold cycIn; rw [e]
    rw [hc]
  · rw [List.getElem?_eq_none (by omega)] at e
    refine .inl ⟨if_neg h, ?_⟩
    rw [e]
    rfl
end Go.Proofs.Ythhihmggaddlmaa
