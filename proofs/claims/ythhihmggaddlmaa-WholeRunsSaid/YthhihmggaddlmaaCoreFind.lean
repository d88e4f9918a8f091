/- Contracts of package core's find, cycles and asked. -/
import Derived.Test.YthhihmggaddlmaaChecked
import Derived.Test.YthhihmggaddlmaaCoreSmall
import Derived.Test.YthhihmggaddlmaaTabArg
import Derived.Below
import Derived.BigQuiet
import Derived.ChangeMaps5
import Derived.Deep.DeepCutAuto
import Derived.Deep.Draws
import Derived.Deep.MidRow
import Derived.Deep.OwnRows
import Derived.Deep.QuietTactic
import Derived.Deep.RegionHeld3
import Derived.Deep.RegionWith
import Derived.Deep.Slices
import Derived.Deep.WholeRow
import Derived.Lib.Hide
import Derived.Lib.SmallJoins
import Derived.OpenShut
import Derived.OrdersHeld
import Derived.OwnWalk
import Derived.RowKit3
import Derived.SizedLaws
import Derived.StillTactics
import Derived.StillTail
import Derived.StillTailTactics
import Derived.WalkKit
namespace Go.Proofs.Ythhihmggaddlmaa
open Go.RowKit
set_option maxRecDepth 100000

/-- The cells of an instruction's number and of its cycles, wherever the argument's memory is kept. -/
theorem ins_form {v : Value} {l : List In} {w : World} (h : isArr 4 insR w v l) : ∃ a cap, v = .slice a l.length cap ∧ (0 < l.length → l.length ≤ 9223372036854775807) ∧ ∀ (i : Nat) (x : In), l[i]? = some x → ∃ b off, a = some ⟨b, off, none⟩ ∧ ∃ u, (∀ w', Below w.heap.size w w' → w'.cell? ⟨b, off + i * 4, none⟩ = some (.int .i64 x.op) ∧ w'.cell? ⟨b, off + i * 4 + 3, none⟩ = some u) ∧ isArr 4 cycleR w u x.cycles := by
  obtain ⟨a, cap, rfl, hlen, hform⟩ := isArr_form h
  refine ⟨a, cap, rfl, hlen, fun i x hx => ?_⟩
  obtain ⟨b, off, rfl, hb, _, _, cs, _, hcs, u, rfl, hcy, _⟩ := hform i x hx
  obtain ⟨c0, c1, c2, c3⟩ := four_cells hcs
  exact ⟨b, off, rfl, u, fun w' hb' => ⟨(hb'.cell (p := ⟨b, off + i * 4, none⟩) hb).trans c0, (hb'.cell (p := ⟨b, off + i * 4 + 3, none⟩) hb).trans c3⟩, hcy⟩

set_option maxHeartbeats 2000000 in
theorem finds_any (nm : ByteArray) (v0 v1 v2 v3 : Value) (l : List In) (op : Int) (w0 w : World) (h : isArr 4 insR w0 v0 l) (hb0 : Below w0.heap.size w0 w) :
    Calls Try.prog 103 #[.agg (cpu5 nm v0 v1 v2 v3), .int .i64 op] w fun e w' => ∃ u, e = .returned (.tuple #[u, .bool (opIn op l).isSome]) ∧ isArr 4 cycleR w0 u (cycIn op l) ∧ Below w.heap.size w w' := by
  obtain ⟨k0, bW, sW⟩ := boxes1 w (.cells (cpu5 nm v0 v1 v2 v3) 25)
  have k0 : rowB _ _ _ _ := k0
  obtain ⟨a, cap, rfl, hlen, hform⟩ := ins_form h
  have e1 := rowB_cell k0 1 (v := .slice a l.length cap) rfl
  have HF := Lib.hid hform
  have b01 := hb0.trans (bW.mono hb0.size)
  clear h k0 hform hb0
  go_enter Try.func103, Try.ntmps103
  go_upto_region 1 with (fail)
  generalize w.alloc (.cells (cpu5 nm (.slice a l.length cap) v1 v2 v3) 25) = w1 at *
  go_wp2_with fail
  go_loopw [10] (fun i wr => ∃ k : Nat, k ≤ l.length ∧ i = .int .i64 k ∧ wr = w1 ∧ ∀ (j : Nat) (y : In), j < k → l[j]? = some y → y.op ≠ op) (fun i _ => l.length - (intOf i).toNat)
  case atStart => exact ⟨0, Nat.zero_le _, rfl, rfl, fun j y hj => (by cases hj)⟩
  case round =>
    obtain ⟨k, hk, rfl, rfl, hno⟩ := hrel
    have HN := Lib.hid hno
    clear hno
    by_cases hlt : k < l.length
    · obtain ⟨x, hx, _⟩ := drop_at hlt
      obtain ⟨b, off, rfl, u, hcell, hu⟩ := HF.out k x hx
      obtain ⟨d0, d3⟩ := hcell wr b01
      clear hcell
      have Hu := Lib.hid hu
      obtain ⟨ua, ucap, rfl, _, _⟩ := isArr_form hu
      clear hu
      by_cases hop : x.op = op
      · have ho : opIn op l = some x := opIn_at hx hop HN.out
        have hc : cycIn op l = x.cycles := by unfold cycIn; rw [ho]
        have HO := Lib.hid ho
        have HC := Lib.hid hc
        clear ho hc hx
        have hop2 : (x.op == op) = true := by simpa using hop
        go_wp2_with fail
        go_ret2
        exact ⟨_, by rw [HO.out]; rfl, by rw [HC.out]; exact Hu.out, bW⟩
      · have hop2 : (x.op == op) = false := by simpa using hop
        have HX := Lib.hid hx
        clear hx
        go_wp2_with fail
        go_roundw
        case measure => simp [intOf]; omega
        case rel =>
          refine ⟨k + 1, by omega, by go_num, (by first | rfl | trivial), fun j y hj hy => ?_⟩
          by_cases hjk : j = k
          · subst hjk
            have := HX.out
            rw [this] at hy
            injection hy with hy
            subst hy
            exact hop
          · exact HN.out j y (by omega) hy
    · have ho : opIn op l = none := opIn_none fun j y hy => HN.out j y (by have := (List.getElem?_eq_some_iff.1 hy).1; omega) hy
      have hc : cycIn op l = [] := by unfold cycIn; rw [ho]
      have HO := Lib.hid ho
      have HC := Lib.hid hc
      clear ho hc
      obtain rfl : k = l.length := by omega
      go_wp2_with fail
      go_ret2
      exact ⟨_, by rw [HO.out]; rfl, by rw [HC.out]; exact .inl ⟨_, _, rfl, rfl⟩, bW⟩

set_option maxHeartbeats 2000000 in
theorem cyclesC_any (c : Cp) (v0 v1 v2 v3 : Value) (op : Int) (w0 w : World) (h : cpuArg w0 v0 v1 v2 v3 c) (hb0 : Below w0.heap.size w0 w) :
    Calls Try.prog 94 #[.agg (cpu5 c.name v0 v1 v2 v3), .int .i64 op] w fun e w' => ∃ u, e = .returned u ∧ isArr 4 cycleR w0 u (cyclesOf c op) ∧ Below w.heap.size w w' := by
  obtain ⟨k0, bW, sW⟩ := boxes1 w (.cells (cpu5 c.name v0 v1 v2 v3) 25)
  have k0 : rowB _ _ _ _ := k0
  obtain ⟨h0, h1, h2, h3, _⟩ := h
  have hf := finds_any c.name v0 v1 v2 v3 c.instrs op w0 _ h0 (hb0.trans (bW.mono hb0.size))
  have H1 := Lib.hid h1
  have H2 := Lib.hid h2
  have H3 := Lib.hid h3
  obtain ⟨a1, p1, rfl, _, _⟩ := isArr_form h1
  obtain ⟨a2, p2, rfl, _, _⟩ := isArr_form h2
  obtain ⟨a3, p3, rfl, _, _⟩ := isArr_form h3
  have e2 := rowB_cell k0 2 (v := .slice a1 c.res.length p1) rfl
  have e3 := rowB_cell k0 3 (v := .slice a2 c.irq.length p2) rfl
  have e4 := rowB_cell k0 4 (v := .slice a3 c.nmi.length p3) rfl
  clear h0 h1 h2 h3
  have lo8 := fun n w => low_any n 8 w
  rw [show wd 8 = 8 from rfl] at lo8
  go_enter Try.func94, Try.ntmps94
  go_upto_region 1 with (fail)
  generalize w.alloc (.cells (cpu5 c.name v0 (.slice a1 c.res.length p1) (.slice a2 c.irq.length p2) (.slice a3 c.nmi.length p3)) 25) = w1 at *
  by_cases q6 : op = 256
  · have HC := Lib.hid (show cyclesOf c op = c.irq by unfold cyclesOf; rw [if_pos q6])
    have q6b : (op == 256) = true := by simpa using q6
    go_wp2_with fail
    go_ret
    exact ⟨_, rfl, by rw [HC.out]; exact H2.out, bW⟩
  have q6b : (op == 256) = false := by simpa using q6
  by_cases q7 : op = 257
  · have HC := Lib.hid (show cyclesOf c op = c.nmi by unfold cyclesOf; rw [if_neg q6, if_pos q7])
    have q7b : (op == 257) = true := by simpa using q7
    go_wp2_with fail
    go_ret
    exact ⟨_, rfl, by rw [HC.out]; exact H3.out, bW⟩
  have q7b : (op == 257) = false := by simpa using q7
  by_cases q8 : op = 258
  · have HC := Lib.hid (show cyclesOf c op = c.res by unfold cyclesOf; rw [if_neg q6, if_neg q7, if_pos q8])
    have q8b : (op == 258) = true := by simpa using q8
    go_wp2_with fail
    go_ret
    exact ⟨_, rfl, by rw [HC.out]; exact H1.out, bW⟩
  have q8b : (op == 258) = false := by simpa using q8
  by_cases q : lo op 8 = op
  · have HC := Lib.hid (show cyclesOf c op = cycIn op c.instrs by unfold cyclesOf; rw [if_neg q6, if_neg q7, if_neg q8, if_pos q])
    go_wp2_with (first
      | (go_at_call 61; refine (lo8 _ _).mono ?_; rintro e w' ⟨rfl, rfl⟩; rw [q])
      | (refine wpList_loadR rfl 25 _ rfl (w.heap.size) rfl 25 (cpu5 c.name v0 (.slice a1 c.res.length p1) (.slice a2 c.irq.length p2) (.slice a3 c.nmi.length p3)) ?_ agP ?_; with_reducible exact k0)
      | (go_at_call 103; refine hf.mono ?_; rintro e w2 ⟨u, rfl, hu, hb2⟩; have HU := Lib.hid hu; obtain ⟨ua, ucap, rfl, _, _⟩ := isArr_form hu; clear hu))
    go_ret
    exact ⟨_, rfl, by rw [HC.out]; exact HU.out, bW.trans (hb2.mono bW.size)⟩
  · have HC := Lib.hid (show cyclesOf c op = [] by unfold cyclesOf; rw [if_neg q6, if_neg q7, if_neg q8, if_neg q])
    have qb : (lo op 8 == op) = false := by simpa using q
    have qc : (lo op 8 != op) = true := by simpa using q
    go_wp2_with (go_at_call 61; refine (lo8 _ _).mono ?_; rintro e w' ⟨rfl, rfl⟩)
    go_ret
    exact ⟨_, rfl, by rw [HC.out]; exact .inl ⟨_, _, rfl, rfl⟩, bW⟩
end Go.Proofs.Ythhihmggaddlmaa
