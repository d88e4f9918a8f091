/- The library's search by a function that is handed over, among instructions. -/
import Derived.Test.YthhihmggaddlmaaChecked
import Derived.Test.YthhihmggaddlmaaQuiet
import Derived.Test.YthhihmggaddlmaaTabIns
import Derived.Below
import Derived.BigQuiet
import Derived.ChangeMaps5
import Derived.Deep.Draws
import Derived.Deep.OwnRows
import Derived.Deep.QuietTactic
import Derived.Deep.Slices
import Derived.Lib.Hide
import Derived.Lib.SmallJoins
import Derived.OpenShut
import Derived.OwnWalk
import Derived.RowKit3
import Derived.Shelf.Abstract
import Derived.SizedLaws
import Derived.WalkKit
namespace Go.Proofs.Ythhihmggaddlmaa
open Go.RowKit

def idxI (p : In → Bool) (l : List In) : Int := if l.findIdx p < l.length then (l.findIdx p : Int) else -1
theorem idxI_any (p : In → Bool) (l : List In) : decide (0 ≤ idxI p l) = l.any p := by
  rw [Bool.eq_iff_iff, List.any_eq_true, decide_eq_true_eq]
  unfold idxI
  rw [← List.findIdx_lt_length]
  split <;> simp_all
theorem idx_here {p : In → Bool} {l : List In} {k : Nat} {x : In} (hk : k ≤ l.findIdx p) (hx : l[k]? = some x) (hp : p x = true) : idxI p l = (k : Int) := by
  obtain ⟨hlt, he⟩ := List.getElem?_eq_some_iff.1 hx
  have h2 : l.findIdx p = k := by
    rcases Nat.lt_or_ge k (l.findIdx p) with h | h
    · have := List.not_of_lt_findIdx h
      rw [he, hp] at this
      cases this
    · omega
  unfold idxI
  rw [h2, if_pos hlt]
theorem idx_next {p : In → Bool} {l : List In} {k : Nat} {x : In} (hk : k ≤ l.findIdx p) (hx : l[k]? = some x) (hp : p x = false) : k + 1 ≤ l.findIdx p := by
  obtain ⟨hlt, he⟩ := List.getElem?_eq_some_iff.1 hx
  rcases Nat.lt_or_ge k (l.findIdx p) with h | h
  · exact h
  · have e : l.findIdx p = k := by omega
    have := List.findIdx_getElem (p := p) (xs := l) (w := by rw [e]; exact hlt)
    simp only [e, he, hp] at this
    cases this
theorem idx_none {p : In → Bool} {l : List In} (hk : l.length ≤ l.findIdx p) : idxI p l = -1 := by
  unfold idxI; rw [if_neg (by omega)]

/-- The library's search by a function that is handed over: what the function says of an element is p. -/
theorem indexFunc_at (fn : Nat) (caps : Array Value) (p : In → Bool) (v : Value) (l : List In) (w : World) (h : isArr 4 insR w v l) (hE : Enters Try.prog fn)
    (hc : ∀ (x : In) (cv : Value) (w' : World), Below w.heap.size w w' → isArr 4 cycleR w' cv x.cycles → Calls Try.prog fn (#[.agg #[.int .i64 x.op, .string x.name, .int .i64 x.mode, cv]] ++ caps) w' fun e w'' => e = .returned (.bool (p x)) ∧ Below w'.heap.size w' w'') :
    Calls Try.prog 57 #[v, .func (.func fn) #[] caps] w fun e w' => e = .returned (.int .i64 (idxI p l)) ∧ Below w.heap.size w w' := by
  obtain ⟨a, cap, rfl, hlen, hform⟩ := isArr_form h
  have hEn : ∀ (args : Array Value) (w : World), (callFunc fn args).run Try.prog w = .ok (.enter fn args) w := hE
  clear hE
  go_enter Try.func57, Try.ntmps57
  go_wp2_with fail
  go_loopw [8] (fun i wr => ∃ k : Nat, k ≤ l.length ∧ i = .int .i64 k ∧ k ≤ l.findIdx p ∧ Below w.heap.size w wr) (fun i _ => l.length - (intOf i).toNat)
  case atStart => exact ⟨0, Nat.zero_le _, rfl, Nat.zero_le _, Below.refl _ _⟩
  case round =>
    obtain ⟨k, hk, rfl, hF, hbel⟩ := hrel
    obtain ⟨wo, rfl⟩ : ∃ wo, wo = wr := ⟨_, rfl⟩
    have hsz := hbel.size
    by_cases hlt : k < l.length
    · obtain ⟨x, hx, _⟩ := drop_at hlt
      obtain ⟨b, off, rfl, hb, hcap, hcap2, cs, _, hcs, cv, rfl, hcy, _⟩ := hform k x hx
      obtain ⟨c0, c1, c2, c3⟩ := four_cells hcs
      rw [← hbel.cell (p := ⟨b, off + k * 4, none⟩) hb] at c0
      rw [← hbel.cell (p := ⟨b, off + k * 4 + 1, none⟩) hb] at c1
      rw [← hbel.cell (p := ⟨b, off + k * 4 + 2, none⟩) hb] at c2
      rw [← hbel.cell (p := ⟨b, off + k * 4 + 3, none⟩) hb] at c3
      have hC := hc x cv _ hbel (isArr_below cycle_keeps hcy hbel (Nat.le_refl _))
      obtain ⟨ca, ccap, rfl, _, _⟩ := isArr_form hcy
      cases hp : p x
      · rw [hp] at hC
        have HN := Lib.hid (idx_next hF hx hp)
        clear hF hx hcs hform hc hcy h hp
        go_wp2_with (with_reducible refine hC.mono ?_; rintro e w1 ⟨rfl, hb1⟩)
        go_roundw
        case rel => exact ⟨k + 1, by omega, by go_num, HN.out, hbel.trans (hb1.mono hsz)⟩
        case measure => simp [intOf]; omega
      · rw [hp] at hC
        have HN := Lib.hid (idx_here hF hx hp)
        clear hF hx hcs hform hc hcy h hp
        go_wp2_with (with_reducible refine hC.mono ?_; rintro e w1 ⟨rfl, hb1⟩)
        go_ret
        exact ⟨ret_int HN.out.symm, hbel.trans (hb1.mono hsz)⟩
    · obtain rfl : k = l.length := by omega
      have HN := Lib.hid (idx_none hF)
      clear hF hform hc h
      go_wp2_with fail
      go_ret
      exact ⟨ret_int HN.out.symm, hbel⟩
end Go.Proofs.Ythhihmggaddlmaa
