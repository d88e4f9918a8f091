/- Contracts of package table's searches among instructions. -/
import Derived.Test.YtnkplfimcehnmaaTabCheck
import Derived.Test.YtnkplfimcehnmaaTabNameT
import Derived.Test.YtnkplfimcehnmaaTabSame2
namespace Go.Proofs.Ytnkplfimcehnmaa
open Go.RowKit

def idxI (p : In → Bool) (l : List In) : Int := if l.findIdx p < l.length then (l.findIdx p : Int) else -1
theorem idxI_any (p : In → Bool) (l : List In) : decide (0 ≤ idxI p l) = l.any p := by
  rw [Bool.eq_iff_iff, List.any_eq_true, decide_eq_true_eq]
  unfold idxI
  rw [← List.findIdx_lt_length]
  split <;> simp_all
theorem idx_here {p : In → Bool} {l : List In} {k : Nat} {x : In} (hk : k ≤ l.findIdx p) (hx : l[k]? = some x) (hp : p x = true) : idxI p l = (k : Int) := by
  obtain ⟨hlt, he⟩ := List.getElem?_eq_some_iff.1 hx
  have h2 : l.findIdx p = k := by
    rcases Nat.lt_or_ge k (l.findIdx p) with h | h
    · have := List.not_of_lt_findIdx h
      rw [he, hp] at this
      cases this
    · omega
  unfold idxI
  rw [h2, if_pos hlt]
theorem idx_next {p : In → Bool} {l : List In} {k : Nat} {x : In} (hk : k ≤ l.findIdx p) (hx : l[k]? = some x) (hp : p x = false) : k + 1 ≤ l.findIdx p := by
  obtain ⟨hlt, he⟩ := List.getElem?_eq_some_iff.1 hx
  rcases Nat.lt_or_ge k (l.findIdx p) with h | h
  · exact h
  · have e : l.findIdx p = k := by omega
    have := List.findIdx_getElem (p := p) (xs := l) (w := by rw [e]; exact hlt)
    simp only [e, he, hp] at this
    cases this
theorem idx_none {p : In → Bool} {l : List In} (hk : l.length ≤ l.findIdx p) : idxI p l = -1 := by
  unfold idxI; rw [if_neg (by omega)]

/-- The library's search by a function that is handed over: what the function says of an element is p. -/
theorem indexFunc_at (fn : Nat) (caps : Array Value) (p : In → Bool) (v : Value) (l : List In) (w : World) (h : isArr 4 insR w v l) (hE : Enters Try.prog fn)
    (hc : ∀ (x : In) (cv : Value) (w' : World), Below w.heap.size w w' → isArr 4 cycleR w' cv x.cycles → Calls Try.prog fn (#[.agg #[.int .i64 x.op, .string x.name, .int .i64 x.mode, cv]] ++ caps) w' fun e w'' => e = .returned (.bool (p x)) ∧ Below w'.heap.size w' w'') :
    Calls Try.prog 55 #[v, .func (.func fn) #[] caps] w fun e w' => e = .returned (.int .i64 (idxI p l)) ∧ Below w.heap.size w w' := by
  obtain ⟨a, cap, rfl, hlen, hform⟩ := isArr_form h
  have hEn : ∀ (args : Array Value) (w : World), (callFunc fn args).run Try.prog w = .ok (.enter fn args) w := hE
  clear hE
  go_enter Try.func55, Try.ntmps55
  go_wp2_with fail
  go_loopw [8] (fun i wr => ∃ k : Nat, k ≤ l.length ∧ i = .int .i64 k ∧ k ≤ l.findIdx p ∧ Below w.heap.size w wr) (fun i _ => l.length - (intOf i).toNat)
  case atStart => exact ⟨0, Nat.zero_le _, rfl, Nat.zero_le _, Below.refl _ _⟩
  case round =>
    obtain ⟨k, hk, rfl, hF, hbel⟩ := hrel
    obtain ⟨wo, rfl⟩ : ∃ wo, wo = wr := ⟨_, rfl⟩
    have hsz := hbel.size
    by_cases hlt : k < l.length
    · obtain ⟨x, hx, _⟩ := drop_at hlt
      obtain ⟨b, off, rfl, hb, hcap, hcap2, cs, _, hcs, cv, rfl, hcy, _⟩ := hform k x hx
      obtain ⟨c0, c1, c2, c3⟩ := four_cells hcs
      rw [← hbel.cell (p := ⟨b, off + k * 4, none⟩) hb] at c0
      rw [← hbel.cell (p := ⟨b, off + k * 4 + 1, none⟩) hb] at c1
      rw [← hbel.cell (p := ⟨b, off + k * 4 + 2, none⟩) hb] at c2
      rw [← hbel.cell (p := ⟨b, off + k * 4 + 3, none⟩) hb] at c3
      have hC := hc x cv _ hbel (isArr_below cycle_keeps hcy hbel (Nat.le_refl _))
      obtain ⟨ca, ccap, rfl, _, _⟩ := isArr_form hcy
      cases hp : p x
      · rw [hp] at hC
        have HN := Lib.hid (idx_next hF hx hp)
        clear hF hx hcs hform hc hcy h hp
        go_wp2_with (with_reducible refine hC.mono ?_; rintro e w1 ⟨rfl, hb1⟩)
        go_roundw
        case rel => exact ⟨k + 1, by omega, by go_num, HN.out, hbel.trans (hb1.mono hsz)⟩
        case measure => simp [intOf]; omega
      · rw [hp] at hC
        have HN := Lib.hid (idx_here hF hx hp)
        clear hF hx hcs hform hc hcy h hp
        go_wp2_with (with_reducible refine hC.mono ?_; rintro e w1 ⟨rfl, hb1⟩)
        go_ret
        exact ⟨ret_int HN.out.symm, hbel.trans (hb1.mono hsz)⟩
    · obtain rfl : k = l.length := by omega
      have HN := Lib.hid (idx_none hF)
      clear hF hform hc h
      go_wp2_with fail
      go_ret
      exact ⟨ret_int HN.out.symm, hbel⟩

theorem containsFunc_at (fn : Nat) (caps : Array Value) (p : In → Bool) (v : Value) (l : List In) (w : World) (h : isArr 4 insR w v l) (hE : Enters Try.prog fn)
    (hc : ∀ (x : In) (cv : Value) (w' : World), Below w.heap.size w w' → isArr 4 cycleR w' cv x.cycles → Calls Try.prog fn (#[.agg #[.int .i64 x.op, .string x.name, .int .i64 x.mode, cv]] ++ caps) w' fun e w'' => e = .returned (.bool (p x)) ∧ Below w'.heap.size w' w'') :
    Calls Try.prog 29 #[v, .func (.func fn) #[] caps] w fun e w' => e = .returned (.bool (l.any p)) ∧ Below w.heap.size w w' := by
  rw [← idxI_any]
  have HI := Lib.hid (indexFunc_at fn caps p v l w h hE hc)
  clear hc hE h
  go_enter Try.func29, Try.ntmps29
  go_wp2_with (go_at_call 55; refine HI.out.mono ?_; rintro e w1 ⟨rfl, hb1⟩)
  go_ret
  exact ⟨rfl, hb1⟩

/-- The function that tells the instructions with a name and a mode. -/
theorem called_at (gm gn : Nat) (name : ByteArray) (mode : Int) (x : In) (cv : Value) (w : World) (hm : w.heap[gm]? = some (.cells #[.int .i64 mode] 3 (0, 0))) (hn : w.heap[gn]? = some (.cells #[.string name] 9 (0, 0))) (hcy : isArr 4 cycleR w cv x.cycles) :
    Calls Try.prog 65 #[.agg #[.int .i64 x.op, .string x.name, .int .i64 x.mode, cv], .pointer (some ⟨gm, 0, none⟩), .pointer (some ⟨gn, 0, none⟩)] w fun e w' =>
      e = .returned (.bool (decide (name = x.name) && decide (mode = x.mode))) ∧ Below w.heap.size w w' := by
  obtain ⟨op, xn, xm, cyc⟩ := x
  dsimp only at hcy ⊢
  have km := cell_of_row w gm 0 _ _ (0, 0) hm
  have kn := cell_of_row w gn 0 _ _ (0, 0) hn
  have lm : gm < w.heap.size := (Array.getElem?_eq_some_iff.1 hm).1
  have ln : gn < w.heap.size := (Array.getElem?_eq_some_iff.1 hn).1
  obtain ⟨ca, ccap, rfl, _, _⟩ := isArr_form hcy
  clear hm hn hcy
  by_cases e1 : mode = xm
  · subst e1
    by_cases e2 : name = xn
    · subst e2
      rw [decide_eq_true rfl, decide_eq_true rfl]
      go_enter Try.func65, Try.ntmps65
      go_wp2_with fail
      go_ret
      exact ⟨rfl, (Below.refl _ _).alloc (Nat.le_refl _) _⟩
    · have t : (xn.toList == name.toList) = false := bytes_ne (fun h => e2 h.symm)
      rw [decide_eq_false e2, Bool.false_and]
      go_enter Try.func65, Try.ntmps65
      go_wp2_with fail
      go_ret
      exact ⟨rfl, (Below.refl _ _).alloc (Nat.le_refl _) _⟩
  · have t : (xm == mode) = false := by simp; exact fun h => e1 h.symm
    rw [decide_eq_false e1, Bool.and_false]
    go_enter Try.func65, Try.ntmps65
    go_wp2_with fail
    go_ret
    exact ⟨rfl, (Below.refl _ _).alloc (Nat.le_refl _) _⟩

theorem called_mk (name : ByteArray) (mode : Int) (w : World) :
    Calls Try.prog 47 #[.string name, .int .i64 mode] w fun e w' =>
      e = .returned (.func (.func 65) #[] #[.pointer (some ⟨w.heap.size + 1, 0, none⟩), .pointer (some ⟨w.heap.size, 0, none⟩)]) ∧
      (w.alloc (.cells #[.string name] 9)).alloc (.cells #[.int .i64 mode] 3) = w' := by
  have hmf := mkFunc
  go_enter Try.func47, Try.ntmps47
  go_wp2_with fail
  go_ret
  exact ⟨rfl, rfl⟩
end Go.Proofs.Ytnkplfimcehnmaa
