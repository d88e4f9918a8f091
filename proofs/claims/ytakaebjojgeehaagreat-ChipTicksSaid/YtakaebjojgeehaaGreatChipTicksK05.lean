/- A part of the proof of ChipTicks: Dev, Regs, SerMath, DevNum, PortMask. -/
import Derived.Test.YtakaebjojgeehaaGreatChipTicksK01
import Derived.Test.YtakaebjojgeehaaGreatChipTicksK02
import Derived.Test.YtakaebjojgeehaaGreatChipTicksK04
import Derived.Below
import Derived.BigQuiet
import Derived.ChangeMaps5
import Derived.Deep.DeepCutAuto
import Derived.Deep.Draws
import Derived.Deep.MidRow
import Derived.Deep.OwnRows
import Derived.Deep.QuietTactic
import Derived.Deep.RegionHeld3
import Derived.Deep.RegionWith
import Derived.Deep.Slices
import Derived.Deep.WholeRow
import Derived.Lib.Hide
import Derived.Lib.SmallJoins
import Derived.OpenShut
import Derived.OrdersHeld
import Derived.OwnWalk
import Derived.RowKit3
import Derived.StillTactics
import Derived.StillTail
import Derived.StillTailTactics
import Derived.Test.YtakaebjojgeehaaGreatChecked
import Derived.WalkKit
namespace Go.Proofs.YtakaebjojgeehaaGreat
open Go.RowKit Go.ChangeShapes Go.WideShapes
set_option maxRecDepth 100000
theorem agDv : isAg Tryz.prog 27 2 := ⟨⟨_, Tryz.underlying27, rfl⟩, by kernel_rfl⟩
theorem dev2_one (a b : Option Addr) (n m c d : Nat) : (#[.slice a n c, .slice b m d] : Array Value).all (·.oneCell') = true := by simp [Value.oneCell']
/-- A slice of numbers that came in. -/
theorem isArg_form {w : World} {v : Value} {l : List Int} (h : isArg w v l) :
    ∃ a cap, v = .slice a l.length cap ∧ ∀ m, m < l.length → ∃ b off, a = some ⟨b, off, none⟩ ∧ b < w.heap.size ∧ l.length ≤ cap ∧ cap ≤ 9223372036854775807 ∧ w.cell? ⟨b, off + m, none⟩ = some (.int .i64 (l.getD m 0)) := by
  rcases h with ⟨a, cap, rfl, rfl⟩ | ⟨b, off, cap, rfl, h1, h2, h3, h4⟩
  · exact ⟨a, cap, rfl, fun m hm => absurd hm (Nat.not_lt_zero _)⟩
  · exact ⟨_, cap, rfl, fun m hm => ⟨b, off, rfl, h1, h2, h3, h4 m hm⟩⟩
/-- A state that a call has made: its numbers in a row of its own, no bytes. -/
def devO (lo : Nat) (w : World) (v : Value) (l : List Int) : Prop :=
  ∃ g, v = .agg #[.slice (some ⟨g, 0, none⟩) l.length l.length, .slice none 0 0] ∧ lo ≤ g ∧ rowB w g 3 (l.map (Value.int .i64)).toArray
theorem numB_arg {w : World} {g : Nat} {l : List Int} (h : rowB w g 3 (l.map (Value.int .i64)).toArray) (hl : l.length ≤ 9223372036854775807) : isArg w (.slice (some ⟨g, 0, none⟩) l.length l.length) l := by
  refine .inr ⟨g, 0, l.length, rfl, rowB_lt h, Nat.le_refl _, hl, fun j hj => ?_⟩
  rw [Nat.zero_add]
  refine rowB_cell h j ?_
  simp [List.getD_eq_getElem?_getD, List.getElem?_eq_getElem hj]
theorem devO.below {lo : Nat} {w w' : World} {v : Value} {l : List Int} (h : devO lo w v l) (hb : Below w.heap.size w w') : devO lo w' v l := by
  obtain ⟨g, e, hg, hr⟩ := h
  exact ⟨g, e, hg, rowB_below hr hb (rowB_lt hr)⟩
theorem devO.mono {lo hi : Nat} {w : World} {v : Value} {l : List Int} (h : devO lo w v l) (hl : hi ≤ lo) : devO hi w v l := by
  obtain ⟨g, e, hg, hr⟩ := h
  exact ⟨g, e, Nat.le_trans hl hg, hr⟩
/-- Two results, the first one a struct in a variable. -/
theorem resultsRT {P : Program} {fn : Func} {p q : Tmp} {ty : TypeId} (h : fn.results = #[.cell p ty, .tmp q])
    (g : Nat) (tmps : Array Value) (hp : tmps.getD p undef = .pointer (some ⟨g, 0, none⟩)) {w : World} {t : TypeId} {cs : Array Value} (hb : rowB w g t cs) (h9 : isAg P ty cs.size) {u : Value} (hq : tmps.getD q undef = u) :
    (results fn tmps).run P w = .ok (.tuple #[.agg cs, u]) w := by
  obtain ⟨⟨d, hu, hd⟩, hi⟩ := h9
  have hl := run_loadVar_row (P := P) w g t ty cs (0, 0) _ hb hu (by cases d <;> simp_all) hi
  rw [Array.getD_eq_getD_getElem?] at hp hq
  simp only [results, h]
  simp [hp, hq, asAddr, hl]
/-- The cells of a row of two, of four. -/
theorem dcells2 {w : World} {g : Nat} {t : TypeId} {a b : Value} (h : rowB w g t #[a, b]) : w.cell? ⟨g, 0, none⟩ = some a ∧ w.cell? ⟨g, 1, none⟩ = some b ∧ w.frozen? ⟨g, 0, none⟩ = false ∧ w.frozen? ⟨g, 1, none⟩ = false :=
  ⟨rowB_cell h 0 rfl, rowB_cell h 1 rfl, rowB_free h 0, rowB_free h 1⟩
theorem dcells4 {w : World} {g : Nat} {t : TypeId} {a b c d : Value} (h : rowB w g t #[a, b, c, d]) : w.cell? ⟨g, 0, none⟩ = some a ∧ w.cell? ⟨g, 1, none⟩ = some b ∧ w.cell? ⟨g, 2, none⟩ = some c ∧ w.cell? ⟨g, 3, none⟩ = some d ∧ w.frozen? ⟨g, 0, none⟩ = false ∧ w.frozen? ⟨g, 1, none⟩ = false ∧ w.frozen? ⟨g, 2, none⟩ = false ∧ w.frozen? ⟨g, 3, none⟩ = false :=
  ⟨rowB_cell h 0 rfl, rowB_cell h 1 rfl, rowB_cell h 2 rfl, rowB_cell h 3 rfl, rowB_free h 0, rowB_free h 1, rowB_free h 2, rowB_free h 3⟩
end Go.Proofs.YtakaebjojgeehaaGreat
namespace Go.Proofs.YtakaebjojgeehaaGreat
open Go.RowKit
section
variable {w : World} {g : Nat} {t : TypeId} {f : Nat → Int}
end
theorem below_rowR {B g : Nat} {a w : World} (h : Below B a w) (c : Array Value) (hg : B ≤ g) : Below B a (w.setRow g c) := by
  refine h.trans ⟨rfl, rfl, rfl, by simp [World.setRow], fun k hk => ?_⟩
  simp only [World.setRow, Array.getElem?_modify]
  rw [if_neg (by omega)]

end Go.Proofs.YtakaebjojgeehaaGreat
namespace Go.Proofs.YtakaebjojgeehaaGreat
open Go.RowKit
/-- A serial chip's numbers: the byte being sent, the cycles left, the byte received, is there one, was one lost, control, how many sent, the last one. -/
structure Sr where (d c r t o k n z : Int)
def Sr.of (l : List Int) : Sr := ⟨lo (l.getD 0 0) 8, lo (l.getD 1 0) 6, lo (l.getD 2 0) 8, lo (l.getD 3 0) 1, lo (l.getD 4 0) 1, lo (l.getD 5 0) 2, lo (l.getD 6 0) 20, lo (l.getD 7 0) 8⟩
def Sr.cs (s : Sr) : Array Value := #[.int .i64 s.d, .int .i64 s.c, .int .i64 s.r, .int .i64 s.t, .int .i64 s.o, .int .i64 s.k, .int .i64 s.n, .int .i64 s.z]
def Sr.ns (s : Sr) : List Int := [s.d, s.c, s.r, s.t, s.o, s.k, s.n, s.z]
structure Sr.fit (s : Sr) : Prop where
  d : 0 ≤ s.d ∧ s.d < 256
  c : 0 ≤ s.c ∧ s.c < 64
  r : 0 ≤ s.r ∧ s.r < 256
  t : 0 ≤ s.t ∧ s.t < 2
  o : 0 ≤ s.o ∧ s.o < 2
  k : 0 ≤ s.k ∧ s.k < 4
  n : 0 ≤ s.n ∧ s.n < 1048576
  z : 0 ≤ s.z ∧ s.z < 256
theorem Sr.of_fit (l : List Int) : (Sr.of l).fit :=
  ⟨⟨lo_nonneg _ _, lo_lt _ _⟩, ⟨lo_nonneg _ _, lo_lt _ _⟩, ⟨lo_nonneg _ _, lo_lt _ _⟩, ⟨lo_nonneg _ _, lo_lt _ _⟩, ⟨lo_nonneg _ _, lo_lt _ _⟩, ⟨lo_nonneg _ _, lo_lt _ _⟩, ⟨lo_nonneg _ _, lo_lt _ _⟩, ⟨lo_nonneg _ _, lo_lt _ _⟩⟩
theorem Sr.of_ns {s : Sr} (h : s.fit) : Sr.of s.ns = s := by
  obtain ⟨d, c, r, t, o, k, n, z⟩ := s
  obtain ⟨h1, h2, h3, h4, h5, h6, h7, h8⟩ := h
  dsimp only at *
  show Sr.mk (lo d 8) (lo c 6) (lo r 8) (lo t 1) (lo o 1) (lo k 2) (lo n 20) (lo z 8) = _
  rw [show lo d 8 = d from lo_of h1.1 h1.2, show lo c 6 = c from lo_of h2.1 h2.2, show lo r 8 = r from lo_of h3.1 h3.2, show lo t 1 = t from lo_of h4.1 h4.2, show lo o 1 = o from lo_of h5.1 h5.2, show lo k 2 = k from lo_of h6.1 h6.2, show lo n 20 = n from lo_of h7.1 h7.2, show lo z 8 = z from lo_of h8.1 h8.2]
def Sr.status (s : Sr) : Int := s.t + 2 * (if 0 < s.c then 1 else 0) + 4 * s.o
def Sr.reg (s : Sr) (a : Int) : Int := if a = 0 then s.r else if a = 1 then s.status else if a = 2 then s.k else 0
def Sr.read (s : Sr) (a : Int) : Sr := if a = 0 then ⟨s.d, s.c, s.r, 0, s.o, s.k, s.n, s.z⟩ else if a = 1 then ⟨s.d, s.c, s.r, s.t, 0, s.k, s.n, s.z⟩ else s
def Sr.write (s : Sr) (a d : Int) : Sr := if a = 0 then (if 0 < s.c then s else ⟨lo d 8, 40, s.r, s.t, s.o, s.k, s.n, s.z⟩) else if a = 2 then ⟨s.d, s.c, s.r, s.t, s.o, lo d 2, s.n, s.z⟩ else s
def Sr.out (s : Sr) : Int := s.n * 256 + s.z
def Sr.next (s : Sr) : Int := if 0 < s.c then s.c - 1 else 100000
/-- So many cycles at once. -/
def Sr.skip (s : Sr) (j : Int) : Sr :=
  if 0 < j ∧ 0 < s.c then
    if j < s.c then ⟨s.d, s.c - j, s.r, s.t, s.o, s.k, s.n, s.z⟩ else ⟨s.d, 0, s.r, s.t, s.o, s.k, lo (s.n + 1) 20, s.d⟩
  else s
theorem srZero : (0 : Int) ≤ 0 ∧ (0 : Int) < 2 := by decide
theorem srNone : (0 : Int) ≤ 0 ∧ (0 : Int) < 64 := by decide
theorem srForty : (0 : Int) ≤ 40 ∧ (40 : Int) < 64 := by decide
theorem Sr.skip_none {s : Sr} {j : Int} (h : ¬ (0 < j ∧ 0 < s.c)) : s.skip j = s := if_neg h
theorem Sr.skip_down {s : Sr} {j : Int} (h0 : 0 ≤ j) (hc : j < s.c) : s.skip j = ⟨s.d, s.c - j, s.r, s.t, s.o, s.k, s.n, s.z⟩ := by
  unfold Sr.skip
  split
  · rfl
  · have e : j = 0 := by omega
    obtain ⟨d, c, r, t, o, k, n, z⟩ := s
    dsimp only at *
    rw [e, Int.sub_zero]
theorem Sr.skip_sent {s : Sr} {j : Int} (h0 : 0 < s.c) (hc : s.c ≤ j) : s.skip j = ⟨s.d, 0, s.r, s.t, s.o, s.k, lo (s.n + 1) 20, s.d⟩ := by
  unfold Sr.skip
  rw [if_pos ⟨by omega, h0⟩, if_neg (by omega)]
theorem Sr.write_fit {s : Sr} (h : s.fit) (a d : Int) : (s.write a d).fit := by
  unfold Sr.write
  split
  · split
    · exact h
    · exact ⟨⟨lo_nonneg _ _, lo_lt _ _⟩, srForty, h.r, h.t, h.o, h.k, h.n, h.z⟩
  · split
    · exact ⟨h.d, h.c, h.r, h.t, h.o, ⟨lo_nonneg _ _, lo_lt _ _⟩, h.n, h.z⟩
    · exact h
theorem Sr.read_fit {s : Sr} (h : s.fit) (a : Int) : (s.read a).fit := by
  unfold Sr.read
  split
  · exact ⟨h.d, h.c, h.r, srZero, h.o, h.k, h.n, h.z⟩
  · split
    · exact ⟨h.d, h.c, h.r, h.t, srZero, h.k, h.n, h.z⟩
    · exact h
theorem Sr.skip_fit {s : Sr} (h : s.fit) (j : Int) : (s.skip j).fit := by
  have hc := h.c
  unfold Sr.skip
  split
  · split
    · exact ⟨h.d, by dsimp only; omega, h.r, h.t, h.o, h.k, h.n, h.z⟩
    · exact ⟨h.d, srNone, h.r, h.t, h.o, h.k, ⟨lo_nonneg _ _, lo_lt _ _⟩, h.d⟩
  · exact h
theorem Sr.skip_succ {s : Sr} (hs : s.fit) (n : Int) (hn : 0 ≤ n) : (s.skip n).skip 1 = s.skip (n + 1) := by
  have hc := hs.c
  by_cases h0 : 0 < s.c
  · rcases (by omega : n + 1 < s.c ∨ n + 1 = s.c ∨ s.c ≤ n) with h | h | h
    · rw [Sr.skip_down hn (by omega), Sr.skip_down (s := ⟨s.d, s.c - n, s.r, s.t, s.o, s.k, s.n, s.z⟩) (by decide) (by show 1 < s.c - n; omega), Sr.skip_down (by omega) h]
      exact congrArg (fun x => Sr.mk s.d x s.r s.t s.o s.k s.n s.z) (by show s.c - n - 1 = _; omega)
    · rw [Sr.skip_down hn (by omega), Sr.skip_sent (s := ⟨s.d, s.c - n, s.r, s.t, s.o, s.k, s.n, s.z⟩) (by show 0 < s.c - n; omega) (by show s.c - n ≤ 1; omega), Sr.skip_sent h0 (by omega)]
    · rw [Sr.skip_sent h0 h, Sr.skip_sent h0 (show s.c ≤ n + 1 by omega)]
      exact Sr.skip_none (by show ¬ (_ ∧ (0 : Int) < 0); omega)
  · rw [show s.skip n = s from Sr.skip_none (by omega), show s.skip 1 = s from Sr.skip_none (by omega), show s.skip (n + 1) = s from Sr.skip_none (by omega)]
/-- So many cycles, one by one. -/
def Sr.ticks (s : Sr) : Nat → Sr
  | 0 => s
  | n + 1 => (s.ticks n).skip 1
theorem Sr.ticks_skip {s : Sr} (hs : s.fit) (n : Nat) : s.ticks n = s.skip n := by
  induction n with
  | zero => exact (Sr.skip_none (by omega)).symm
  | succ n ih => rw [Sr.ticks, ih, Sr.skip_succ hs n (by omega)]; rfl
theorem Sr.ticks_fit {s : Sr} (hs : s.fit) (n : Nat) : (s.ticks n).fit := by rw [Sr.ticks_skip hs]; exact Sr.skip_fit hs _
/-- The bits of the registers as the walks print them. -/
theorem srOr (t o : Int) (ht : 0 ≤ t ∧ t < 2) (ho : 0 ≤ o ∧ o < 2) : bits .or .i64 t (o * 4) = t + 4 * o ∧ bits .or .i64 (t + 4 * o) 2 = t + 2 + 4 * o := by
  rcases (by omega : t = 0 ∨ t = 1) with rfl | rfl <;> rcases (by omega : o = 0 ∨ o = 1) with rfl | rfl <;> decide
end Go.Proofs.YtakaebjojgeehaaGreat
namespace Go.Proofs.YtakaebjojgeehaaGreat
open Go.RowKit
set_option maxRecDepth 100000
theorem devNumber_any (v vm : Value) (l : List Int) (k : Nat) (b : Int) (w : World) (h : isArg w v l) :
    Calls Tryz.prog 124 #[.agg #[v, vm], .int .i64 k, .int .i64 b] w fun e w' => e = .returned (.int .i64 (lo (l.getD k 0) (wd b))) ∧ Below w.heap.size w w' := by
  obtain ⟨a, cap, rfl, hf⟩ := isArg_form h
  have hk0 : decide ((k : Int) < 0) = false := decide_eq_false (by omega)
  have b0 := (boxes1 w (.cells #[.slice a l.length cap, vm] 27)).2.1
  by_cases hk : k < l.length
  · obtain ⟨g, off, rfl, hg, h1, h2, hc⟩ := hf k hk
    have hd : decide ((l.length : Int) ≤ (k : Int)) = false := by simp; omega
    generalize l.getD k 0 = x at *
    go_enter Tryz.func124, Tryz.ntmps124
    go_wp2_with (go_at_call 83; refine (low_any _ _ _).mono ?_; rintro e w' ⟨rfl, rfl⟩)
    go_ret
    exact ⟨rfl, b0⟩
  · have hd : decide ((l.length : Int) ≤ (k : Int)) = true := by simp; omega
    have e : l.getD k 0 = 0 := by rw [List.getD_eq_getElem?_getD, List.getElem?_eq_none (by omega)]; rfl
    have e2 : lo 0 (wd b) = 0 := by unfold lo; exact Int.zero_emod _
    rw [e, e2]
    go_enter Tryz.func124, Tryz.ntmps124
    go_wp2_with fail
    go_ret
    exact ⟨rfl, b0⟩

end Go.Proofs.YtakaebjojgeehaaGreat
namespace Go.Proofs.YtakaebjojgeehaaGreat
open Go.RowKit
set_option maxRecDepth 100000
theorem getBit (n : Int) (k : Nat) (h : k < 8) : lo (n / 2 ^ wd (k : Int)) (fz (k : Int) 1) = n / 2 ^ k % 2 := by
  rw [wd_of k (by omega), show fz (k : Int) 1 = 1 by unfold fz; rw [wd_of k (by omega)]; omega]
  rfl
theorem getBit_any (k : Nat) (h : k < 8) (n : Int) (w : World) : Calls Tryz.prog 112 #[.int .i64 n, .int .i64 k, .int .i64 1] w fun e w' => e = .returned (.int .i64 (n / 2 ^ k % 2)) ∧ w = w' := by
  have := get_any n k 1 w
  rw [getBit n k h] at this
  exact this
end Go.Proofs.YtakaebjojgeehaaGreat
