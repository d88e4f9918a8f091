/- The contracts of the small makers of package std. -/
import Derived.Test.YtdiajkgebicnnaaArrOwn2
import Derived.Test.YtdiajkgebicnnaaChecked
import Derived.Test.YtdiajkgebicnnaaRow
import Derived.Test.YtdiajkgebicnnaaStdArr
import Derived.Test.YtdiajkgebicnnaaStdMath
import Derived.Below
import Derived.BigQuiet
import Derived.ChangeMaps5
import Derived.Deep.DeepAppendWide
import Derived.Deep.DeepCutAuto
import Derived.Deep.Draws
import Derived.Deep.MidRow
import Derived.Deep.OwnRows
import Derived.Deep.QuietTactic
import Derived.Deep.RegionWith
import Derived.Deep.Slices
import Derived.Deep.WholeRow
import Derived.Laws.OwnMore
import Derived.Lib.Hide
import Derived.Lib.SmallJoins
import Derived.OpenShut
import Derived.OwnWalk
import Derived.RowKit3
import Derived.WalkKit
namespace Go.Proofs.Ytdiajkgebicnnaa
set_option maxRecDepth 100000
open Go.RowKit

theorem below_laid1 (w : World) (o : Obj) : Below w.heap.size w (w.alloc o) := (Below.refl _ _).alloc (Nat.le_refl _) o
theorem below_step {w a b : World} (h : Below w.heap.size w a) (g : Below a.heap.size a b) : Below w.heap.size w b := h.trans (g.mono h.size)
theorem below_al {w a : World} (h : Below w.heap.size w a) (o : Obj) : Below w.heap.size w (a.alloc o) := h.alloc h.size o
def stRow (s : St) : List Value := [.int .i64 s.d, .int .i64 s.t, .int .i64 s.f, .int .i64 s.n]
theorem litR_steps : ∀ l : List St, litR 4 stepQ (l.map stRow) l
  | [] => trivial
  | _ :: l => ⟨rfl, rfl, litR_steps l⟩
theorem rows_len (l : List St) : l.length * 4 = ((l.map stRow).flatten).length := by
  induction l with
  | nil => rfl
  | cons s l ih => simp only [List.map_cons, List.flatten_cons, List.length_append, List.length_cons, ← ih, stRow, List.length_nil]; omega
theorem own_steps {w : World} {cells : Array Value} (l : List St) (hc : cells.toList = (l.map stRow).flatten) {n : Nat} (hn : n = l.length) (hm : n ≤ 1000) : stepsO w.heap.size (w.alloc (.cells cells 86)) (.slice (some ⟨w.heap.size, 0, none⟩) n n) l :=
  own_lit (l.map stRow) l (litR_steps l) (rows_len l) cells hc n hn hm w (Nat.le_refl _) _ _ rfl
theorem steps_built {w w' : World} {cells : Array Value} (hb : Below (w.alloc (.cells cells 86)).heap.size (w.alloc (.cells cells 86)) w') (l : List St) (hc : cells.toList = (l.map stRow).flatten) {n : Nat} (hn : n = l.length) (hm : n ≤ 1000) :
    stepsO w.heap.size w' (.slice (some ⟨w.heap.size, 0, none⟩) n n) l := stepsO_below (own_steps l hc hn hm) hb
def cyRow (p : Cy × Value) : List Value := [.int .i64 p.1.bus, .int .i64 p.1.place, .int .i64 p.1.reg, p.2]
/-- Each cycle has its steps. -/
def stepsAll (w : World) : List (Cy × Value) → Prop
  | [] => True
  | p :: l => (∃ lo, stepsO lo w p.2 p.1.steps) ∧ stepsAll w l
theorem litR_cycles (w : World) : ∀ l : List (Cy × Value), stepsAll w l → litR 4 (cycQ w) (l.map cyRow) (l.map Prod.fst)
  | [], _ => trivial
  | p :: l, ⟨⟨_, h⟩, g⟩ => ⟨rfl, ⟨p.2, rfl, ownArr_mono h (Nat.zero_le _)⟩, litR_cycles w l g⟩
theorem crows_len (l : List (Cy × Value)) : (l.map Prod.fst).length * 4 = ((l.map cyRow).flatten).length := by
  induction l with
  | nil => rfl
  | cons s l ih => simp only [List.map_cons, List.flatten_cons, List.length_append, List.length_cons, ← ih, cyRow, List.length_nil]; omega
theorem own_cycles {w : World} {cells : Array Value} (l : List (Cy × Value)) (h : stepsAll w l) (hc : cells.toList = (l.map cyRow).flatten) {n : Nat} (hn : n = l.length) (hm : n ≤ 1000) : cyclesO w.heap.size (w.alloc (.cells cells 84)) (.slice (some ⟨w.heap.size, 0, none⟩) n n) (l.map Prod.fst) :=
  ownArr_imp (own_lit (l.map cyRow) (l.map Prod.fst) (litR_cycles w l h) (crows_len l) cells hc n (by simpa using hn) hm w (Nat.le_refl _) _ _ rfl) fun _ _ q => cycQ_safe (T := fun _ => True) q (safe_alloc _ _ _) trivial
theorem cycles_built {w w' : World} {cells : Array Value} (hb : Below (w.alloc (.cells cells 84)).heap.size (w.alloc (.cells cells 84)) w') (l : List (Cy × Value)) (h : stepsAll w l) (hc : cells.toList = (l.map cyRow).flatten) {n : Nat} (hn : n = l.length) (hm : n ≤ 1000) :
    cyclesO w.heap.size w' (.slice (some ⟨w.heap.size, 0, none⟩) n n) (l.map Prod.fst) := cyclesO_below (own_cycles l h hc hn hm) hb
theorem nil_steps (w : World) : stepsO 0 w (.slice none 0 0) [] := ownArr_nil _ _ _ _ _

theorem agSt : isAg Try.prog 86 4 := ⟨⟨_, Try.underlying86, rfl⟩, by kernel_rfl⟩
theorem agCy : isAg Try.prog 84 4 := ⟨⟨_, Try.underlying84, rfl⟩, by kernel_rfl⟩
theorem with_std (d t f : Int) (w : World) :
    Calls Try.prog 117 #[.int .i64 d, .int .i64 t, .int .i64 f] w fun e w' => e = .returned (.agg #[.int .i64 d, .int .i64 t, .int .i64 f, .int .i64 0]) ∧ Below w.heap.size w w' := by
  go_enter Try.func117, Try.ntmps117
  go_wp2
  refine bodyPost_ret (resultsR rfl w.heap.size _ rfl (rowB_new w _ _) agSt) rfl ⟨rfl, below_laid1 _ _⟩
theorem on_std (d t : Int) (w : World) :
    Calls Try.prog 118 #[.int .i64 d, .int .i64 t] w fun e w' => e = .returned (.agg #[.int .i64 d, .int .i64 t, .int .i64 0, .int .i64 0]) ∧ Below w.heap.size w w' := by
  go_enter Try.func118, Try.ntmps118
  go_wp2
  refine bodyPost_ret (resultsR rfl w.heap.size _ rfl (rowB_new w _ _) agSt) rfl ⟨rfl, below_laid1 _ _⟩
theorem literal_std (t n : Int) (w : World) :
    Calls Try.prog 124 #[.int .i64 t, .int .i64 n] w fun e w' => e = .returned (.agg #[.int .i64 2, .int .i64 t, .int .i64 0, .int .i64 n]) ∧ Below w.heap.size w w' := by
  go_enter Try.func124, Try.ntmps124
  go_wp2
  refine bodyPost_ret (resultsR rfl w.heap.size _ rfl (rowB_new w _ _) agSt) rfl ⟨rfl, below_laid1 _ _⟩
theorem flag_std (d n : Int) (w : World) :
    Calls Try.prog 119 #[.int .i64 d, .int .i64 n] w fun e w' => e = .returned (.agg #[.int .i64 d, .int .i64 0, .int .i64 0, .int .i64 n]) ∧ Below w.heap.size w w' := by
  go_enter Try.func119, Try.ntmps119
  go_wp2
  refine bodyPost_ret (resultsR rfl w.heap.size _ rfl (rowB_new w _ _) agSt) rfl ⟨rfl, below_laid1 _ _⟩
theorem read_std (p r : Int) (a : Option Addr) (n c : Nat) (w : World) :
    Calls Try.prog 121 #[.int .i64 p, .int .i64 r, .slice a n c] w fun e w' => e = .returned (.agg #[.int .i64 1, .int .i64 p, .int .i64 r, .slice a n c]) ∧ Below w.heap.size w w' := by
  go_enter Try.func121, Try.ntmps121
  go_wp2
  refine bodyPost_ret (resultsR rfl w.heap.size _ rfl (rowB_new w _ _) agCy) rfl ⟨rfl, below_laid1 _ _⟩
theorem write_std (p r : Int) (a : Option Addr) (n c : Nat) (w : World) :
    Calls Try.prog 120 #[.int .i64 p, .int .i64 r, .slice a n c] w fun e w' => e = .returned (.agg #[.int .i64 2, .int .i64 p, .int .i64 r, .slice a n c]) ∧ Below w.heap.size w w' := by
  go_enter Try.func120, Try.ntmps120
  go_wp2
  refine bodyPost_ret (resultsR rfl w.heap.size _ rfl (rowB_new w _ _) agCy) rfl ⟨rfl, below_laid1 _ _⟩
theorem quiet_std (a : Option Addr) (n c : Nat) (w : World) :
    Calls Try.prog 116 #[.slice a n c] w fun e w' => e = .returned (.agg #[.int .i64 0, .int .i64 0, .int .i64 0, .slice a n c]) ∧ Below w.heap.size w w' := by
  go_enter Try.func116, Try.ntmps116
  go_wp2
  refine bodyPost_ret (resultsR rfl w.heap.size _ rfl (rowB_new w _ _) agCy) rfl ⟨rfl, below_laid1 _ _⟩
theorem jump_std (r : Int) (w : World) :
    Calls Try.prog 122 #[.int .i64 r] w fun e w' => ∃ a n c, e = .returned (.slice a n c) ∧ stepsO w.heap.size w' (.slice a n c) (jumpS r) ∧ Below w.heap.size w w' := by
  go_enter Try.func122, Try.ntmps122
  go_wp2_with (go_at_call_of 117 (Value.int .i64 18); refine (with_std _ _ _ _).mono ?_)
  rintro e w1 ⟨rfl, h1⟩
  go_wp2_with (go_at_call_of 117 (Value.int .i64 19); refine (with_std _ _ _ _).mono ?_)
  rintro e w2 ⟨rfl, h2⟩
  go_wp2_with fail
  go_ret
  have c := below_step h1 h2
  exact ⟨_, _, _, rfl, stepsO_mono (own_steps (jumpS r) rfl rfl (by decide)) c.size, below_al c _⟩
theorem zero_std (w : World) :
    Calls Try.prog 157 #[] w fun e w' => ∃ a n c, e = .returned (.slice a n c) ∧ stepsO w.heap.size w' (.slice a n c) zeroS ∧ Below w.heap.size w w' := by
  go_enter Try.func157, Try.ntmps157
  go_wp2_with (go_at_call 124; refine (literal_std _ _ _).mono ?_)
  rintro e w1 ⟨rfl, h1⟩
  go_wp2_with (go_at_call 117; refine (with_std _ _ _ _).mono ?_)
  rintro e w2 ⟨rfl, h2⟩
  go_wp2_with fail
  go_ret
  have c := below_step h1 h2
  exact ⟨_, _, _, rfl, stepsO_mono (own_steps zeroS rfl rfl (by decide)) c.size, below_al c _⟩

theorem infoSt : ∃ i, Try.prog.info? 86 = some i ∧ i.zero = some (.agg #[.int .i64 0, .int .i64 0, .int .i64 0, .int .i64 0]) ∧ i.size = 4 ∧ i.bytes = 32 := by
  have h : (Try.prog.info? 86).map (fun i => (i.zero, i.size, i.bytes)) = some (some (.agg #[.int .i64 0, .int .i64 0, .int .i64 0, .int .i64 0]), 4, 32) := by kernel_rfl
  cases hh : Try.prog.info? 86 with
  | none => rw [hh] at h; cases h
  | some i => rw [hh] at h; simp only [Option.map_some, Option.some.injEq, Prod.mk.injEq] at h; exact ⟨i, rfl, h⟩
theorem infoCy : ∃ i, Try.prog.info? 84 = some i ∧ i.zero = some (.agg #[.int .i64 0, .int .i64 0, .int .i64 0, .slice none 0 0]) ∧ i.size = 4 ∧ i.bytes = 48 := by
  have h : (Try.prog.info? 84).map (fun i => (i.zero, i.size, i.bytes)) = some (some (.agg #[.int .i64 0, .int .i64 0, .int .i64 0, .slice none 0 0]), 4, 48) := by kernel_rfl
  cases hh : Try.prog.info? 84 with
  | none => rw [hh] at h; cases h
  | some i => rw [hh] at h; simp only [Option.map_some, Option.some.injEq, Prod.mk.injEq] at h; exact ⟨i, rfl, h⟩
section
variable {w : World} {ops : Array Oper} {rest : List Oper} {o : Oper} {a : Act} {Q : Exit → Act → World → Prop}
theorem wpList_steps (hgd : o.guard = none) (s x : Operand) (ho : o.op = .call { callee := .builtin .append, args := #[s, x], argTypes := #[82, 82] })
    (B lo : Nat) (v u : Value) (hs : a.eval s = v) (hx : a.eval x = u) (l m : List St) (hown : stepsO B w v l) (harr : stepsO lo w u m) (hl : l.length + m.length ≤ 1000) (hB : B ≤ w.heap.size)
    (h : ∀ (a' : Option Addr) (n c : Nat) w', stepsO B w' (.slice a' n c) (l ++ m) → Below B w w' → wpList Try.prog ops Q rest (a.put o.dst (.slice a' n c)) w') : wpList Try.prog ops Q (o :: rest) a w := by
  obtain ⟨i, i1, i2, i3, i4⟩ := infoSt
  refine wpList_append_arr2 hgd s x 82 ho 86 4 32 i _ Try.underlying82 i1 i2 i3 i4 rfl (by decide) stepQ_one B v u hs hx l m hown (ownArr_isArr harr) (by unfold maxLen; omega) (by omega) hB ?_
  intro v' w' h1 h2
  obtain ⟨a', c', rfl⟩ := own_slice h1
  exact h _ _ _ _ h1 (own_grown hown h2 hB)
theorem wpList_cycles (hgd : o.guard = none) (s x : Operand) (ho : o.op = .call { callee := .builtin .append, args := #[s, x], argTypes := #[68, 68] })
    (B lo : Nat) (v u : Value) (hs : a.eval s = v) (hx : a.eval x = u) (l m : List Cy) (hown : cyclesO B w v l) (harr : cyclesO lo w u m) (hl : l.length + m.length ≤ 1000) (hB : B ≤ w.heap.size)
    (h : ∀ (a' : Option Addr) (n c : Nat) w', cyclesO B w' (.slice a' n c) (l ++ m) → Below B w w' → wpList Try.prog ops Q rest (a.put o.dst (.slice a' n c)) w') : wpList Try.prog ops Q (o :: rest) a w := by
  obtain ⟨i, i1, i2, i3, i4⟩ := infoCy
  refine wpList_append_arr2 hgd s x 68 ho 84 4 48 i _ Try.underlying68 i1 i2 i3 i4 rfl (by decide) (cycQ_one w) B v u hs hx l m hown (ownArr_isArr harr) (by unfold maxLen; omega) (by omega) hB ?_
  intro v' w' h1 h2
  obtain ⟨a', c', rfl⟩ := own_slice h1
  exact h _ _ _ _ (ownArr_imp h1 fun _ _ q => cycQ_safe (T := fun e => e ≠ 84) q (own_safe hown h2 (by simp)) (by decide)) (own_grown hown h2 hB)
end
end Go.Proofs.Ytdiajkgebicnnaa
