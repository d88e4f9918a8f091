/- Contracts of package table's Find and Named. -/
import Derived.Below
import Derived.BigQuiet
import Derived.Deep.QuietTactic
import Derived.Lib.Bytealg
import Derived.Lib.IndexAny
import Derived.RowKit3
import Derived.WalkKit
import Derived.Test.YtdiajkgebicnnaaChecked
import Derived.Test.YtdiajkgebicnnaaTabMath
import Derived.ChangeMaps5
import Derived.Deep.Draws
import Derived.Deep.OwnRows
import Derived.Deep.Slices
import Derived.DeepKeys4
import Derived.KernelRfl
import Derived.Lib.Hide
import Derived.Lib.SmallJoins
import Derived.Maps.Keyed
import Derived.Maps.OwnSet
import Derived.Maps.Views
import Derived.OpenShut
import Derived.OwnWalk
import Derived.Carry
import Derived.Deep.DeepCutAuto
import Derived.Deep.RegionWith
import Derived.Lib.Walk
import Derived.StillTailTactics
import Derived.Laws.StructEq
import Derived.SizedLaws
import Derived.Test.YtdiajkgebicnnaaArrOwn
import Derived.Deep.DeepAppendWide
import Derived.Deep.RegionHeld
import Derived.Deep.RegionHeld3
import Derived.Deep.RegionLaw
import Derived.Laws.OwnMore
import Derived.Lib.SliceRun
import Derived.Shelf.Abstract
import Derived.Test.YtdiajkgebicnnaaQuiet
import Derived.Deep.AppendLies
import Derived.Test.YtdiajkgebicnnaaTabIns
import Derived.Test.YtdiajkgebicnnaaTabArg
namespace Go.Proofs.Ytdiajkgebicnnaa
open Go.RowKit

def lowB (n : Nat) : Bool := decide (97 ≤ n) && decide (n ≤ 122)
def chB (n : Nat) : Bool := lowB n || (decide (48 ≤ n) && decide (n ≤ 57)) || n == 45
/-- The first k bytes are such as a name may have. -/
def okName (s : ByteArray) (k : Nat) : Bool := (s.data.toList.take k).all fun b => chB b.toNat
def nameB (s : ByteArray) : Bool := decide (1 ≤ s.size) && decide (s.size ≤ 20) && lowB (s.data.toList.headD 0).toNat && okName s s.size

theorem name_none (s : ByteArray) (h : s.size < 1) : nameB s = false := by unfold nameB; rw [show decide (1 ≤ s.size) = false from decide_eq_false (by omega)]; rfl
theorem name_long (s : ByteArray) (h : 20 < s.size) : nameB s = false := by
  unfold nameB; rw [show decide (s.size ≤ 20) = false from decide_eq_false (by omega)]; simp
theorem byte_at (s : ByteArray) (k : Nat) (h : k < s.size) : s.data.toList[k]? = some s[k] := by
  have h' : k < s.data.toList.length := by simpa using h
  rw [List.getElem?_eq_getElem h']; rfl
theorem head_at (s : ByteArray) (h : 0 < s.size) : s.data.toList.headD 0 = s[0] := by
  have := byte_at s 0 h
  cases e : s.data.toList with
  | nil => rw [e] at this; simp at this
  | cons b l => rw [e] at this; simpa using this
theorem name_first (s : ByteArray) (h : 0 < s.size) (hl : lowB s[0].toNat = false) : nameB s = false := by
  unfold nameB; rw [head_at s h, hl]; simp
theorem name_rest (s : ByteArray) (h : 0 < s.size) (h2 : s.size ≤ 20) (hl : lowB s[0].toNat = true) : nameB s = okName s s.size := by
  unfold nameB; rw [head_at s h, hl, decide_eq_true h2, show decide (1 ≤ s.size) = true from decide_eq_true (by omega)]; simp
theorem okB_succ (s : ByteArray) (k : Nat) (h : k < s.size) : okName s (k + 1) = (okName s k && chB s[k].toNat) := by
  unfold okName
  rw [List.take_add_one, byte_at s k h, List.all_append]; simp
theorem okB_false (s : ByteArray) (k : Nat) (h : k < s.size) (hc : chB s[k].toNat = false) : okName s s.size = false := by
  unfold okName
  rw [Bool.eq_false_iff]
  intro hh
  rw [List.all_eq_true] at hh
  have hm : s[k] ∈ s.data.toList.take s.size := by
    have := byte_at s k h
    rw [List.take_of_length_le (by simp)]
    exact List.mem_of_getElem? this
  have := hh _ hm
  rw [hc] at this
  cases this

theorem byte_all {p q : UInt8 → Bool} (h : ∀ n : Fin 256, p (UInt8.ofNat n) = q (UInt8.ofNat n)) (b : UInt8) : p b = q b := by
  have := h ⟨b.toNat, b.toNat_lt⟩
  simpa using this
theorem at_letters (b : UInt8) : decide (0 ≤ Lib.indexByte [97, 98, 99, 100, 101, 102, 103, 104, 105, 106, 107, 108, 109, 110, 111, 112, 113, 114, 115, 116, 117, 118, 119, 120, 121, 122] ((b.toNat : Int)).toNat.toUInt8) = lowB b.toNat := by
  have e : ((b.toNat : Int)).toNat.toUInt8 = b := by simp
  rw [e, ← Lib.contains_iff_indexByte]
  exact byte_all (p := fun b => List.contains [97, 98, 99, 100, 101, 102, 103, 104, 105, 106, 107, 108, 109, 110, 111, 112, 113, 114, 115, 116, 117, 118, 119, 120, 121, 122] b) (q := fun b => lowB b.toNat) (by decide +kernel) b
theorem at_signs (b : UInt8) : decide (0 ≤ Lib.indexByte [97, 98, 99, 100, 101, 102, 103, 104, 105, 106, 107, 108, 109, 110, 111, 112, 113, 114, 115, 116, 117, 118, 119, 120, 121, 122, 48, 49, 50, 51, 52, 53, 54, 55, 56, 57, 45] ((b.toNat : Int)).toNat.toUInt8) = chB b.toNat := by
  have e : ((b.toNat : Int)).toNat.toUInt8 = b := by simp
  rw [e, ← Lib.contains_iff_indexByte]
  exact byte_all (p := fun b => List.contains [97, 98, 99, 100, 101, 102, 103, 104, 105, 106, 107, 108, 109, 110, 111, 112, 113, 114, 115, 116, 117, 118, 119, 120, 121, 122, 48, 49, 50, 51, 52, 53, 54, 55, 56, 57, 45] b) (q := fun b => chB b.toNat) (by decide +kernel) b
end Go.Proofs.Ytdiajkgebicnnaa
namespace Go.Proofs.Ytdiajkgebicnnaa
open Go.RowKit Go.Maps

def keyL (x : In) : Lit := .string (keyBytes [.string x.name.data.toList, .int .i64 x.mode])
def keyV (x : In) : Value := .agg #[.string x.name, .int .i64 x.mode]
theorem laidOutT : laidOutB Try.prog = true := by kernel_rfl
theorem sizeT : ∃ m, Try.prog.types.size = m + 1 := ⟨Try.prog.types.size - 1, by
  have : decide (0 < Try.prog.types.size) = true := by kernel_rfl
  have := of_decide_eq_true this
  omega⟩
theorem lits_string {P : Program} {t : TypeId} (h : P.underlying t = some .string) (d : Nat) (s : ByteArray) (hs : s.size ≤ 9223372036854775807) : P.keyLits (d + 1) t [.string s] = some [.string s.data.toList] := by
  unfold Program.keyLits; rw [h]; simp [maxLen, hs]
theorem lits_int {P : Program} {t : TypeId} (h : P.underlying t = some (.int .i64)) (d : Nat) (n : Int) (hn : (Lit.int .i64 n).wf = true) : P.keyLits (d + 1) t [.int .i64 n] = some [.int .i64 n] := by
  unfold Program.keyLits; rw [h]; simp [hn]
def sameKey (x y : In) : Bool := decide (x.name = y.name) && decide (x.mode = y.mode)
def seenF (D : DataW Unit) (l : List In) : DataW Unit := l.foldl (fun D x => D.put (keyL x) (.lit (.bool true))) D
def seenD (l : List In) : DataW Unit := seenF (.map []) l
theorem seenD_snoc (l : List In) (x : In) : seenD (l ++ [x]) = (seenD l).put (keyL x) (.lit (.bool true)) := by simp [seenD, seenF, List.foldl_append]
theorem put_isMap {D : DataW Unit} (h : IsMap D) (k : Lit) (d : DataW Unit) : IsMap (D.put k d) := by obtain ⟨es, rfl⟩ := h; exact ⟨_, rfl⟩
theorem keyL_key (x : In) : WideAt.IsKeyLit (keyL x) := trivial
/-- 'm[k]' of a map of bools, at the operation. -/
theorem wpList_lookup_own_bool {H : Type} {P : Program} (w : World) {ops : Array Oper} {rest : List Oper} {o : Oper} {a : Act} {Q : Exit → Act → World → Prop}
    (hg : o.guard = none) (m x : Operand) (t : TypeId) (hop : o.op = Op.lookup t m x false)
    (k e : TypeId) (K : Keyed P k) (ht : P.underlying t = some (.map k e)) (he : P.underlying e = some .bool) (hz : (zeroValue e).run P w = .ok (.bool false) w) (b n : Nat) (D : DataW H)
    (hm : a.eval m = .map (some b)) (hown : w.ownsMap P k (plainElem P e) b n D) (key : Value) (kl : Lit) (hx : a.eval x = key) (hkey : keyOf P k key = some kl) (r : Bool) (hr : D.atKey kl (.lit (.bool false)) = .lit (.bool r))
    (hK : wpList P ops Q rest (a.put o.dst (.bool r)) w) :
    wpList P ops Q (o :: rest) a w := by
  refine wpList_plain hg fun K' hK' => ?_
  obtain ⟨v, ps, hrun, hv⟩ := hown.lookup K ht hz (plainElem_bool he false) hkey
  rw [hr] at hv
  have hvb : v = .bool r := by
    unfold plainElem at hv
    rw [he] at hv
    cases v <;> simp at hv
    rw [hv.1]
  subst hvb
  unfold Oper.wp
  simp [execOp, hop, hm, hx, hrun, Result.andThen]
  exact hK' _ _ hK
end Go.Proofs.Ytdiajkgebicnnaa
namespace Go.Proofs.Ytdiajkgebicnnaa
open Go.RowKit Go.Maps

def reads (l : List Cy) : Int := (l.countP fun c => c.bus == 1 && c.place == 0 : Nat)
theorem reads_next (l : List Cy) (m : Nat) (c : Cy) (h : l[m]? = some c) : reads (l.take (m + 1)) = reads (l.take m) + if (c.bus == 1 && c.place == 0) = true then 1 else 0 := by
  unfold reads
  rw [List.take_add_one, h, List.countP_append]
  simp [List.countP_cons]
  split <;> rfl
theorem reads_bd (l : List Cy) (m : Nat) : 0 ≤ reads (l.take m) ∧ reads (l.take m) ≤ m := by
  unfold reads
  have h1 := List.countP_le_length (p := fun c : Cy => c.bus == 1 && c.place == 0) (l := l.take m)
  have h2 : (l.take m).length ≤ m := by rw [List.length_take]; omega
  omega
def lastOp (done : List In) : Int := match done.getLast? with | some x => x.op | none => -1
theorem lastOp_snoc (done : List In) (x : In) : lastOp (done ++ [x]) = x.op := by unfold lastOp; rw [List.getLast?_concat]
def instrE (done : List In) (x : In) : Int :=
  if x.op < 0 ∨ 255 < x.op then 1
  else if done ≠ [] ∧ x.op ≤ lastOp done then 9
  else if nameB x.name = false then 15
  else if operand x.mode < 0 then 8
  else if done.any (sameKey x) = true then 5
  else if cyclesE x.cycles ≠ 0 then cyclesE x.cycles
  else if reads x.cycles ≠ operand x.mode then 3
  else 0
def instrsF : List In → List In → Int
  | _, [] => 0
  | done, x :: l => if instrE done x = 0 then instrsF (done ++ [x]) l else instrE done x
def cpuE (c : Cp) : Int :=
  if nameB c.name = false then 15 else if 256 < c.instrs.length then 2
  else if instrsF [] c.instrs ≠ 0 then instrsF [] c.instrs
  else if cyclesE c.res ≠ 0 then cyclesE c.res
  else if cyclesE c.irq ≠ 0 then cyclesE c.irq else cyclesE c.nmi

theorem grown_of {w w' : World} (h : Below w.heap.size w w') : w.grownBy w' none := ⟨h.os, h.tape, h.output, h.size, fun k hk _ => h.block k hk⟩
theorem box_alloc {w : World} {g : Nat} {o p : Obj} (h : w.heap[g]? = some o) : (w.alloc p).heap[g]? = some o := by
  have hlt := (Array.getElem?_eq_some_iff.1 h).1
  rw [← h]
  show (w.heap.push p)[g]? = _
  rw [Array.getElem?_push_lt hlt, Array.getElem?_eq_getElem hlt]
theorem keep_below {w w' : World} {g B : Nat} {o : Obj} (h : w.heap[g]? = some o) (hb : Below B w w') (hB : w.heap.size ≤ B) : w'.heap[g]? = some o := by
  rw [hb.block g (Nat.lt_of_lt_of_le (Array.getElem?_eq_some_iff.1 h).1 hB)]; exact h
theorem keep_grown {w w' : World} {g : Nat} {r : Option Nat} {o : Obj} (h : w.heap[g]? = some o) (hg : w.grownBy w' r) (hr : some g ≠ r) : w'.heap[g]? = some o := by
  rw [hg.block g (Array.getElem?_eq_some_iff.1 h).1 hr]; exact h
theorem cells4 {w : World} {g : Nat} {t : TypeId} {x0 x1 x2 x3 : Value} (h : w.heap[g]? = some (.cells #[x0, x1, x2, x3] t (0, 0))) :
    w.cell? ⟨g, 0, none⟩ = some x0 ∧ w.cell? ⟨g, 1, none⟩ = some x1 ∧ w.cell? ⟨g, 2, none⟩ = some x2 ∧ w.cell? ⟨g, 3, none⟩ = some x3 :=
  ⟨cell_of_row w g 0 _ t (0, 0) h, cell_of_row w g 1 _ t (0, 0) h, cell_of_row w g 2 _ t (0, 0) h, cell_of_row w g 3 _ t (0, 0) h⟩
theorem cells2 {w : World} {g : Nat} {t : TypeId} {x0 x1 : Value} (h : w.heap[g]? = some (.cells #[x0, x1] t (0, 0))) :
    w.cell? ⟨g, 0, none⟩ = some x0 ∧ w.cell? ⟨g, 1, none⟩ = some x1 :=
  ⟨cell_of_row w g 0 _ t (0, 0) h, cell_of_row w g 1 _ t (0, 0) h⟩
theorem cells5 {w : World} {g : Nat} {t : TypeId} {x0 x1 x2 x3 x4 : Value} (h : w.heap[g]? = some (.cells #[x0, x1, x2, x3, x4] t (0, 0))) :
    w.cell? ⟨g, 2, none⟩ = some x2 ∧ w.cell? ⟨g, 3, none⟩ = some x3 ∧ w.cell? ⟨g, 4, none⟩ = some x4 :=
  ⟨cell_of_row w g 2 _ t (0, 0) h, cell_of_row w g 3 _ t (0, 0) h, cell_of_row w g 4 _ t (0, 0) h⟩
/-- The two blocks that a round lays, behind a call that only lays more. -/
theorem two_blocks {wo w2 : World} {t t' : TypeId} {x0 x1 x2 x3 y0 y1 : Value}
    (hb : Below ((wo.alloc (.cells #[x0, x1, x2, x3] t)).alloc (.cells #[y0, y1] t')).heap.size ((wo.alloc (.cells #[x0, x1, x2, x3] t)).alloc (.cells #[y0, y1] t')) w2) :
    w2.heap[wo.heap.size]? = some (.cells #[x0, x1, x2, x3] t (0, 0)) ∧ w2.heap[wo.heap.size + 1]? = some (.cells #[y0, y1] t' (0, 0)) := by
  have h6 := box_alloc (p := .cells #[y0, y1] t') (heap_alloc_new wo (.cells #[x0, x1, x2, x3] t))
  have h7 := heap_alloc_new (wo.alloc (.cells #[x0, x1, x2, x3] t)) (.cells #[y0, y1] t')
  have e : (wo.alloc (.cells #[x0, x1, x2, x3] t)).heap.size = wo.heap.size + 1 := by simp
  rw [e] at h7
  exact ⟨keep_below h6 hb (Nat.le_refl _), keep_below h7 hb (Nat.le_refl _)⟩
theorem take_next {α : Type} {l : List α} {k : Nat} {x : α} (h : l[k]? = some x) : l.take (k + 1) = l.take k ++ [x] := by rw [List.take_add_one, h]; rfl
theorem and255 (n : Int) : bits .and .i64 n 255 = n % 256 := by
  have := and_mask n 8 (by decide)
  simpa [lo] using this

end Go.Proofs.Ytdiajkgebicnnaa
namespace Go.Proofs.Ytdiajkgebicnnaa
open Go.RowKit

deriving instance DecidableEq for St
deriving instance DecidableEq for Cy
deriving instance DecidableEq for In

theorem take_grow {α : Type} {l m : List α} {k : Nat} {x y : α} (h : l.take k = m.take k) (hx : l[k]? = some x) (hy : m[k]? = some y) (e : x = y) : l.take (k + 1) = m.take (k + 1) := by
  rw [take_next hx, take_next hy, h, e]
theorem take_all {α : Type} {l m : List α} (hl : l.length = m.length) (h : l.take l.length = m.take l.length) : l = m := by
  rw [List.take_length, hl, List.take_length] at h; exact h
theorem at_ne {α : Type} {l m : List α} {k : Nat} {x y : α} (hx : l[k]? = some x) (hy : m[k]? = some y) (e : x ≠ y) : l ≠ m := fun h => by
  subst h; rw [hx] at hy; exact e (Option.some.inj hy)

def stepS (d t f n d' t' f' n' : Int) : Bool := decide ((⟨d, t, f, n⟩ : St) = ⟨d', t', f', n'⟩)
/-- How the program compares two steps. -/
theorem step_cmp (d t f n d' t' f' n' : Int) (w : World) : (Op.equalIn 10000 86 (.agg #[.int .i64 d, .int .i64 t, .int .i64 f, .int .i64 n]) (.agg #[.int .i64 d', .int .i64 t', .int .i64 f', .int .i64 n'])).run Try.prog w = .ok (stepS d t f n d' t' f' n') w := by
  have hf : Try.prog.fieldsOf 86 = #[⟨"Do", 3, 0, false, "", "", 0⟩, ⟨"To", 3, 1, false, "", "", 8⟩, ⟨"From", 3, 2, false, "", "", 16⟩, ⟨"N", 3, 3, false, "", "", 24⟩] := by unfold Program.fieldsOf; rw [Try.underlying86]
  have h1 : Try.prog.cellsOf 3 = 1 := by kernel_rfl
  rw [run_equalIn_struct _ _ _ _ _ (by rw [hf]; exact Try.underlying86) Try.stoodInHeld86, hf]
  simp only [Op.eqFields]
  unfold stepS
  simp [part, run_equalIn_int _ _ _ _ _ _ _ Try.underlying3]
  by_cases e1 : d = d' <;> by_cases e2 : t = t' <;> by_cases e3 : f = f' <;> by_cases e4 : n = n' <;> simp [e1, e2, e3, e4]
theorem step_eql (d t f n d' t' f' n' : Int) (w : World) : (binOp .eql 86 (.agg #[.int .i64 d, .int .i64 t, .int .i64 f, .int .i64 n]) (.agg #[.int .i64 d', .int .i64 t', .int .i64 f', .int .i64 n'])).run Try.prog w = .ok (.bool (stepS d t f n d' t' f' n')) w := by
  rw [run_eql_struct, step_cmp]; rfl
theorem step_neq (d t f n d' t' f' n' : Int) (w : World) : (binOp .neq 86 (.agg #[.int .i64 d, .int .i64 t, .int .i64 f, .int .i64 n]) (.agg #[.int .i64 d', .int .i64 t', .int .i64 f', .int .i64 n'])).run Try.prog w = .ok (.bool (!(stepS d t f n d' t' f' n'))) w := by
  rw [run_neq_struct, step_cmp]; rfl

theorem below_two (w : World) (o p : Obj) : Below w.heap.size w ((w.alloc o).alloc p) := ((Below.refl _ w).alloc (Nat.le_refl _) o).alloc (by simp) p

end Go.Proofs.Ytdiajkgebicnnaa
namespace Go.Proofs.Ytdiajkgebicnnaa
open Go.RowKit

theorem cycle_one {w : World} : ∀ cs x, cycleR w cs x → ∀ u ∈ cs, u.oneCell' = true := by
  rintro cs x ⟨v, rfl, hv⟩ u hu
  obtain ⟨a, cap, rfl, _, _⟩ := isArr_form hv
  simp only [List.mem_cons, List.not_mem_nil, or_false] at hu
  rcases hu with rfl | rfl | rfl | rfl <;> rfl
theorem step_one {w : World} : ∀ cs x, stepR w cs x → ∀ u ∈ cs, u.oneCell' = true := by
  rintro cs x rfl u hu
  simp only [List.mem_cons, List.not_mem_nil, or_false] at hu
  rcases hu with rfl | rfl | rfl | rfl <;> rfl
theorem infoC : (Try.prog.info? 84).map (fun i => (i.zero, i.size, i.bytes)) = some (some (.agg #[.int .i64 0, .int .i64 0, .int .i64 0, .slice none 0 0]), 4, 48) := by kernel_rfl
theorem infoCs : ∃ i, Try.prog.info? 84 = some i ∧ i.zero = some (.agg #[.int .i64 0, .int .i64 0, .int .i64 0, .slice none 0 0]) ∧ i.size = 4 ∧ i.bytes = 48 := by
  obtain ⟨i, a, b, c, d⟩ := info_parts infoC
  exact ⟨i, a, b, c, d⟩
theorem infoS : (Try.prog.info? 86).map (fun i => (i.zero, i.size, i.bytes)) = some (some (.agg #[.int .i64 0, .int .i64 0, .int .i64 0, .int .i64 0]), 4, 32) := by kernel_rfl
theorem infoSs : ∃ i, Try.prog.info? 86 = some i ∧ i.zero = some (.agg #[.int .i64 0, .int .i64 0, .int .i64 0, .int .i64 0]) ∧ i.size = 4 ∧ i.bytes = 32 := by
  obtain ⟨i, a, b, c, d⟩ := info_parts infoS
  exact ⟨i, a, b, c, d⟩

theorem clone_cycles {R : List Value → Cy → Prop} (hone : ∀ cs x, R cs x → ∀ u ∈ cs, u.oneCell' = true) (v : Value) (l : List Cy) (w : World) (h : isArr 4 (fun _ => R) w v l) (hl : l.length * 48 ≤ 140737488355328) :
    Calls Try.prog 155 #[v] w fun e w' => ∃ u, e = .returned u ∧ ownArr 4 R w.heap.size 84 w' u l ∧ Below w.heap.size w w' := by
  have hn := @Lib.run_eql_slice_nil Try.prog
  obtain ⟨a, cap, rfl, _, _⟩ := isArr_form h
  cases a with
  | none =>
    have hl0 : l = [] := by
      rcases h with ⟨_, _, _, h⟩ | ⟨b, off, cap, h, _⟩
      · exact h
      · cases h
    subst hl0
    go_enter Try.func155, Try.ntmps155
    go_wp2
    go_ret
    exact ⟨_, rfl, ownArr_nil _ _ _ _ _, Below.refl _ _⟩
  | some a =>
    have ho := ownArr_made 4 R w.heap.size 84 w (Nat.le_refl _)
    have hr := isArr_fix (R := fun _ => R) h ((Below.refl w.heap.size w).alloc (Nat.le_refl _) (.cells #[] 84)) (Nat.le_refl _)
    obtain ⟨i, i1, i2, i3, i4⟩ := infoCs
    clear h
    go_enter Try.func155, Try.ntmps155
    go_wp2_with (at_builtin; refine wpList_append_arr rfl _ _ 68 rfl 84 4 48 i _ Try.underlying68 i1 i2 i3 i4 rfl (by decide) hone w.heap.size _ _ rfl rfl [] l ho hr ?c1 ?c2 ?c3 ?_)
    case c1 => simp only [List.length_nil, maxLen]; omega
    case c2 => simp only [List.length_nil]; omega
    case c3 => simp
    intro v' w1 hown1 hbel1
    have hb1 := ((Below.refl w.heap.size w).alloc (Nat.le_refl _) (.cells #[] 84)).trans hbel1
    clear hbel1
    go_wp2
    go_ret
    exact ⟨_, rfl, hown1, hb1⟩

theorem clone_steps {R : List Value → St → Prop} (hone : ∀ cs x, R cs x → ∀ u ∈ cs, u.oneCell' = true) (v : Value) (l : List St) (w : World) (h : isArr 4 (fun _ => R) w v l) (hl : l.length * 32 ≤ 140737488355328) :
    Calls Try.prog 156 #[v] w fun e w' => ∃ u, e = .returned u ∧ ownArr 4 R w.heap.size 86 w' u l ∧ Below w.heap.size w w' := by
  have hn := @Lib.run_eql_slice_nil Try.prog
  obtain ⟨a, cap, rfl, _, _⟩ := isArr_form h
  cases a with
  | none =>
    have hl0 : l = [] := by
      rcases h with ⟨_, _, _, h⟩ | ⟨b, off, cap, h, _⟩
      · exact h
      · cases h
    subst hl0
    go_enter Try.func156, Try.ntmps156
    go_wp2
    go_ret
    exact ⟨_, rfl, ownArr_nil _ _ _ _ _, Below.refl _ _⟩
  | some a =>
    have ho := ownArr_made 4 R w.heap.size 86 w (Nat.le_refl _)
    have hr := isArr_fix (R := fun _ => R) h ((Below.refl w.heap.size w).alloc (Nat.le_refl _) (.cells #[] 86)) (Nat.le_refl _)
    obtain ⟨i, i1, i2, i3, i4⟩ := infoSs
    clear h
    go_enter Try.func156, Try.ntmps156
    go_wp2_with (at_builtin; refine wpList_append_arr rfl _ _ 82 rfl 86 4 32 i _ Try.underlying82 i1 i2 i3 i4 rfl (by decide) hone w.heap.size _ _ rfl rfl [] l ho hr ?c1 ?c2 ?c3 ?_)
    case c1 => simp only [List.length_nil, maxLen]; omega
    case c2 => simp only [List.length_nil]; omega
    case c3 => simp
    intro v' w1 hown1 hbel1
    have hb1 := ((Below.refl w.heap.size w).alloc (Nat.le_refl _) (.cells #[] 86)).trans hbel1
    clear hbel1
    go_wp2
    go_ret
    exact ⟨_, rfl, hown1, hb1⟩


/-- The slice of steps does not lie in block g, nor in the boxes from lo to hi (or is empty). -/
def apart4 (lo hi g : Nat) (v : Value) (l : List St) : Prop := l = [] ∨ ∃ b off n cap, v = .slice (some ⟨b, off, none⟩) n cap ∧ b ≠ g ∧ (b < lo ∨ hi ≤ b)
theorem steps_set {w : World} {v : Value} {l : List St} {lo hi g q : Nat} (h : isArr 4 stepR w v l) (ha : apart4 lo hi g v l) (hq : q = g ∨ (lo ≤ q ∧ q < hi)) (j : Nat) (x : Value) : isArr 4 stepR (w.setCell ⟨q, j, none⟩ x) v l := by
  rcases h with h | ⟨b, off, cap, rfl, h1, h2, h3, h4⟩
  · exact .inl h
  · rcases ha with rfl | ⟨b', off', n', cap', e, hne, hlo⟩
    · exact .inl ⟨_, _, rfl, rfl⟩
    · cases e
      refine .inr ⟨b, off, cap, rfl, by simpa using h1, h2, h3, fun i y hy => ?_⟩
      obtain ⟨cs, c1, c2, c3⟩ := h4 i y hy
      refine ⟨cs, c1, fun k hk => ?_, c3⟩
      rw [World.cell?_setCell_far _ _ _ _ (by show q ≠ b; omega)]
      exact c2 k hk

/-- Block g holds the cycles; the steps of none of them lie in it, nor in the boxes from lo to hi. -/
def copyArr (w : World) (lo hi g : Nat) (l : List Cy) : Prop :=
  (∃ c t, w.heap[g]? = some (.cells c t (0, 0))) ∧ ∀ i c, l[i]? = some c → ∃ v, (w.cell? ⟨g, i * 4, none⟩ = some (.int .i64 c.bus) ∧ w.cell? ⟨g, i * 4 + 1, none⟩ = some (.int .i64 c.place) ∧ w.cell? ⟨g, i * 4 + 2, none⟩ = some (.int .i64 c.reg) ∧ w.cell? ⟨g, i * 4 + 3, none⟩ = some v) ∧
    isArr 4 stepR w v c.steps ∧ apart4 lo hi g v c.steps
theorem copyArr_lt {w : World} {lo hi g : Nat} {l : List Cy} (h : copyArr w lo hi g l) : g < w.heap.size := by
  obtain ⟨⟨c, t, hg⟩, _⟩ := h
  exact (Array.getElem?_eq_some_iff.1 hg).1
theorem copyArr_below {w w' : World} {lo hi g : Nat} {l : List Cy} (h : copyArr w lo hi g l) {B : Nat} (hb : Below B w w') (hB : w.heap.size ≤ B) : copyArr w' lo hi g l := by
  have hlt := copyArr_lt h
  obtain ⟨⟨c, t, hg⟩, h2⟩ := h
  refine ⟨⟨c, t, keep_below hg hb hB⟩, fun i x hx => ?_⟩
  obtain ⟨v, ⟨k0, k1, k2, k3⟩, h3, h4⟩ := h2 i x hx
  have f : ∀ j u, w.cell? ⟨g, j, none⟩ = some u → w'.cell? ⟨g, j, none⟩ = some u := fun j u hu => by
    rw [hb.cell (p := ⟨g, j, none⟩) (Nat.lt_of_lt_of_le hlt hB)]; exact hu
  exact ⟨v, ⟨f _ _ k0, f _ _ k1, f _ _ k2, f _ _ k3⟩, isArr_below step_keeps h3 hb hB, h4⟩
theorem copyArr_set {w : World} {lo hi g : Nat} {l : List Cy} (h : copyArr w lo hi g l) {k : Nat} {c : Cy} (hc : l[k]? = some c) {v : Value} (hv : isArr 4 stepR w v c.steps) (ha : apart4 lo hi g v c.steps) : copyArr (w.setCell ⟨g, k * 4 + 3, none⟩ v) lo hi g l := by
  obtain ⟨⟨cc, t, hg⟩, h2⟩ := h
  refine ⟨⟨cc.setIfInBounds (k * 4 + 3) v, t, ?_⟩, fun i x hx => ?_⟩
  · show (w.setCell ⟨g, k * 4 + 3, none⟩ v).heap[g]? = _
    unfold World.setCell
    rw [Array.getElem?_modify, if_pos rfl, hg]
    rfl
  · obtain ⟨u, ⟨k0, k1, k2, k3⟩, h3, h4⟩ := h2 i x hx
    have f : ∀ j y, j ≠ k * 4 + 3 → w.cell? ⟨g, j, none⟩ = some y → (w.setCell ⟨g, k * 4 + 3, none⟩ v).cell? ⟨g, j, none⟩ = some y := fun j y hj hy => by
      rw [World.cell?_setCell_other _ _ _ _ (by intro e; cases e; exact hj rfl)]; exact hy
    by_cases e : i = k
    · subst e
      rw [hc] at hx
      cases hx
      exact ⟨v, ⟨f _ _ (by omega) k0, f _ _ (by omega) k1, f _ _ (by omega) k2, World.cell?_setCell_same _ _ _ k3⟩, steps_set hv ha (.inl rfl) _ _, ha⟩
    · exact ⟨u, ⟨f _ _ (by omega) k0, f _ _ (by omega) k1, f _ _ (by omega) k2, f _ _ (by omega) k3⟩, steps_set h3 h4 (.inl rfl) _ _, h4⟩
theorem copyArr_out {w : World} {lo hi g : Nat} {l : List Cy} (h : copyArr w lo hi g l) (hg : hi ≤ g) {q : Nat} (h1 : lo ≤ q) (h2 : q < hi) (j : Nat) (x : Value) : copyArr (w.setCell ⟨q, j, none⟩ x) lo hi g l := by
  obtain ⟨⟨cc, t, hk⟩, h3⟩ := h
  refine ⟨⟨cc, t, ?_⟩, fun i y hy => ?_⟩
  · rw [Below.heap_setCell w ⟨q, j, none⟩ x g (by show g ≠ q; omega)]; exact hk
  · obtain ⟨v, ⟨k0, k1, k2, k3⟩, h4, h5⟩ := h3 i y hy
    have f : ∀ j' u, w.cell? ⟨g, j', none⟩ = some u → (w.setCell ⟨q, j, none⟩ x).cell? ⟨g, j', none⟩ = some u := fun j' u hu => by
      rw [World.cell?_setCell_far _ _ _ _ (by show q ≠ g; omega)]; exact hu
    exact ⟨v, ⟨f _ _ k0, f _ _ k1, f _ _ k2, f _ _ k3⟩, steps_set h4 h5 (.inr ⟨h1, h2⟩) _ _, h5⟩
theorem copyArr_isArr {w : World} {lo hi g cap : Nat} {l : List Cy} (h : copyArr w lo hi g l) (h1 : l.length ≤ cap) (h2 : cap ≤ 9223372036854775807) : isArr 4 cycleR w (.slice (some ⟨g, 0, none⟩) l.length cap) l := by
  have hlt := copyArr_lt h
  obtain ⟨_, h3⟩ := h
  refine .inr ⟨g, 0, cap, rfl, hlt, h1, h2, fun i x hx => ?_⟩
  obtain ⟨v, ⟨k0, k1, k2, k3⟩, h4, _⟩ := h3 i x hx
  refine ⟨[.int .i64 x.bus, .int .i64 x.place, .int .i64 x.reg, v], rfl, fun j hj => ?_, v, rfl, h4⟩
  rw [Nat.zero_add]
  match j, hj with
  | 0, _ => exact k0
  | 1, _ => exact k1
  | 2, _ => exact k2
  | 3, _ => exact k3
theorem copyArr_frozen {w : World} {lo hi g : Nat} {l : List Cy} (h : copyArr w lo hi g l) (j : Nat) : w.frozen? ⟨g, j, none⟩ = false := by
  obtain ⟨⟨c, t, hg⟩, _⟩ := h
  simp [World.frozen?, hg]
/-- What slices.Clone made of cycles. -/
theorem copyArr_of {w00 w0 w : World} {v : Value} {l : List Cy} {e : TypeId} (h : ownArr 4 (cycleR w00) w0.heap.size e w v l) (hb : Below w00.heap.size w00 w) (h00 : w00.heap.size ≤ w0.heap.size) :
    (v = .slice none 0 0 ∧ l = []) ∨ ∃ g cap, v = .slice (some ⟨g, 0, none⟩) l.length cap ∧ l.length ≤ cap ∧ cap ≤ 9223372036854775807 ∧ w0.heap.size ≤ g ∧ copyArr w w00.heap.size w0.heap.size g l := by
  have harr := ownArr_isArr h
  obtain ⟨f, _, hown, _⟩ := h
  rcases hown.2 with ⟨rfl, hn⟩ | ⟨g, cap, cur, rfl, hB, hg, hn, hc, _, _⟩
  · exact .inl ⟨rfl, List.eq_nil_of_length_eq_zero hn⟩
  · refine .inr ⟨g, cap, rfl, hn, by simpa [maxLen] using hc, hB, ⟨⟨cur, _, hg⟩, fun i x hx => ?_⟩⟩
    rcases harr with ⟨a', cap', e', rfl⟩ | ⟨b, off, cap', e', _, _, _, h4⟩
    · cases hx
    · cases e'
      obtain ⟨cs, _, hcs, u, rfl, hu⟩ := h4 i x hx
      obtain ⟨k0, k1, k2, k3⟩ := four_cells hcs
      rw [Nat.zero_add] at k0 k1 k2 k3
      refine ⟨u, ⟨k0, k1, k2, k3⟩, isArr_below step_keeps hu hb (Nat.le_refl _), ?_⟩
      rcases hu with ⟨a, c, rfl, he⟩ | ⟨b, off, c, rfl, hlt, _⟩
      · exact .inl he
      · exact .inr ⟨b, off, _, c, rfl, by omega, .inl hlt⟩
theorem apart_of {R : List Value → St → Prop} {B lo hi g : Nat} {w : World} {v : Value} {l : List St} {e : TypeId} (h : ownArr 4 R B e w v l) (hg : g < B) (hh : hi ≤ B) : apart4 lo hi g v l := by
  obtain ⟨f, _, hown, _⟩ := h
  rcases hown.2 with ⟨rfl, hn⟩ | ⟨g', cap, cur, rfl, hB, _, _, _, _, _⟩
  · exact .inl (List.eq_nil_of_length_eq_zero hn)
  · exact .inr ⟨g', 0, _, cap, rfl, by omega, .inr (by omega)⟩
end Go.Proofs.Ytdiajkgebicnnaa
namespace Go.Proofs.Ytdiajkgebicnnaa
open Go.RowKit Go.ChangeShapes Go.WideShapes

theorem below_next {w0 wp wn : World} (h : Below w0.heap.size w0 wp) (hb : Below wp.heap.size wp wn) : Below w0.heap.size w0 wn := h.trans (hb.mono h.size)
theorem below_putT {w0 wp : World} (h : Below w0.heap.size w0 wp) (o : Obj) : Below w0.heap.size w0 (wp.alloc o) := h.alloc h.size o
/-- A box of five cells that was laid last, and all that is laid behind it. -/
theorem box_keep {w w0 w' : World} {t : TypeId} {x0 x1 x2 x3 x4 : Value} (e : w0 = w.alloc (.cells #[x0, x1, x2, x3, x4] t)) (hb : Below w0.heap.size w0 w') :
    w'.cell? ⟨w.heap.size, 0, none⟩ = some x0 ∧ w'.cell? ⟨w.heap.size, 1, none⟩ = some x1 ∧ w'.cell? ⟨w.heap.size, 2, none⟩ = some x2 ∧ w'.cell? ⟨w.heap.size, 3, none⟩ = some x3 ∧ w'.cell? ⟨w.heap.size, 4, none⟩ = some x4 ∧ Below w0.heap.size w0 w' := by
  subst e
  have h := keep_below (heap_alloc_new w (.cells #[x0, x1, x2, x3, x4] t)) hb (Nat.le_refl _)
  exact ⟨cell_of_row w' _ 0 _ t (0, 0) h, cell_of_row w' _ 1 _ t (0, 0) h, cell_of_row w' _ 2 _ t (0, 0) h, cell_of_row w' _ 3 _ t (0, 0) h, cell_of_row w' _ 4 _ t (0, 0) h, hb⟩

theorem keep_alloc_drew {w0 w1 : World} {o : Obj} (hb : Below (w0.alloc o).drew.heap.size (w0.alloc o).drew w1) : w1.heap[w0.heap.size]? = some o :=
  keep_below (w := (w0.alloc o).drew) (heap_alloc_new w0 o) hb (Nat.le_refl _)
theorem pick6 {a b c d e : Prop} {w0 wp : World} (h : a ∧ b ∧ c ∧ d ∧ e ∧ Below w0.heap.size w0 wp) : Below w0.heap.size w0 wp := h.2.2.2.2.2
end Go.Proofs.Ytdiajkgebicnnaa
namespace Go.Proofs.Ytdiajkgebicnnaa
open Go.RowKit

/-- The slice of steps lies in a block from lo on (or is empty). -/
def fresh4 (lo : Nat) (v : Value) (l : List St) : Prop := l = [] ∨ ∃ b off n cap, v = .slice (some ⟨b, off, none⟩) n cap ∧ lo ≤ b
def cycleF (lo : Nat) (w : World) (cs : List Value) (c : Cy) : Prop := ∃ v, cs = [.int .i64 c.bus, .int .i64 c.place, .int .i64 c.reg, v] ∧ isArr 4 stepR w v c.steps ∧ fresh4 lo v c.steps
/-- A slice of cycles that lies, with all its steps, in blocks from lo on. -/
def freshArr (lo : Nat) (w : World) (v : Value) (l : List Cy) : Prop := isArr 4 (cycleF lo) w v l ∧ (l = [] ∨ ∃ b off n cap, v = .slice (some ⟨b, off, none⟩) n cap ∧ lo ≤ b)
theorem fresh4_of {R : List Value → St → Prop} {B lo : Nat} {w : World} {v : Value} {l : List St} {e : TypeId} (h : ownArr 4 R B e w v l) (hh : lo ≤ B) : fresh4 lo v l := by
  obtain ⟨f, _, hown, _⟩ := h
  rcases hown.2 with ⟨rfl, hn⟩ | ⟨g', cap, cur, rfl, hB, _, _, _, _, _⟩
  · exact .inl (List.eq_nil_of_length_eq_zero hn)
  · exact .inr ⟨g', 0, _, cap, rfl, by omega⟩
theorem freshArr_isArr {lo : Nat} {w : World} {v : Value} {l : List Cy} (h : freshArr lo w v l) : isArr 4 cycleR w v l := by
  rcases h.1 with h | ⟨b, off, cap, rfl, h1, h2, h3, h4⟩
  · exact .inl h
  · refine .inr ⟨b, off, cap, rfl, h1, h2, h3, fun i x hx => ?_⟩
    obtain ⟨cs, c1, c2, u, c3, c4, _⟩ := h4 i x hx
    exact ⟨cs, c1, c2, u, c3, c4⟩
theorem freshArr_nil (lo : Nat) (w : World) (a : Option Addr) (cap : Nat) : freshArr lo w (.slice a 0 cap) [] := ⟨.inl ⟨_, _, rfl, rfl⟩, .inl rfl⟩
theorem freshArr_mono {lo lo' : Nat} {w : World} {v : Value} {l : List Cy} (h : freshArr lo w v l) (hl : lo' ≤ lo) : freshArr lo' w v l := by
  refine ⟨?_, ?_⟩
  · rcases h.1 with h | ⟨b, off, cap, rfl, h1, h2, h3, h4⟩
    · exact .inl h
    · refine .inr ⟨b, off, cap, rfl, h1, h2, h3, fun i x hx => ?_⟩
      obtain ⟨cs, c1, c2, u, c3, c4, c5⟩ := h4 i x hx
      refine ⟨cs, c1, c2, u, c3, c4, ?_⟩
      rcases c5 with e | ⟨b', off', n', cap', e, hb⟩
      · exact .inl e
      · exact .inr ⟨b', off', n', cap', e, by omega⟩
  · rcases h.2 with e | ⟨b', off', n', cap', e, hb⟩
    · exact .inl e
    · exact .inr ⟨b', off', n', cap', e, by omega⟩
theorem steps_far {w : World} {v : Value} {l : List St} {lo q : Nat} (h : isArr 4 stepR w v l) (ha : fresh4 lo v l) (hq : q < lo) (j : Nat) (x : Value) : isArr 4 stepR (w.setCell ⟨q, j, none⟩ x) v l := by
  rcases h with h | ⟨b, off, cap, rfl, h1, h2, h3, h4⟩
  · exact .inl h
  · rcases ha with rfl | ⟨b', off', n', cap', e, hlo⟩
    · exact .inl ⟨_, _, rfl, rfl⟩
    · cases e
      refine .inr ⟨b, off, cap, rfl, by simpa using h1, h2, h3, fun i y hy => ?_⟩
      obtain ⟨cs, c1, c2, c3⟩ := h4 i y hy
      refine ⟨cs, c1, fun k hk => ?_, c3⟩
      rw [World.cell?_setCell_far _ _ _ _ (by show q ≠ b; omega)]
      exact c2 k hk
theorem freshArr_set {lo : Nat} {w : World} {v : Value} {l : List Cy} (h : freshArr lo w v l) {q : Nat} (hq : q < lo) (j : Nat) (x : Value) : freshArr lo (w.setCell ⟨q, j, none⟩ x) v l := by
  refine ⟨?_, h.2⟩
  rcases h.1 with h1 | ⟨b, off, cap, rfl, h1, h2, h3, h4⟩
  · exact .inl h1
  · rcases h.2 with rfl | ⟨b', off', n', cap', e, hlo⟩
    · exact .inl ⟨_, _, rfl, rfl⟩
    · cases e
      refine .inr ⟨b, off, cap, rfl, by simpa using h1, h2, h3, fun i y hy => ?_⟩
      obtain ⟨cs, c1, c2, u, c3, c4, c5⟩ := h4 i y hy
      refine ⟨cs, c1, fun k hk => ?_, u, c3, steps_far c4 c5 hq _ _, c5⟩
      rw [World.cell?_setCell_far _ _ _ _ (by show q ≠ b; omega)]
      exact c2 k hk
theorem cycleF_keeps (lo : Nat) : keeps (cycleF lo) := fun _ _ _ hb hB _ _ ⟨v, h, g, f⟩ => ⟨v, h, isArr_below step_keeps g hb hB, f⟩
theorem freshArr_below {lo : Nat} {w w' : World} {v : Value} {l : List Cy} (h : freshArr lo w v l) {B : Nat} (hb : Below B w w') (hB : w.heap.size ≤ B) : freshArr lo w' v l := ⟨isArr_below (cycleF_keeps lo) h.1 hb hB, h.2⟩
/-- The first k of the cycles in block g have steps in blocks from lo on. -/
def doneF (wr : World) (lo g : Nat) (l : List Cy) (k : Nat) : Prop := ∀ i c, i < k → l[i]? = some c → ∃ v, wr.cell? ⟨g, i * 4 + 3, none⟩ = some v ∧ fresh4 lo v c.steps
theorem copyArr_fresh {w : World} {lo hi g cap : Nat} {l : List Cy} (h : copyArr w lo hi g l) (hd : doneF w lo g l l.length) (h1 : l.length ≤ cap) (h2 : cap ≤ 9223372036854775807) (hg : lo ≤ g) : freshArr lo w (.slice (some ⟨g, 0, none⟩) l.length cap) l := by
  have hlt := copyArr_lt h
  obtain ⟨_, h3⟩ := h
  refine ⟨.inr ⟨g, 0, cap, rfl, hlt, h1, h2, fun i x hx => ?_⟩, .inr ⟨g, 0, _, cap, rfl, hg⟩⟩
  obtain ⟨v, ⟨k0, k1, k2, k3⟩, h4, _⟩ := h3 i x hx
  obtain ⟨v', k3', h5⟩ := hd i x (List.getElem?_eq_some_iff.1 hx).1 hx
  rw [k3] at k3'
  cases k3'
  refine ⟨[.int .i64 x.bus, .int .i64 x.place, .int .i64 x.reg, v], rfl, fun j hj => ?_, v, rfl, h4, h5⟩
  rw [Nat.zero_add]
  match j, hj with
  | 0, _ => exact k0
  | 1, _ => exact k1
  | 2, _ => exact k2
  | 3, _ => exact k3
theorem doneF_out {w : World} {lo g k q : Nat} {l : List Cy} (h : doneF w lo g l k) (hq : q ≠ g) (j : Nat) (x : Value) : doneF (w.setCell ⟨q, j, none⟩ x) lo g l k := fun i c hi hc => by
  obtain ⟨v, h1, h2⟩ := h i c hi hc
  exact ⟨v, by rw [World.cell?_setCell_far _ _ _ _ (by show q ≠ g; exact hq)]; exact h1, h2⟩

/-- What holds between two rounds of Copy. -/
def copyAt (w wr : World) (op : Int) (name : ByteArray) (mode : Int) (u : Value) (l : List Cy) (k : Nat) : Prop :=
  wr.heap[w.heap.size]? = some (.cells #[.int .i64 op, .string name, .int .i64 mode, u] 78 (0, 0)) ∧
  wr.heap[w.heap.size + 1]? = some (.cells #[.int .i64 0, .string ⟨#[]⟩, .int .i64 0, .slice none 0 0] 78 (0, 0)) ∧ Below w.heap.size w wr ∧
  ((u = .slice none 0 0 ∧ l = []) ∨ ∃ g cap, u = .slice (some ⟨g, 0, none⟩) l.length cap ∧ l.length ≤ cap ∧ cap ≤ 9223372036854775807 ∧ w.heap.size + 2 ≤ g ∧ copyArr wr w.heap.size (w.heap.size + 2) g l ∧ doneF wr w.heap.size g l k)

theorem held_copy {wo w' : World} {p q : Addr} {v u : Value} (h1 : wo.cell? p = some v) (h2 : wo.cell? q = some u) (h3 : wo.frozen? q = false) (hb : Below wo.heap.size wo w') :
    w'.cell? p = some v ∧ w'.cell? q = some u ∧ w'.frozen? q = false ∧ Below wo.heap.size wo w' := by
  have f : ∀ {p : Addr} {v : Value}, wo.cell? p = some v → w'.cell? p = some v := fun {p v} h => by
    rw [hb.cell (p := p) (cell_block h).1]; exact h
  refine ⟨f h1, f h2, ?_, hb⟩
  have hk := hb.block q.block (cell_block h2).1
  simpa [World.frozen?, hk] using h3
theorem pick4 {a b c : Prop} {w0 wp : World} (h : a ∧ b ∧ c ∧ Below w0.heap.size w0 wp) : Below w0.heap.size w0 wp := h.2.2.2

theorem frozenB {w : World} {b : Nat} {c : Array Value} {t : TypeId} (h : w.heap[b]? = some (.cells c t (0, 0))) (i : Nat) : w.frozen? ⟨b, i, none⟩ = false := by simp [World.frozen?, h]

theorem copy_round {w wo w5 : World} {op : Int} {name : ByteArray} {mode : Int} {g cap k B : Nat} {l : List Cy} {c : Cy} {v : Value} {e : TypeId}
    (hbx : wo.heap[w.heap.size]? = some (.cells #[.int .i64 op, .string name, .int .i64 mode, .slice (some ⟨g, 0, none⟩) l.length cap] 78 (0, 0)))
    (hbr : wo.heap[w.heap.size + 1]? = some (.cells #[.int .i64 0, .string ⟨#[]⟩, .int .i64 0, .slice none 0 0] 78 (0, 0))) (hbel : Below w.heap.size w wo)
    (hcp : copyArr wo w.heap.size (w.heap.size + 2) g l) (hx : l[k]? = some c) (hcap : l.length ≤ cap) (hcap2 : cap ≤ 9223372036854775807) (hg : w.heap.size + 2 ≤ g)
    (hb5 : Below wo.heap.size wo w5) (hu5 : ownArr 4 (stepR wo) B e w5 v c.steps) (hB : wo.heap.size ≤ B) (hd : doneF wo w.heap.size g l k) :
    copyAt w (w5.setCell ⟨g, k * 4 + 3, none⟩ v) op name mode (.slice (some ⟨g, 0, none⟩) l.length cap) l (k + 1) := by
  have hlt := copyArr_lt hcp
  refine ⟨?_, ?_, (hbel.trans (hb5.mono hbel.size)).setCell (by show w.heap.size ≤ g; omega) _, .inr ⟨g, cap, rfl, hcap, hcap2, hg, ?_, ?_⟩⟩
  · rw [Below.heap_setCell w5 ⟨g, k * 4 + 3, none⟩ v _ (by show w.heap.size ≠ g; omega)]; exact keep_below hbx hb5 (Nat.le_refl _)
  · rw [Below.heap_setCell w5 ⟨g, k * 4 + 3, none⟩ v _ (by show w.heap.size + 1 ≠ g; omega)]; exact keep_below hbr hb5 (Nat.le_refl _)
  · exact copyArr_set (copyArr_below hcp hb5 (Nat.le_refl _)) hx (ownArr_isArr hu5) (apart_of hu5 (by omega) (by omega))
  · intro i y hi hy
    by_cases e : i = k
    · subst e
      rw [hx] at hy
      cases hy
      obtain ⟨u, ⟨_, _, _, k3⟩, _, _⟩ := (copyArr_below hcp hb5 (Nat.le_refl _)).2 i c hx
      exact ⟨v, World.cell?_setCell_same _ _ _ k3, fresh4_of hu5 (Nat.le_trans hbel.size hB)⟩
    · obtain ⟨u, h1, h2⟩ := hd i y (by omega) hy
      refine ⟨u, ?_, h2⟩
      rw [World.cell?_setCell_other _ _ _ _ (by intro e'; injection e' with _ e2 _; omega), hb5.cell (p := ⟨g, i * 4 + 3, none⟩) hlt]
      exact h1

set_option maxRecDepth 100000 in
set_option maxHeartbeats 4000000 in
theorem copy_any (x : In) (v : Value) (w : World) (h : isArr 4 cycleR w v x.cycles) (hl : x.cycles.length * 48 ≤ 140737488355328) (hs : ∀ c ∈ x.cycles, c.steps.length * 32 ≤ 140737488355328) :
    Calls Try.prog 142 #[.agg #[.int .i64 x.op, .string x.name, .int .i64 x.mode, v]] w fun e w' =>
      ∃ u, e = .returned (.agg #[.int .i64 x.op, .string x.name, .int .i64 x.mode, u]) ∧ freshArr w.heap.size w' u x.cycles ∧ Below w.heap.size w w' := by
  obtain ⟨op, name, mode, l⟩ := x
  dsimp only at h hl hs ⊢
  obtain ⟨w0, hw0⟩ : ∃ w0, w0 = (w.alloc (.cells #[.int .i64 op, .string name, .int .i64 mode, v] 78)).alloc (.cells #[.int .i64 0, .string ⟨#[]⟩, .int .i64 0, .slice none 0 0] 78) := ⟨_, rfl⟩
  have hA : Below w.heap.size w w0 := by rw [hw0]; exact below_two _ _ _
  have hz0 : w0.heap.size = w.heap.size + 2 := by rw [hw0]; simp
  have kA : w0.heap[w.heap.size]? = some (.cells #[.int .i64 op, .string name, .int .i64 mode, v] 78 (0, 0)) := by rw [hw0]; exact box_alloc (heap_alloc_new w _)
  have kB : w0.heap[w.heap.size + 1]? = some (.cells #[.int .i64 0, .string ⟨#[]⟩, .int .i64 0, .slice none 0 0] 78 (0, 0)) := by
    rw [hw0]
    have := heap_alloc_new (w.alloc (.cells #[.int .i64 op, .string name, .int .i64 mode, v] 78)) (.cells #[.int .i64 0, .string ⟨#[]⟩, .int .i64 0, .slice none 0 0] 78)
    rw [World.size_alloc] at this
    exact this
  have hcy : isArr 4 (fun _ => cycleR w) w0 v l := isArr_fix h hA (Nat.le_refl _)
  have HW := Lib.hid hw0
  have KA := Lib.hid kA
  have KB := Lib.hid kB
  obtain ⟨sa, scap, rfl, _, _⟩ := isArr_form h
  clear h hw0 kA kB
  go_enter Try.func142, Try.ntmps142
  go_wp2_with (go_at_call 155; rw [← HW.out]; refine (clone_cycles cycle_one _ l _ hcy hl).mono ?_; rintro e w1 ⟨u, rfl, hu, hb1⟩; have k1 := keep_below KA.out hb1 (Nat.le_refl _); have f1 := frozenB k1 3; obtain ⟨d0, d1, d2, d3⟩ := cells4 k1; obtain ⟨ua, ucap, hue, _, _⟩ := isArr_form (ownArr_isArr hu); subst hue)
  have hB1 := hA.trans (hb1.mono hA.size)
  have k2 := keep_below KB.out hb1 (Nat.le_refl _)
  have hown : copyAt w (w1.setCell ⟨w.heap.size, 3, none⟩ (.slice ua l.length ucap)) op name mode (.slice ua l.length ucap) l 0 := by
    refine ⟨?_, ?_, hB1.setCell (Nat.le_refl _) _, ?_⟩
    · show (w1.setCell ⟨w.heap.size, 3, none⟩ _).heap[w.heap.size]? = _
      unfold World.setCell
      rw [Array.getElem?_modify, if_pos rfl, k1]
      rfl
    · rw [Below.heap_setCell w1 ⟨w.heap.size, 3, none⟩ _ (w.heap.size + 1) (by show w.heap.size + 1 ≠ w.heap.size; omega)]
      exact k2
    · rcases copyArr_of hu hB1 (by omega) with ⟨h1, h2⟩ | ⟨g, cap, h1, h2, h3, h4, h5⟩
      · exact .inl ⟨h1, h2⟩
      · rw [hz0] at h4 h5
        exact .inr ⟨g, cap, h1, h2, h3, h4, copyArr_out h5 h4 (Nat.le_refl _) (by omega) _ _, fun i c hi _ => absurd hi (Nat.not_lt_zero _)⟩
  have HO := Lib.hid hown
  clear hown hu hcy k1 k2 hB1
  go_loopw [11] (fun i wr => ∃ k : Nat, k ≤ l.length ∧ i = .int .i64 k ∧ copyAt w wr op name mode (.slice ua l.length ucap) l k) (fun i _ => l.length - (intOf i).toNat)
  case atStart => exact ⟨0, Nat.zero_le _, rfl, HO.out⟩
  case round =>
    clear HO
    obtain ⟨k, hk, rfl, hbx, hbr, hbel, hcp⟩ := hrel
    obtain ⟨wo, rfl⟩ : ∃ wo, wo = wr := ⟨_, rfl⟩
    have hsz := hbel.size
    obtain ⟨b0, b1, b2, b3⟩ := cells4 hbx
    by_cases hlt : k < l.length
    · rcases hcp with ⟨_, rfl⟩ | ⟨g, cap, hue, hcap, hcap2, hg, hcp, hdn⟩
      · exact absurd hlt (Nat.not_lt_zero _)
      cases hue
      obtain ⟨c, hx, _⟩ := drop_at hlt
      obtain ⟨v, ⟨c0, c1, c2, c3⟩, hst, hap⟩ := hcp.2 k c hx
      have hsl := hs c (List.mem_of_getElem? hx)
      have hfz := copyArr_frozen hcp (k * 4 + 3)
      have HCP := Lib.hid hcp
      have HX := Lib.hid hx
      have HDN := Lib.hid hdn
      have HST := Lib.hid hst
      have HBX := Lib.hid hbx
      have HBR := Lib.hid hbr
      have HK := Lib.hid (fun (w' : World) (hb : Below wo.heap.size wo w') => held_copy b3 c3 hfz hb)
      obtain ⟨ta, tcap, rfl, _, _⟩ := isArr_form hst
      clear hcp hdn hx hst hbx hbr hap c0 c1 c2 b0 b1 b2
      go_wp2_with fail
      go_region_law (first | (go_simp; go_at_call 156; refine (clone_steps (step_one (w := wo)) _ c.steps _ (isArr_fix HST.out (B := wo.heap.size) (by first | exact Below.refl _ _ | exact below_drewN _ _ _ | exact (Below.refl _ _).drew) (Nat.le_refl _)) hsl).mono ?_; rintro e w5 ⟨u5, rfl, hu5, hb5⟩; have B5 : Below wo.heap.size wo w5 := below_next (by first | exact Below.refl _ _ | exact below_drewN _ _ _ | exact (Below.refl _ _).drew) hb5; obtain ⟨va, vcap, hve, _, _⟩ := isArr_form (ownArr_isArr hu5); subst hve; obtain ⟨m1, m2, m3, _⟩ := HK.out _ B5))
      all_goals
        have HR := Lib.hid (copy_round HBX.out HBR.out hbel HCP.out HX.out hcap hcap2 hg B5 hu5 (Nat.le_refl _) HDN.out)
        clear hu5 hb5 B5 m1 m2 m3
        go_wp2_with fail
        go_roundw
        case rel => exact ⟨k + 1, by omega, by go_num, HR.out⟩
        case measure => simp [intOf]; omega
    · obtain rfl : k = l.length := by omega
      have q2 := frozenB hbr 0
      have q3 := frozenB hbr 1
      have q4 := frozenB hbr 2
      have q5 := frozenB hbr 3
      obtain ⟨r0, r1, r2, r3⟩ := cells4 hbr
      go_wp2_with fail
      refine bodyPost_ret (v := .agg #[_, _, _, _]) (by simp [results, Try.results142, go_sem, r0, r1, r2, r3]; first | exact ⟨rfl, rfl, rfl, rfl⟩ | rfl) rfl ?_
      refine ⟨_, rfl, ?_, (((hbel.setCell (by show w.heap.size ≤ w.heap.size + 1; omega) _).setCell (by show w.heap.size ≤ w.heap.size + 1; omega) _).setCell (by show w.heap.size ≤ w.heap.size + 1; omega) _).setCell (by show w.heap.size ≤ w.heap.size + 1; omega) _⟩
      rcases hcp with ⟨hue, rfl⟩ | ⟨g, cap, hue, hcap, hcap2, hg, hcp, hdn⟩
      · exact freshArr_nil _ _ _ _
      · rw [hue]
        have hne : w.heap.size + 1 ≠ g := by omega
        exact copyArr_fresh (copyArr_out (copyArr_out (copyArr_out (copyArr_out hcp hg (by omega) (by omega) _ _) hg (by omega) (by omega) _ _) hg (by omega) (by omega) _ _) hg (by omega) (by omega) _ _)
          (doneF_out (doneF_out (doneF_out (doneF_out hdn hne _ _) hne _ _) hne _ _) hne _ _) hcap hcap2 (by omega)
end Go.Proofs.Ytdiajkgebicnnaa
namespace Go.Proofs.Ytdiajkgebicnnaa
open Go.RowKit

deriving instance DecidableEq for Cp

theorem bytes_ne {n m : ByteArray} (h : n ≠ m) : (n.toList == m.toList) = false := by
  rw [ByteArray.toList_eq, ByteArray.toList_eq]
  simp only [beq_eq_false_iff_ne, ne_eq]
  intro e
  obtain ⟨⟨x⟩⟩ := n
  obtain ⟨⟨y⟩⟩ := m
  exact h (by simpa using e)

end Go.Proofs.Ytdiajkgebicnnaa
namespace Go.Proofs.Ytdiajkgebicnnaa
open Go.RowKit

def idxI (p : In → Bool) (l : List In) : Int := if l.findIdx p < l.length then (l.findIdx p : Int) else -1
theorem idxI_any (p : In → Bool) (l : List In) : decide (0 ≤ idxI p l) = l.any p := by
  rw [Bool.eq_iff_iff, List.any_eq_true, decide_eq_true_eq]
  unfold idxI
  rw [← List.findIdx_lt_length]
  split <;> simp_all
theorem idx_here {p : In → Bool} {l : List In} {k : Nat} {x : In} (hk : k ≤ l.findIdx p) (hx : l[k]? = some x) (hp : p x = true) : idxI p l = (k : Int) := by
  obtain ⟨hlt, he⟩ := List.getElem?_eq_some_iff.1 hx
  have h2 : l.findIdx p = k := by
    rcases Nat.lt_or_ge k (l.findIdx p) with h | h
    · have := List.not_of_lt_findIdx h
      rw [he, hp] at this
      cases this
    · omega
  unfold idxI
  rw [h2, if_pos hlt]
theorem idx_next {p : In → Bool} {l : List In} {k : Nat} {x : In} (hk : k ≤ l.findIdx p) (hx : l[k]? = some x) (hp : p x = false) : k + 1 ≤ l.findIdx p := by
  obtain ⟨hlt, he⟩ := List.getElem?_eq_some_iff.1 hx
  rcases Nat.lt_or_ge k (l.findIdx p) with h | h
  · exact h
  · have e : l.findIdx p = k := by omega
    have := List.findIdx_getElem (p := p) (xs := l) (w := by rw [e]; exact hlt)
    simp only [e, he, hp] at this
    cases this
theorem idx_none {p : In → Bool} {l : List In} (hk : l.length ≤ l.findIdx p) : idxI p l = -1 := by
  unfold idxI; rw [if_neg (by omega)]

/-- The library's search by a function that is handed over: what the function says of an element is p. -/
theorem indexFunc_at (fn : Nat) (caps : Array Value) (p : In → Bool) (v : Value) (l : List In) (w : World) (h : isArr 4 insR w v l) (hE : Enters Try.prog fn)
    (hc : ∀ (x : In) (cv : Value) (w' : World), Below w.heap.size w w' → isArr 4 cycleR w' cv x.cycles → Calls Try.prog fn (#[.agg #[.int .i64 x.op, .string x.name, .int .i64 x.mode, cv]] ++ caps) w' fun e w'' => e = .returned (.bool (p x)) ∧ Below w'.heap.size w' w'') :
    Calls Try.prog 99 #[v, .func (.func fn) #[] caps] w fun e w' => e = .returned (.int .i64 (idxI p l)) ∧ Below w.heap.size w w' := by
  obtain ⟨a, cap, rfl, hlen, hform⟩ := isArr_form h
  have hEn : ∀ (args : Array Value) (w : World), (callFunc fn args).run Try.prog w = .ok (.enter fn args) w := hE
  clear hE
  go_enter Try.func99, Try.ntmps99
  go_wp2_with fail
  go_loopw [8] (fun i wr => ∃ k : Nat, k ≤ l.length ∧ i = .int .i64 k ∧ k ≤ l.findIdx p ∧ Below w.heap.size w wr) (fun i _ => l.length - (intOf i).toNat)
  case atStart => exact ⟨0, Nat.zero_le _, rfl, Nat.zero_le _, Below.refl _ _⟩
  case round =>
    obtain ⟨k, hk, rfl, hF, hbel⟩ := hrel
    obtain ⟨wo, rfl⟩ : ∃ wo, wo = wr := ⟨_, rfl⟩
    have hsz := hbel.size
    by_cases hlt : k < l.length
    · obtain ⟨x, hx, _⟩ := drop_at hlt
      obtain ⟨b, off, rfl, hb, hcap, hcap2, cs, _, hcs, cv, rfl, hcy, _⟩ := hform k x hx
      obtain ⟨c0, c1, c2, c3⟩ := four_cells hcs
      rw [← hbel.cell (p := ⟨b, off + k * 4, none⟩) hb] at c0
      rw [← hbel.cell (p := ⟨b, off + k * 4 + 1, none⟩) hb] at c1
      rw [← hbel.cell (p := ⟨b, off + k * 4 + 2, none⟩) hb] at c2
      rw [← hbel.cell (p := ⟨b, off + k * 4 + 3, none⟩) hb] at c3
      have hC := hc x cv _ hbel (isArr_below cycle_keeps hcy hbel (Nat.le_refl _))
      obtain ⟨ca, ccap, rfl, _, _⟩ := isArr_form hcy
      cases hp : p x
      · rw [hp] at hC
        have HN := Lib.hid (idx_next hF hx hp)
        clear hF hx hcs hform hc hcy h hp
        go_wp2_with (with_reducible refine hC.mono ?_; rintro e w1 ⟨rfl, hb1⟩)
        go_roundw
        case rel => exact ⟨k + 1, by omega, by go_num, HN.out, hbel.trans (hb1.mono hsz)⟩
        case measure => simp [intOf]; omega
      · rw [hp] at hC
        have HN := Lib.hid (idx_here hF hx hp)
        clear hF hx hcs hform hc hcy h hp
        go_wp2_with (with_reducible refine hC.mono ?_; rintro e w1 ⟨rfl, hb1⟩)
        go_ret
        exact ⟨ret_int HN.out.symm, hbel.trans (hb1.mono hsz)⟩
    · obtain rfl : k = l.length := by omega
      have HN := Lib.hid (idx_none hF)
      clear hF hform hc h
      go_wp2_with fail
      go_ret
      exact ⟨ret_int HN.out.symm, hbel⟩
end Go.Proofs.Ytdiajkgebicnnaa
namespace Go.Proofs.Ytdiajkgebicnnaa
open Go.RowKit

def firstE (E : Nat → Int) : Nat → Nat → Int
  | _, 0 => 0
  | k, m + 1 => if E k = 0 then firstE E (k + 1) m else E k
theorem firstE_go (E : Nat → Int) (k m : Nat) (h : 0 < m) : firstE E k m = if E k = 0 then firstE E (k + 1) (m - 1) else E k := by
  cases m with
  | zero => omega
  | succ m => rfl

end Go.Proofs.Ytdiajkgebicnnaa
namespace Go.Proofs.Ytdiajkgebicnnaa
open Go.RowKit

def atE {α : Type} (f : α → Int) (l : List α) (i : Nat) : Int := match l[i]? with | some x => f x | none => 0
theorem atE_some {α : Type} {f : α → Int} {l : List α} {i : Nat} {x : α} (h : l[i]? = some x) : atE f l i = f x := by unfold atE; rw [h]
theorem firstE_from {α : Type} (f : α → Int) (F : List α → Int) (h0 : F [] = 0) (h1 : ∀ x l, F (x :: l) = if f x = 0 then F l else f x) (l : List α) :
    ∀ m k, k + m = l.length → firstE (atE f l) k m = F (l.drop k)
  | 0, k, h => by
    have : l.drop k = [] := List.drop_eq_nil_of_le (by omega)
    rw [this, h0]; rfl
  | m + 1, k, h => by
    obtain ⟨x, hx, hd⟩ := drop_at (l := l) (k := k) (by omega)
    show (if atE f l k = 0 then firstE (atE f l) (k + 1) m else atE f l k) = _
    rw [atE_some hx, hd, h1, firstE_from f F h0 h1 l m (k + 1) (by omega)]
theorem firstE_list {α : Type} (f : α → Int) (F : List α → Int) (h0 : F [] = 0) (h1 : ∀ x l, F (x :: l) = if f x = 0 then F l else f x) (l : List α) : firstE (atE f l) 0 l.length = F l :=
  firstE_from f F h0 h1 l l.length 0 (by omega)
theorem firstE_steps (l : List St) : firstE (atE stepE l) 0 l.length = stepsE l := firstE_list _ _ rfl (fun _ _ => rfl) l
theorem firstE_cycles (l : List Cy) : firstE (atE cycleE l) 0 l.length = cyclesF l := firstE_list _ _ rfl (fun _ _ => rfl) l

theorem mkFunc (fn : Fn) (first cap : Array Value) (w : World) : (Instr.makeFunc fn first cap).run Try.prog w = .ok (.func fn first cap) w := rfl

end Go.Proofs.Ytdiajkgebicnnaa
namespace Go.Proofs.Ytdiajkgebicnnaa
open Go.RowKit

/-- The function that tells the instructions with a name and a mode. -/
theorem called_at (gm gn : Nat) (name : ByteArray) (mode : Int) (x : In) (cv : Value) (w : World) (hm : w.heap[gm]? = some (.cells #[.int .i64 mode] 3 (0, 0))) (hn : w.heap[gn]? = some (.cells #[.string name] 9 (0, 0))) (hcy : isArr 4 cycleR w cv x.cycles) :
    Calls Try.prog 143 #[.agg #[.int .i64 x.op, .string x.name, .int .i64 x.mode, cv], .pointer (some ⟨gm, 0, none⟩), .pointer (some ⟨gn, 0, none⟩)] w fun e w' =>
      e = .returned (.bool (decide (name = x.name) && decide (mode = x.mode))) ∧ Below w.heap.size w w' := by
  obtain ⟨op, xn, xm, cyc⟩ := x
  dsimp only at hcy ⊢
  have km := cell_of_row w gm 0 _ _ (0, 0) hm
  have kn := cell_of_row w gn 0 _ _ (0, 0) hn
  have lm : gm < w.heap.size := (Array.getElem?_eq_some_iff.1 hm).1
  have ln : gn < w.heap.size := (Array.getElem?_eq_some_iff.1 hn).1
  obtain ⟨ca, ccap, rfl, _, _⟩ := isArr_form hcy
  clear hm hn hcy
  by_cases e1 : mode = xm
  · subst e1
    by_cases e2 : name = xn
    · subst e2
      rw [decide_eq_true rfl, decide_eq_true rfl]
      go_enter Try.func143, Try.ntmps143
      go_wp2_with fail
      go_ret
      exact ⟨rfl, (Below.refl _ _).alloc (Nat.le_refl _) _⟩
    · have t : (xn.toList == name.toList) = false := bytes_ne (fun h => e2 h.symm)
      rw [decide_eq_false e2, Bool.false_and]
      go_enter Try.func143, Try.ntmps143
      go_wp2_with fail
      go_ret
      exact ⟨rfl, (Below.refl _ _).alloc (Nat.le_refl _) _⟩
  · have t : (xm == mode) = false := by simp; exact fun h => e1 h.symm
    rw [decide_eq_false e1, Bool.and_false]
    go_enter Try.func143, Try.ntmps143
    go_wp2_with fail
    go_ret
    exact ⟨rfl, (Below.refl _ _).alloc (Nat.le_refl _) _⟩

theorem called_mk (name : ByteArray) (mode : Int) (w : World) :
    Calls Try.prog 106 #[.string name, .int .i64 mode] w fun e w' =>
      e = .returned (.func (.func 143) #[] #[.pointer (some ⟨w.heap.size + 1, 0, none⟩), .pointer (some ⟨w.heap.size, 0, none⟩)]) ∧
      (w.alloc (.cells #[.string name] 9)).alloc (.cells #[.int .i64 mode] 3) = w' := by
  have hmf := mkFunc
  go_enter Try.func106, Try.ntmps106
  go_wp2_with fail
  go_ret
  exact ⟨rfl, rfl⟩
end Go.Proofs.Ytdiajkgebicnnaa
namespace Go.Proofs.Ytdiajkgebicnnaa
open Go.RowKit

/-- The first elements of a slice. -/
theorem isArr_take {α : Type} {k : Nat} {R : World → List Value → α → Prop} {w : World} {a : Option Addr} {cap : Nat} {l : List α} (h : isArr k R w (.slice a l.length cap) l) (i : Nat) (hi : i ≤ l.length) : isArr k R w (.slice a i cap) (l.take i) := by
  rcases h with ⟨a', cap', e, rfl⟩ | ⟨b, off, cap', e, h1, h2, h3, h4⟩
  · have : i = 0 := by simpa using hi
    subst this
    exact .inl ⟨_, _, rfl, rfl⟩
  · cases e
    have hl : (l.take i).length = i := by rw [List.length_take]; omega
    refine .inr ⟨b, off, cap, by rw [hl], h1, by omega, h3, fun j x hx => ?_⟩
    have hj : j < i := by
      have := (List.getElem?_eq_some_iff.1 hx).1
      omega
    rw [List.getElem?_take_of_lt hj] at hx
    exact h4 j x hx

def insE (l : List In) (i : Nat) : Int := match l[i]? with | some x => instrE (l.take i) x | none => 0
theorem insE_some {l : List In} {i : Nat} {x : In} (h : l[i]? = some x) : insE l i = instrE (l.take i) x := by unfold insE; rw [h]
theorem firstE_ins (l : List In) : ∀ m k, k + m = l.length → firstE (insE l) k m = instrsF (l.take k) (l.drop k)
  | 0, k, h => by
    have : l.drop k = [] := List.drop_eq_nil_of_le (by omega)
    rw [this]; rfl
  | m + 1, k, h => by
    obtain ⟨x, hx, hd⟩ := drop_at (l := l) (k := k) (by omega)
    show (if insE l k = 0 then firstE (insE l) (k + 1) m else insE l k) = _
    rw [insE_some hx, hd, firstE_ins l m (k + 1) (by omega), take_next hx]
    rfl
theorem firstE_instrs (l : List In) : firstE (insE l) 0 l.length = instrsF [] l := firstE_ins l l.length 0 (by omega)

theorem five_keep {w w' : World} {p0 p1 p2 p3 p4 : Addr} {v0 v1 v2 v3 v4 : Value} (k0 : w.cell? p0 = some v0) (k1 : w.cell? p1 = some v1) (k2 : w.cell? p2 = some v2) (k3 : w.cell? p3 = some v3) (k4 : w.cell? p4 = some v4) (hb : Below w.heap.size w w') :
    w'.cell? p0 = some v0 ∧ w'.cell? p1 = some v1 ∧ w'.cell? p2 = some v2 ∧ w'.cell? p3 = some v3 ∧ w'.cell? p4 = some v4 ∧ Below w.heap.size w w' := by
  have f : ∀ {p : Addr} {v : Value}, w.cell? p = some v → w'.cell? p = some v := fun {p v} h => by
    rw [hb.cell (p := p) (cell_block h).1]; exact h
  exact ⟨f k0, f k1, f k2, f k3, f k4, hb⟩

def ansE (c : Cp) (i : Nat) : Int := if i = 0 then cyclesE c.res else if i = 1 then cyclesE c.irq else cyclesE c.nmi
theorem firstE_ans (c : Cp) : firstE (ansE c) 0 3 = if cyclesE c.res ≠ 0 then cyclesE c.res else if cyclesE c.irq ≠ 0 then cyclesE c.irq else cyclesE c.nmi := by
  show (if cyclesE c.res = 0 then if cyclesE c.irq = 0 then if cyclesE c.nmi = 0 then 0 else cyclesE c.nmi else cyclesE c.irq else cyclesE c.res) = _
  by_cases h1 : cyclesE c.res = 0 <;> by_cases h2 : cyclesE c.irq = 0 <;> by_cases h3 : cyclesE c.nmi = 0 <;> simp [h1, h2, h3]

end Go.Proofs.Ytdiajkgebicnnaa
namespace Go.Proofs.Ytdiajkgebicnnaa
open Go.RowKit

def zeroIn : In := ⟨0, ⟨#[]⟩, 0, []⟩
/-- What an instruction holds lies within what one append may ask for. -/
def sizedIn (x : In) : Prop := x.cycles.length * 48 ≤ 140737488355328 ∧ ∀ c ∈ x.cycles, c.steps.length * 32 ≤ 140737488355328
def foundIn (p : In → Bool) (l : List In) : In := (l.find? p).getD zeroIn
def isIn (p : In → Bool) (l : List In) : Bool := (l.find? p).isSome
theorem find_idx {p : In → Bool} {l : List In} {x : In} (h : l[l.findIdx p]? = some x) : foundIn p l = x ∧ isIn p l = true ∧ idxI p l = (l.findIdx p : Int) := by
  have e : l.find? p = some x := by rw [List.find?_eq_getElem?_findIdx]; exact h
  refine ⟨by unfold foundIn; rw [e]; rfl, by unfold isIn; rw [e]; rfl, ?_⟩
  unfold idxI; rw [if_pos (List.getElem?_eq_some_iff.1 h).1]
theorem find_none {p : In → Bool} {l : List In} (h : ¬ l.findIdx p < l.length) : foundIn p l = zeroIn ∧ isIn p l = false ∧ idxI p l = -1 := by
  have e : l.find? p = none := by rw [List.find?_eq_getElem?_findIdx]; exact List.getElem?_eq_none (by omega)
  refine ⟨by unfold foundIn; rw [e]; rfl, by unfold isIn; rw [e]; rfl, ?_⟩
  unfold idxI; rw [if_neg h]

/-- What a search hands back: an instruction in new memory, and whether there is one. -/
def gives (w : World) (p : In → Bool) (l : List In) (e : Ending) (w' : World) : Prop :=
  ∃ u, e = .returned (.tuple #[.agg #[.int .i64 (foundIn p l).op, .string (foundIn p l).name, .int .i64 (foundIn p l).mode, u], .bool (isIn p l)]) ∧ freshArr w.heap.size w' u (foundIn p l).cycles ∧ Below w.heap.size w w'

set_option maxRecDepth 100000 in
set_option maxHeartbeats 2000000 in
theorem find_at (fn : Nat) (caps : Array Value) (p : In → Bool) (v : Value) (l : List In) (w : World) (h : isArr 4 insR w v l) (hz : ∀ x ∈ l, sizedIn x) (hE : Enters Try.prog fn)
    (hc : ∀ (x : In) (cv : Value) (w' : World), Below w.heap.size w w' → isArr 4 cycleR w' cv x.cycles → Calls Try.prog fn (#[.agg #[.int .i64 x.op, .string x.name, .int .i64 x.mode, cv]] ++ caps) w' fun e w'' => e = .returned (.bool (p x)) ∧ Below w'.heap.size w' w'') :
    Calls Try.prog 105 #[v, .func (.func fn) #[] caps] w (gives w p l) := by
  have hA : Below w.heap.size w (w.alloc (.cells #[.int .i64 0, .string ⟨#[]⟩, .int .i64 0, .slice none 0 0] 78)) := (Below.refl _ w).alloc (Nat.le_refl _) _
  have kA := heap_alloc_new w (.cells #[.int .i64 0, .string ⟨#[]⟩, .int .i64 0, .slice none 0 0] 78)
  have HI := Lib.hid (indexFunc_at fn caps p v l _ (isArr_below ins_keeps h hA (Nat.le_refl _)) hE (fun x cv w' hb hcy => hc x cv w' (hA.trans (hb.mono hA.size)) hcy))
  have KA := Lib.hid kA
  obtain ⟨a, cap, rfl, _, hform⟩ := isArr_form h
  clear hc hE h kA
  by_cases hlt : l.findIdx p < l.length
  · obtain ⟨x, hx, _⟩ := drop_at hlt
    obtain ⟨f1, f2, f3⟩ := find_idx hx
    have hsz := hz x (List.mem_of_getElem? hx)
    unfold gives
    rw [f1, f2]
    rw [f3] at HI
    obtain ⟨b, off, rfl, hb, hcap, hcap2, cs, _, hcs, cv, rfl, hcy, _⟩ := hform _ x hx
    obtain ⟨c0, c1, c2, c3⟩ := four_cells hcs
    generalize l.findIdx p = k at *
    have HCY := Lib.hid hcy
    have HB := Lib.hid (fun (w' : World) (hbb : Below w.heap.size w w') => five_keep c0 c1 c2 c3 c3 hbb)
    obtain ⟨ca, ccap, rfl, _, _⟩ := isArr_form hcy
    obtain ⟨op, xn, xm, cyc⟩ := x
    dsimp only at c0 c1 c2 c3 hsz HCY HB ⊢
    clear hcs hx hform hz f1 f2 f3 hcy
    go_enter Try.func105, Try.ntmps105
    go_wp2_with (first
      | (go_at_call 99; refine HI.out.mono ?_; rintro e w1 ⟨rfl, hb1⟩; have B1 := hA.trans (hb1.mono hA.size); obtain ⟨m0, m1, m2, m3, _, _⟩ := HB.out _ B1; have k1 := keep_below KA.out hb1 (Nat.le_refl _))
      | (go_at_call 142; refine (copy_any ⟨op, xn, xm, cyc⟩ _ _ (isArr_below cycle_keeps HCY.out B1 (Nat.le_refl _)) hsz.1 hsz.2).mono ?_; rintro e w2 ⟨u, rfl, hu, hb2⟩; have k2 := keep_below k1 hb2 (Nat.le_refl _); obtain ⟨d0, d1, d2, d3⟩ := cells4 k2; have q0 := frozenB k2 0; have q1 := frozenB k2 1; have q2 := frozenB k2 2; have q3 := frozenB k2 3; obtain ⟨ua, ucap, rfl, _, _⟩ := isArr_form (freshArr_isArr hu)))
    refine bodyPost_ret (v := .tuple #[.agg #[_, _, _, _], _]) (by simp [results, Try.results105, go_sem, d0, d1, d2, d3]; first | exact ⟨⟨rfl, rfl, rfl, rfl⟩, rfl⟩ | rfl) rfl ?_
    have hq : w.heap.size < w1.heap.size := Nat.lt_of_lt_of_le (by simp) hb1.size
    refine ⟨_, rfl, freshArr_mono (freshArr_set (freshArr_set (freshArr_set (freshArr_set hu hq _ _) hq _ _) hq _ _) hq _ _) (by omega), ?_⟩
    have hB2 := B1.trans (hb2.mono B1.size)
    exact (((hB2.setCell (Nat.le_refl _) _).setCell (Nat.le_refl _) _).setCell (Nat.le_refl _) _).setCell (Nat.le_refl _) _
  · obtain ⟨f1, f2, f3⟩ := find_none hlt
    unfold gives
    rw [f1, f2]
    rw [f3] at HI
    clear hform hz f1 f2 f3
    go_enter Try.func105, Try.ntmps105
    go_wp2_with (first
      | (go_at_call 99; refine HI.out.mono ?_; rintro e w1 ⟨rfl, hb1⟩; have B1 := hA.trans (hb1.mono hA.size); have k1 := keep_below KA.out hb1 (Nat.le_refl _); obtain ⟨d0, d1, d2, d3⟩ := cells4 k1; have q0 := frozenB k1 0; have q1 := frozenB k1 1; have q2 := frozenB k1 2; have q3 := frozenB k1 3))
    refine bodyPost_ret (v := .tuple #[.agg #[_, _, _, _], _]) (by simp [results, Try.results105, go_sem, d0, d1, d2, d3]; first | exact ⟨⟨rfl, rfl, rfl, rfl⟩, rfl⟩ | rfl) rfl ?_
    refine ⟨_, rfl, freshArr_nil _ _ _ _, ?_⟩
    exact (((B1.setCell (Nat.le_refl _) _).setCell (Nat.le_refl _) _).setCell (Nat.le_refl _) _).setCell (Nat.le_refl _) _

def opIs (op : Int) (x : In) : Bool := x.op == op
theorem box3 {w : World} {o p q : Obj} {w' : World} (hb : Below (((w.alloc o).alloc p).alloc q).heap.size (((w.alloc o).alloc p).alloc q) w') :
    w'.heap[w.heap.size]? = some o ∧ w'.heap[w.heap.size + 1]? = some p ∧ w'.heap[w.heap.size + 2]? = some q ∧ Below w.heap.size w w' := by
  have k0 := heap_alloc_new w o
  have k1 := heap_alloc_new (w.alloc o) p
  have k2 := heap_alloc_new ((w.alloc o).alloc p) q
  simp only [World.size_alloc] at k1 k2
  have hA : Below w.heap.size w (((w.alloc o).alloc p).alloc q) := (below_two w o p).alloc (by simp; omega) q
  exact ⟨keep_below (box_alloc (box_alloc k0)) hb (Nat.le_refl _), keep_below (box_alloc k1) hb (Nat.le_refl _), keep_below k2 hb (Nat.le_refl _), hA.trans (hb.mono hA.size)⟩

/-- The four cells of a box of the caller's, set when a search has come back. -/
theorem fresh_box {lo lo' : Nat} {w : World} {v : Value} {l : List Cy} (h : freshArr lo w v l) {q : Nat} (hq : q < lo) (hl : lo' ≤ lo) (x0 x1 x2 x3 : Value) :
    freshArr lo' ((((w.setCell ⟨q, 0, none⟩ x0).setCell ⟨q, 1, none⟩ x1).setCell ⟨q, 2, none⟩ x2).setCell ⟨q, 3, none⟩ x3) v l :=
  freshArr_mono (freshArr_set (freshArr_set (freshArr_set (freshArr_set h hq _ _) hq _ _) hq _ _) hq _ _) hl
theorem below_box {B : Nat} {a w : World} (h : Below B a w) {q : Nat} (hq : B ≤ q) (x0 x1 x2 x3 : Value) :
    Below B a ((((w.setCell ⟨q, 0, none⟩ x0).setCell ⟨q, 1, none⟩ x1).setCell ⟨q, 2, none⟩ x2).setCell ⟨q, 3, none⟩ x3) :=
  (((h.setCell hq _).setCell hq _).setCell hq _).setCell hq _

theorem box4d {w : World} {o q p r : Obj} {w1 : World} (e : (((w.alloc o).alloc q).drew.alloc p).alloc r = w1) :
    w1.heap[w.heap.size]? = some o ∧ w1.heap[w.heap.size + 1]? = some q ∧ w1.heap[w.heap.size + 2]? = some p ∧ w1.heap[w.heap.size + 3]? = some r ∧ Below w.heap.size w w1 ∧ w1.heap.size = w.heap.size + 4 := by
  subst e
  have e2 : ((w.alloc o).alloc q).drew.heap.size = w.heap.size + 2 := by show ((w.alloc o).alloc q).heap.size = _; simp
  have k1 := heap_alloc_new (w.alloc o) q
  rw [World.size_alloc] at k1
  have k1' : ((w.alloc o).alloc q).drew.heap[w.heap.size + 1]? = some q := k1
  have k2 := heap_alloc_new ((w.alloc o).alloc q).drew p
  rw [e2] at k2
  have e3 : (((w.alloc o).alloc q).drew.alloc p).heap.size = w.heap.size + 3 := by rw [World.size_alloc, e2]
  have k3 := heap_alloc_new (((w.alloc o).alloc q).drew.alloc p) r
  rw [e3] at k3
  have hA : Below w.heap.size w (((w.alloc o).alloc q).drew) := (below_two w o q).drew
  have k0 : ((w.alloc o).alloc q).drew.heap[w.heap.size]? = some o := box_alloc (heap_alloc_new w o)
  exact ⟨box_alloc (box_alloc k0), box_alloc (box_alloc k1'), box_alloc k2, k3, (hA.alloc (by rw [e2]; omega) p).alloc (by rw [e3]; omega) r, by rw [World.size_alloc, e3]⟩

/-- Instructions with a name and a mode. -/
def namedIs (name : ByteArray) (mode : Int) (x : In) : Bool := decide (name = x.name) && decide (mode = x.mode)
theorem named_here (c : Cp) (name : ByteArray) (mode : Int) (v0 : Value) (w w1 : World) (h : isArr 4 insR w v0 c.instrs) (hz : ∀ x ∈ c.instrs, sizedIn x) (o q : Obj)
    (e : (((w.alloc o).alloc q).drew.alloc (.cells #[.string name] 9)).alloc (.cells #[.int .i64 mode] 3) = w1) :
    Calls Try.prog 105 #[v0, .func (.func 143) #[] #[.pointer (some ⟨w.heap.size + 3, 0, none⟩), .pointer (some ⟨w.heap.size + 2, 0, none⟩)]] w1 fun e w' =>
      ∃ u, e = .returned (.tuple #[.agg #[.int .i64 (foundIn (namedIs name mode) c.instrs).op, .string (foundIn (namedIs name mode) c.instrs).name, .int .i64 (foundIn (namedIs name mode) c.instrs).mode, u], .bool (isIn (namedIs name mode) c.instrs)]) ∧
        freshArr (w.heap.size + 4) w' u (foundIn (namedIs name mode) c.instrs).cycles ∧ Below w.heap.size w w' ∧ w'.heap[w.heap.size + 1]? = some q := by
  obtain ⟨_, k1, k2, k3, hA, hsz⟩ := box4d e
  refine (find_at 143 #[.pointer (some ⟨w.heap.size + 3, 0, none⟩), .pointer (some ⟨w.heap.size + 2, 0, none⟩)] (namedIs name mode) v0 c.instrs _ (isArr_below ins_keeps h hA (Nat.le_refl _)) hz (enters_of Try.func143 (by kernel_rfl) rfl) (fun x cv w' hb hcy => ?_)).mono ?_
  · exact called_at (w.heap.size + 3) (w.heap.size + 2) name mode x cv w' (keep_below k3 hb (Nat.le_refl _)) (keep_below k2 hb (Nat.le_refl _)) hcy
  · rintro e w' ⟨u, he, hu, hb⟩
    rw [hsz] at hu
    exact ⟨u, he, hu, hA.trans (hb.mono hA.size), keep_below k1 hb (Nat.le_refl _)⟩

set_option maxRecDepth 100000 in
set_option maxHeartbeats 1000000 in
theorem namedT_any (c : Cp) (name : ByteArray) (mode : Int) (v0 v1 v2 v3 : Value) (w : World) (h : cpuArg w v0 v1 v2 v3 c) (hz : ∀ x ∈ c.instrs, sizedIn x) :
    Calls Try.prog 69 #[.agg #[.string c.name, v0, v1, v2, v3], .string name, .int .i64 mode] w (gives w (namedIs name mode) c.instrs) := by
  obtain ⟨h0, h1, h2, h3, _⟩ := h
  obtain ⟨a0, p0, rfl, _, _⟩ := isArr_form h0
  obtain ⟨a1, p1, rfl, _, _⟩ := isArr_form h1
  obtain ⟨a2, p2, rfl, _, _⟩ := isArr_form h2
  obtain ⟨a3, p3, rfl, _, _⟩ := isArr_form h3
  have HF := Lib.hid (fun w1 o q => named_here c name mode _ w w1 h0 hz o q)
  clear h0 h1 h2 h3 hz
  unfold gives
  generalize isIn (namedIs name mode) c.instrs = F at *
  generalize foundIn (namedIs name mode) c.instrs = y at *
  go_enter Try.func69, Try.ntmps69
  go_wp2_with fail
  go_region_law (first
    | (go_simp; go_at_call 106; refine (called_mk _ _ _).mono ?_; rintro e w1 ⟨rfl, hw1⟩; have b1 := cell_of_row w1 w.heap.size 1 _ _ (0, 0) (box4d hw1).1)
    | (go_simp; go_at_call 105; refine (HF.out _ _ _ hw1).mono ?_; rintro e w2 ⟨u, rfl, hu, B2, k2⟩; clear hw1; obtain ⟨d0, d1, d2, d3⟩ := cells4 k2; have q0 := frozenB k2 0; have q1 := frozenB k2 1; have q2 := frozenB k2 2; have q3 := frozenB k2 3; obtain ⟨ua, ucap, rfl, _, _⟩ := isArr_form (freshArr_isArr hu)))
  all_goals
    go_wp2_with fail
    refine bodyPost_ret (v := .tuple #[.agg #[_, _, _, _], _]) (by simp [results, Try.results69, go_sem, d0, d1, d2, d3]; first | exact ⟨⟨rfl, rfl, rfl, rfl⟩, rfl⟩ | rfl) rfl ?_
    exact ⟨_, rfl, fresh_box hu (by omega) (by omega) _ _ _ _, below_box B2 (by omega) _ _ _ _⟩
end Go.Proofs.Ytdiajkgebicnnaa
