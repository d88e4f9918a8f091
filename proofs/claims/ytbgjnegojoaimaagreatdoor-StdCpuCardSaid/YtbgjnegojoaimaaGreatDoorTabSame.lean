/- Descriptions that are compared: steps, cycles, instructions. -/
import Derived.Test.YtbgjnegojoaimaaGreatDoorTabOpen
import Derived.Laws.StructEq
namespace Go.Proofs.YtbgjnegojoaimaaGreatDoor
open Go.RowKit

deriving instance DecidableEq for St
deriving instance DecidableEq for Cy
deriving instance DecidableEq for In

theorem take_grow {α : Type} {l m : List α} {k : Nat} {x y : α} (h : l.take k = m.take k) (hx : l[k]? = some x) (hy : m[k]? = some y) (e : x = y) : l.take (k + 1) = m.take (k + 1) := by
  rw [take_next hx, take_next hy, h, e]
theorem take_all {α : Type} {l m : List α} (hl : l.length = m.length) (h : l.take l.length = m.take l.length) : l = m := by
  rw [List.take_length, hl, List.take_length] at h; exact h
theorem at_ne {α : Type} {l m : List α} {k : Nat} {x y : α} (hx : l[k]? = some x) (hy : m[k]? = some y) (e : x ≠ y) : l ≠ m := fun h => by
  subst h; rw [hx] at hy; exact e (Option.some.inj hy)

def stepS (d t f n d' t' f' n' : Int) : Bool := decide ((⟨d, t, f, n⟩ : St) = ⟨d', t', f', n'⟩)
/-- How the program compares two steps. -/
theorem step_cmp (d t f n d' t' f' n' : Int) (w : World) : (Op.equalIn 10000 59 (.agg #[.int .i64 d, .int .i64 t, .int .i64 f, .int .i64 n]) (.agg #[.int .i64 d', .int .i64 t', .int .i64 f', .int .i64 n'])).run Tryz.prog w = .ok (stepS d t f n d' t' f' n') w := by
  have hf : Tryz.prog.fieldsOf 59 = #[⟨"Do", 3, 0, false, "", "", 0⟩, ⟨"To", 3, 1, false, "", "", 8⟩, ⟨"From", 3, 2, false, "", "", 16⟩, ⟨"N", 3, 3, false, "", "", 24⟩] := by unfold Program.fieldsOf; rw [Tryz.underlying59]
  have h1 : Tryz.prog.cellsOf 3 = 1 := by kernel_rfl
  rw [run_equalIn_struct _ _ _ _ _ (by rw [hf]; exact Tryz.underlying59) Tryz.stoodInHeld59, hf]
  simp only [Op.eqFields]
  unfold stepS
  simp [part, run_equalIn_int _ _ _ _ _ _ _ Tryz.underlying3]
  by_cases e1 : d = d' <;> by_cases e2 : t = t' <;> by_cases e3 : f = f' <;> by_cases e4 : n = n' <;> simp [e1, e2, e3, e4]
theorem step_eql (d t f n d' t' f' n' : Int) (w : World) : (binOp .eql 59 (.agg #[.int .i64 d, .int .i64 t, .int .i64 f, .int .i64 n]) (.agg #[.int .i64 d', .int .i64 t', .int .i64 f', .int .i64 n'])).run Tryz.prog w = .ok (.bool (stepS d t f n d' t' f' n')) w := by
  rw [run_eql_struct, step_cmp]; rfl
theorem step_neq (d t f n d' t' f' n' : Int) (w : World) : (binOp .neq 59 (.agg #[.int .i64 d, .int .i64 t, .int .i64 f, .int .i64 n]) (.agg #[.int .i64 d', .int .i64 t', .int .i64 f', .int .i64 n'])).run Tryz.prog w = .ok (.bool (!(stepS d t f n d' t' f' n'))) w := by
  rw [run_neq_struct, step_cmp]; rfl

theorem below_two (w : World) (o p : Obj) : Below w.heap.size w ((w.alloc o).alloc p) := ((Below.refl _ w).alloc (Nat.le_refl _) o).alloc (by simp) p

end Go.Proofs.YtbgjnegojoaimaaGreatDoor
