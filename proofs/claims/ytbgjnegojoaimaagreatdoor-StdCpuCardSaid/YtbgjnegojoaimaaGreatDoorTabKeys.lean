/- The map in which the reference keeps names and modes that it has seen. -/
import Derived.Test.YtbgjnegojoaimaaGreatDoorChecked
import Derived.Test.YtbgjnegojoaimaaGreatDoorTabMath
import Derived.Test.YtbgjnegojoaimaaGreatDoorNameMath
import Derived.Test.YtbgjnegojoaimaaGreatDoorTabIns
import Derived.Maps.OwnSet
import Derived.Maps.Views
import Derived.DeepKeys4
import Derived.Maps.Keyed
import Derived.WalkKit
import Derived.KernelRfl
namespace Go.Proofs.YtbgjnegojoaimaaGreatDoor
open Go.RowKit Go.Maps

def keyL (x : In) : Lit := .string (keyBytes [.string x.name.data.toList, .int .i64 x.mode])
def keyV (x : In) : Value := .agg #[.string x.name, .int .i64 x.mode]
theorem laidOutT : laidOutB Tryz.prog = true := by kernel_rfl
theorem sizeT : ∃ m, Tryz.prog.types.size = m + 1 := ⟨Tryz.prog.types.size - 1, by
  have : decide (0 < Tryz.prog.types.size) = true := by kernel_rfl
  have := of_decide_eq_true this
  omega⟩
theorem lits_string {P : Program} {t : TypeId} (h : P.underlying t = some .string) (d : Nat) (s : ByteArray) (hs : s.size ≤ 9223372036854775807) : P.keyLits (d + 1) t [.string s] = some [.string s.data.toList] := by
  unfold Program.keyLits; rw [h]; simp [maxLen, hs]
theorem lits_int {P : Program} {t : TypeId} (h : P.underlying t = some (.int .i64)) (d : Nat) (n : Int) (hn : (Lit.int .i64 n).wf = true) : P.keyLits (d + 1) t [.int .i64 n] = some [.int .i64 n] := by
  unfold Program.keyLits; rw [h]; simp [hn]
def sameKey (x y : In) : Bool := decide (x.name = y.name) && decide (x.mode = y.mode)
def seenF (D : DataW Unit) (l : List In) : DataW Unit := l.foldl (fun D x => D.put (keyL x) (.lit (.bool true))) D
def seenD (l : List In) : DataW Unit := seenF (.map []) l
theorem seenD_snoc (l : List In) (x : In) : seenD (l ++ [x]) = (seenD l).put (keyL x) (.lit (.bool true)) := by simp [seenD, seenF, List.foldl_append]
theorem put_isMap {D : DataW Unit} (h : IsMap D) (k : Lit) (d : DataW Unit) : IsMap (D.put k d) := by obtain ⟨es, rfl⟩ := h; exact ⟨_, rfl⟩
theorem keyL_key (x : In) : WideAt.IsKeyLit (keyL x) := trivial
/-- 'm[k]' of a map of bools, at the operation. -/
theorem wpList_lookup_own_bool {H : Type} {P : Program} (w : World) {ops : Array Oper} {rest : List Oper} {o : Oper} {a : Act} {Q : Exit → Act → World → Prop}
    (hg : o.guard = none) (m x : Operand) (t : TypeId) (hop : o.op = Op.lookup t m x false)
    (k e : TypeId) (K : Keyed P k) (ht : P.underlying t = some (.map k e)) (he : P.underlying e = some .bool) (hz : (zeroValue e).run P w = .ok (.bool false) w) (b n : Nat) (D : DataW H)
    (hm : a.eval m = .map (some b)) (hown : w.ownsMap P k (plainElem P e) b n D) (key : Value) (kl : Lit) (hx : a.eval x = key) (hkey : keyOf P k key = some kl) (r : Bool) (hr : D.atKey kl (.lit (.bool false)) = .lit (.bool r))
    (hK : wpList P ops Q rest (a.put o.dst (.bool r)) w) :
    wpList P ops Q (o :: rest) a w := by
  refine wpList_plain hg fun K' hK' => ?_
  obtain ⟨v, ps, hrun, hv⟩ := hown.lookup K ht hz (plainElem_bool he false) hkey
  rw [hr] at hv
  have hvb : v = .bool r := by
    unfold plainElem at hv
    rw [he] at hv
    cases v <;> simp at hv
    rw [hv.1]
  subst hvb
  unfold Oper.wp
  simp [execOp, hop, hm, hx, hrun, Result.andThen]
  exact hK' _ _ hK
end Go.Proofs.YtbgjnegojoaimaaGreatDoor
