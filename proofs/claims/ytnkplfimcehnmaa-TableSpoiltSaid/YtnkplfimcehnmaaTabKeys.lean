/- The map in which the reference keeps names and modes that it has seen. -/
import Derived.Test.YtnkplfimcehnmaaChecked
import Derived.Test.YtnkplfimcehnmaaTabMath
import Derived.Test.YtnkplfimcehnmaaNameMath
import Derived.Maps.OwnSet
import Derived.Maps.Views
import Derived.DeepKeys4
import Derived.Maps.Keyed
import Derived.WalkKit
import Derived.KernelRfl
namespace Go.Proofs.Ytnkplfimcehnmaa
open Go.RowKit Go.Maps

def keyL (x : In) : Lit := .string (keyBytes [.string x.name.data.toList, .int .i64 x.mode])
def keyV (x : In) : Value := .agg #[.string x.name, .int .i64 x.mode]
theorem laidOutT : laidOutB Try.prog = true := by kernel_rfl
theorem sizeT : ∃ m, Try.prog.types.size = m + 1 := ⟨Try.prog.types.size - 1, by
  have : decide (0 < Try.prog.types.size) = true := by kernel_rfl
  have := of_decide_eq_true this
  omega⟩
theorem keyed : Keyed Try.prog 71 := by
  obtain ⟨m, hm⟩ := sizeT
  exact Keyed.of_law (deep_law_laid laidOutT (m := Try.prog.types.size) (by
    have : decide (Try.prog.types.size + 1 ≤ 10000) = true := by kernel_rfl
    exact of_decide_eq_true this) (of_decide_eq_true (by kernel_rfl)) (by kernel_rfl) (by kernel_rfl))
theorem lits_string {P : Program} {t : TypeId} (h : P.underlying t = some .string) (d : Nat) (s : ByteArray) (hs : s.size ≤ 9223372036854775807) : P.keyLits (d + 1) t [.string s] = some [.string s.data.toList] := by
  unfold Program.keyLits; rw [h]; simp [maxLen, hs]
theorem lits_int {P : Program} {t : TypeId} (h : P.underlying t = some (.int .i64)) (d : Nat) (n : Int) (hn : (Lit.int .i64 n).wf = true) : P.keyLits (d + 1) t [.int .i64 n] = some [.int .i64 n] := by
  unfold Program.keyLits; rw [h]; simp [hn]
theorem key_of (x : In) (h1 : x.name.size ≤ 9223372036854775807) (h2 : (Lit.int .i64 x.mode).wf = true) : keyOf Try.prog 71 (keyV x) = some (keyL x) := by
  obtain ⟨m, hm⟩ := sizeT
  have hk : Try.prog.keyType 71 = true := by kernel_rfl
  have hc : Try.prog.cellsOf 71 = 2 := by kernel_rfl
  have hc1 : Try.prog.cellsOf 9 = 1 := by kernel_rfl
  have hc2 : Try.prog.cellsOf 3 = 1 := by kernel_rfl
  unfold keyOf keyV
  rw [Try.underlying71]
  simp only [hk, Value.formed, Try.underlying71, hc, Bool.true_and]
  have e : Try.prog.keyLits (Try.prog.types.size + 1) 71 [.string x.name, .int .i64 x.mode] = some [.string x.name.data.toList, .int .i64 x.mode] := by
    rw [hm]
    unfold Program.keyLits
    rw [Try.underlying71]
    simp [hc, hc1, hc2, lits_string Try.underlying9 m x.name h1, lits_int Try.underlying3 m x.mode h2]
  simp only [Value.cells, e]
  rfl

def sameKey (x y : In) : Bool := decide (x.name = y.name) && decide (x.mode = y.mode)
def goodIn (x : In) : Prop := x.name.size ≤ 9223372036854775807 ∧ (Lit.int .i64 x.mode).wf = true
theorem sameKey_iff (x y : In) (hx : goodIn x) (hy : goodIn y) : sameKey x y = true ↔ keyL y = keyL x := by
  unfold sameKey
  rw [Bool.and_eq_true, decide_eq_true_eq, decide_eq_true_eq]
  constructor
  · rintro ⟨h1, h2⟩; unfold keyL; rw [h1, h2]
  · intro h
    have hx' := key_of x hx.1 hx.2
    have hy' := key_of y hy.1 hy.2
    rw [h] at hy'
    have hk : Try.prog.keyTypeAt Try.prog.types.size 71 = true := by kernel_rfl
    have ht := tiled_of_laidOut laidOutT Try.prog.types.size 71 (by kernel_rfl) hk
    have e := keyOf_inj_deep ht (by kernel_rfl) hx' hy'
    unfold keyV at e
    simp only [Value.agg.injEq, Array.mk.injEq, List.cons.injEq, Value.string.injEq, Value.int.injEq, true_and, and_true] at e
    exact e
def seenF (D : DataW Unit) (l : List In) : DataW Unit := l.foldl (fun D x => D.put (keyL x) (.lit (.bool true))) D
def seenD (l : List In) : DataW Unit := seenF (.map []) l
theorem seenD_snoc (l : List In) (x : In) : seenD (l ++ [x]) = (seenD l).put (keyL x) (.lit (.bool true)) := by simp [seenD, seenF, List.foldl_append]
theorem put_isMap {D : DataW Unit} (h : IsMap D) (k : Lit) (d : DataW Unit) : IsMap (D.put k d) := by obtain ⟨es, rfl⟩ := h; exact ⟨_, rfl⟩
theorem keyL_key (x : In) : WideAt.IsKeyLit (keyL x) := trivial
theorem fold_at (x : In) (hx : goodIn x) : ∀ (l : List In) (D : DataW Unit) (b : Bool), IsMap D → (∀ y ∈ l, goodIn y) → D.atKey (keyL x) (.lit (.bool false)) = .lit (.bool b) → (seenF D l).atKey (keyL x) (.lit (.bool false)) = .lit (.bool (b || l.any (sameKey x)))
  | [], D, b, _, _, h => by simpa [seenF] using h
  | y :: l, D, b, hD, hl, h => by
    have hy := hl y (.head _)
    have hs := sameKey_iff x y hx hy
    have ih := fold_at x hx l (D.put (keyL y) (.lit (.bool true))) (b || sameKey x y) (put_isMap hD _ _) (fun z hz => hl z (.tail _ hz)) (by
      cases e : sameKey x y
      · rw [atKey_put_other (fun he => by rw [hs.2 he.symm] at e; cases e), h, Bool.or_false]
      · rw [hs.1 e, atKey_put_same hD (keyL_key x), Bool.or_true])
    rw [List.any_cons, ← Bool.or_assoc]
    exact ih
theorem seen_at (l : List In) (x : In) (hx : goodIn x) (hl : ∀ y ∈ l, goodIn y) : (seenD l).atKey (keyL x) (.lit (.bool false)) = .lit (.bool (l.any (sameKey x))) := by
  have := fold_at x hx l (.map []) false isMap_empty hl rfl
  rwa [Bool.false_or] at this

/-- 'm[k]' of a map of bools, at the operation. -/
theorem wpList_lookup_own_bool {H : Type} {P : Program} (w : World) {ops : Array Oper} {rest : List Oper} {o : Oper} {a : Act} {Q : Exit → Act → World → Prop}
    (hg : o.guard = none) (m x : Operand) (t : TypeId) (hop : o.op = Op.lookup t m x false)
    (k e : TypeId) (K : Keyed P k) (ht : P.underlying t = some (.map k e)) (he : P.underlying e = some .bool) (hz : (zeroValue e).run P w = .ok (.bool false) w) (b n : Nat) (D : DataW H)
    (hm : a.eval m = .map (some b)) (hown : w.ownsMap P k (plainElem P e) b n D) (key : Value) (kl : Lit) (hx : a.eval x = key) (hkey : keyOf P k key = some kl) (r : Bool) (hr : D.atKey kl (.lit (.bool false)) = .lit (.bool r))
    (hK : wpList P ops Q rest (a.put o.dst (.bool r)) w) :
    wpList P ops Q (o :: rest) a w := by
  refine wpList_plain hg fun K' hK' => ?_
  obtain ⟨v, ps, hrun, hv⟩ := hown.lookup K ht hz (plainElem_bool he false) hkey
  rw [hr] at hv
  have hvb : v = .bool r := by
    unfold plainElem at hv
    rw [he] at hv
    cases v <;> simp at hv
    rw [hv.1]
  subst hvb
  unfold Oper.wp
  simp [execOp, hop, hm, hx, hrun, Result.andThen]
  exact hK' _ _ hK
end Go.Proofs.Ytnkplfimcehnmaa
