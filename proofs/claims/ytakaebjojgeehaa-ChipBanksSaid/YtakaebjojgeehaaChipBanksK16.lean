/- A part of the proof of ChipBanks: Part. -/
import Derived.Test.YtakaebjojgeehaaChipBanksK01
import Derived.Test.YtakaebjojgeehaaChipBanksK02
import Derived.Test.YtakaebjojgeehaaChipBanksK03
import Derived.Test.YtakaebjojgeehaaChipBanksK04
import Derived.Test.YtakaebjojgeehaaChipBanksK05
import Derived.Test.YtakaebjojgeehaaChipBanksK06
import Derived.Below
import Derived.BigQuiet
import Derived.ChangeMaps5
import Derived.Deep.AppendSrc
import Derived.Deep.DeepCutAuto
import Derived.Deep.Draws
import Derived.Deep.MidRow
import Derived.Deep.OwnRows
import Derived.Deep.QuietTactic
import Derived.Deep.RegionHeld3
import Derived.Deep.RegionWith
import Derived.Deep.Slices
import Derived.Deep.WholeRow
import Derived.Lib.Hide
import Derived.Lib.SmallJoins
import Derived.OpenShut
import Derived.OrdersHeld
import Derived.OwnWalk
import Derived.RowKit3
import Derived.StillTactics
import Derived.StillTail
import Derived.StillTailTactics
import Derived.Test.YtakaebjojgeehaaChecked
import Derived.WalkKit
namespace Go.Proofs.Ytakaebjojgeehaa
open Go.RowKit
section
variable {P : Program} {ops : Array Oper} {rest : List Oper} {o : Oper} {a : Act} {w : World} {Q : Exit → Act → World → Prop}
theorem rangeP {g : Nat} {t : TypeId} {ds : Array Value} (hg : rowB w g t ds) (k : Nat) (cs : Array Value) (hp : ∀ j, j < cs.size → cs[j]? = ds[k + j]?) : w.rangeAt g k cs.toList := fun j v hv => by
  have hv' : cs[j]? = some v := by simpa using hv
  have hj : j < cs.size := (Array.getElem?_eq_some_iff.1 hv').1
  exact rowB_cell hg (k + j) (by rw [← hp j hj]; exact hv')
/-- Some cells of a row are loaded as a struct, or stored. -/
theorem wpList_loadP (hgd : o.guard = none) (ty : TypeId) (x : Operand) (ho : o.op = .load ty x)
    (g k : Nat) (hx : a.eval x = .pointer (some ⟨g, k, none⟩)) (cs : Array Value) (t : TypeId) (ds : Array Value) (hg : rowB w g t ds) (hp : ∀ j, j < cs.size → cs[j]? = ds[k + j]?) (h9 : isAg P ty cs.size)
    (h : wpList P ops Q rest (a.put o.dst (.agg cs)) w) : wpList P ops Q (o :: rest) a w := by
  obtain ⟨⟨d, hu, hd⟩, hi⟩ := h9
  exact wpList_load_mid hgd ty x ho g k hx cs.toList d (rangeP hg k cs hp) hu hd (by simpa using hi) (by simpa using h)
theorem exec_rowP (ty : TypeId) (x : Operand) (ho : o.op = .load ty x)
    (g k : Nat) (hx : a.eval x = .pointer (some ⟨g, k, none⟩)) (cs : Array Value) (t : TypeId) (ds : Array Value) (hg : rowB w g t ds) (hp : ∀ j, j < cs.size → cs[j]? = ds[k + j]?) (h9 : isAg P ty cs.size) : (execOp a.eval o).run P w = .ok (.value (.agg cs)) w := by
  obtain ⟨⟨d, hu, hd⟩, hi⟩ := h9
  have hr := run_loadVar_mid (P := P) w g k ty cs.toList d (rangeP hg k cs hp) hu hd (by simpa using hi)
  unfold execOp
  simp only [ho, hx, Instr.loadAt, Instr.sureAddr, Sem.run_bind, Sem.run_pure, Result.andThen_ok, hr]
theorem wpList_storeP (hgd : o.guard = none) (ty : TypeId) (x y : Operand) (ho : o.op = .store ty x y)
    (g k : Nat) (hx : a.eval x = .pointer (some ⟨g, k, none⟩)) (cs : Array Value) (hy : a.eval y = .agg cs) (h1 : cs.all (·.oneCell') = true) (t : TypeId) (ds : Array Value) (hg : rowB w g t ds) (hp : k + cs.size ≤ ds.size) (h9 : isAg P ty cs.size)
    (h : wpList P ops Q rest (a.put o.dst undef) (w.setCells g k cs.toList)) : wpList P ops Q (o :: rest) a w := by
  obtain ⟨⟨d, hu, hd⟩, hi⟩ := h9
  refine wpList_store_mid hgd ty x y ho g k cs hx hy (fun j hj => ?_) hi h1 h
  have hj' : k + j < ds.size := by omega
  exact ⟨by rw [rowB_cell hg (k + j) (Array.getElem?_eq_getElem hj')]; rfl, rowB_free hg (k + j)⟩
/-- A slice of numbers is appended to one that has room for it. -/
theorem wpList_append_fit (hgd : o.guard = none) (s x : Operand) (t : TypeId) (ho : o.op = .call { callee := .builtin .append, args := #[s, x], argTypes := #[t, t] })
    (ht : P.underlying t = some (.slice 3)) (ii : TypeInfo) (hi : P.info? 3 = some ii) (hs1 : ii.size = 1)
    (g n cap : Nat) (hs : a.eval s = .slice (some ⟨g, 0, none⟩) n cap) (tg : TypeId) (cs : Array Value) (hg : rowB w g tg cs) (hcap : cap ≤ cs.size)
    (b m c : Nat) (hx : a.eval x = .slice (some ⟨b, 0, none⟩) m c) (tb : TypeId) (l : List Int) (hl : l.length = m) (hb : rowB w b tb (nums l)) (hroom : n + m ≤ cap)
    (h : wpList P ops Q rest (a.put o.dst (.slice (some ⟨g, 0, none⟩) (n + m) cap)) (w.setCells g n (l.map (Value.int .i64)))) : wpList P ops Q (o :: rest) a w := by
  have hsrc : Src P ii.size t (.slice (some ⟨b, 0, none⟩) m c) m (l.map (Value.int .i64)) w := Src.ofSlice w ht ⟨b, 0, none⟩ m c _ (by rw [hs1, List.length_map, hl, Nat.mul_one]) (fun j u hj => by
    have e : (⟨b, 0, none⟩ : Addr).add j = ⟨b, j, none⟩ := by unfold Addr.add; split <;> simp_all
    rw [e]
    exact rowB_cell hb j (by simpa [nums] using hj)) (fun u hu => by
    obtain ⟨y, _, rfl⟩ := List.mem_map.1 hu
    rfl)
  have hr := run_append_room_src (P := P) w t t o.type 3 ii ht hi g 0 n cap (.slice (some ⟨b, 0, none⟩) m c) m (l.map (Value.int .i64)) hsrc hroom
    (fun j hj => by
      rw [List.length_map, hl] at hj
      have hj' : 0 + n * ii.size + j < cs.size := by rw [hs1, Nat.mul_one]; omega
      rw [rowB_cell hg _ (Array.getElem?_eq_getElem hj')]; rfl)
    (fun j _ => rowB_free hg _)
  rw [hs1, Nat.mul_one, Nat.zero_add] at hr
  refine wpList_plain hgd fun K hK => ?_
  unfold Oper.wp execOp
  simp only [ho, resolve, invoke, builtin, Sem.run_bind, Sem.run_pure, Result.andThen_ok, List.map_toArray, List.map_cons, List.map_nil, hs, hx, hr]
  exact hK _ _ h
/-- A slice is made with room. -/
theorem wpList_make_room (hg : o.guard = none) (l c : Operand) (t : TypeId) (hop : o.op = Op.makeSlice t l c)
    (e : TypeId) (i : TypeInfo) (z : Value) (ht : P.underlying t = some (.slice e)) (hi : P.info? e = some i) (hz : i.zero = some z) (hsize : i.size = 1) (hz1 : z.cells = #[z])
    (kl kc : IntKind) (n : Nat) (hl : a.eval l = .int kl 0) (hc : a.eval c = .int kc (n : Int)) (hbytes : i.bytes * n ≤ 281474976710656) (h63 : n ≤ 9223372036854775807)
    (hK : wpList P ops Q rest (a.put o.dst (.slice (some ⟨w.heap.size, 0, none⟩) 0 n)) (w.alloc (.cells (madeCells #[z] n) e))) :
    wpList P ops Q (o :: rest) a w := by
  refine wpList_plain hg fun K hK' => ?_
  have hb' : (i.bytes : Int) * (n : Int) ≤ 281474976710656 := by
    have h : ((i.bytes * n : Nat) : Int) ≤ 281474976710656 := by omega
    rwa [Int.natCast_mul] at h
  have hr := run_make (P := P) w t e i z ht hi hz kl kc 0 n (by omega) (by omega) hb' (by omega)
  simp only [Int.toNat_natCast, hsize, Nat.mul_one, hz1] at hr
  unfold Oper.wp
  simp [execOp, hop, hl, hc, hr, Result.andThen]
  exact hK' _ _ hK
/-- The lesser one of two numbers. -/
theorem wpList_min2 (hg : o.guard = none) (x y : Operand) (t : TypeId) (ho : o.op = .call { callee := .builtin .min, args := #[x, y], argTypes := #[t, t] })
    (k : IntKind) (m n : Int) (hx : a.eval x = .int k m) (hy : a.eval y = .int k n) (h : wpList P ops Q rest (a.put o.dst (.int k (min m n))) w) : wpList P ops Q (o :: rest) a w := by
  refine wpList_plain hg fun K hK => ?_
  have e : (if n < m then n else m) = min m n := by rw [Int.min_def]; split <;> split <;> omega
  unfold Oper.wp execOp
  simp only [ho, resolve, invoke, builtin, Sem.run_bind, Sem.run_pure, Result.andThen_ok, List.map_toArray, List.map_cons, List.map_nil, hx, hy, Builtin.min_, Builtin.min2, List.foldlM_cons, List.foldlM_nil, e]
  exact hK _ _ h
theorem wpList_max2 (hg : o.guard = none) (x y : Operand) (t : TypeId) (ho : o.op = .call { callee := .builtin .max, args := #[x, y], argTypes := #[t, t] })
    (k : IntKind) (m n : Int) (hx : a.eval x = .int k m) (hy : a.eval y = .int k n) (h : wpList P ops Q rest (a.put o.dst (.int k (max m n))) w) : wpList P ops Q (o :: rest) a w := by
  refine wpList_plain hg fun K hK => ?_
  have e : (if n > m then n else m) = max m n := by rw [Int.max_def]; split <;> split <;> omega
  unfold Oper.wp execOp
  simp only [ho, resolve, invoke, builtin, Sem.run_bind, Sem.run_pure, Result.andThen_ok, List.map_toArray, List.map_cons, List.map_nil, hx, hy, Builtin.max_, Builtin.max2, List.foldlM_cons, List.foldlM_nil, e]
  exact hK _ _ h
end
end Go.Proofs.Ytakaebjojgeehaa
