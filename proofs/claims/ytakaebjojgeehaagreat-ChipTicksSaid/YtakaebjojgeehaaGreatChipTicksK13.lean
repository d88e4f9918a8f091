/- A part of the proof of ChipTicks: Part, SndMathB. -/
import Derived.Test.YtakaebjojgeehaaGreatChipTicksK01
import Derived.Test.YtakaebjojgeehaaGreatChipTicksK02
import Derived.Test.YtakaebjojgeehaaGreatChipTicksK04
import Derived.Test.YtakaebjojgeehaaGreatChipTicksK05
import Derived.Test.YtakaebjojgeehaaGreatChipTicksK06
import Derived.Test.YtakaebjojgeehaaGreatChipTicksK08
import Derived.Below
import Derived.BigQuiet
import Derived.ChangeMaps5
import Derived.Deep.AppendSrc
import Derived.Deep.DeepCutAuto
import Derived.Deep.Draws
import Derived.Deep.MidRow
import Derived.Deep.OwnRows
import Derived.Deep.QuietTactic
import Derived.Deep.RegionHeld3
import Derived.Deep.RegionWith
import Derived.Deep.Slices
import Derived.Deep.WholeRow
import Derived.Lib.Hide
import Derived.Lib.SmallJoins
import Derived.OpenShut
import Derived.OrdersHeld
import Derived.OwnWalk
import Derived.RowKit3
import Derived.StillTactics
import Derived.StillTail
import Derived.StillTailTactics
import Derived.Test.YtakaebjojgeehaaGreatChecked
import Derived.WalkKit
namespace Go.Proofs.YtakaebjojgeehaaGreat
open Go.RowKit
section
variable {P : Program} {ops : Array Oper} {rest : List Oper} {o : Oper} {a : Act} {w : World} {Q : Exit → Act → World → Prop}
theorem rangeP {g : Nat} {t : TypeId} {ds : Array Value} (hg : rowB w g t ds) (k : Nat) (cs : Array Value) (hp : ∀ j, j < cs.size → cs[j]? = ds[k + j]?) : w.rangeAt g k cs.toList := fun j v hv => by
  have hv' : cs[j]? = some v := by simpa using hv
  have hj : j < cs.size := (Array.getElem?_eq_some_iff.1 hv').1
  exact rowB_cell hg (k + j) (by rw [← hp j hj]; exact hv')
/-- Some cells of a row are loaded as a struct, or stored. -/
theorem wpList_loadP (hgd : o.guard = none) (ty : TypeId) (x : Operand) (ho : o.op = .load ty x)
    (g k : Nat) (hx : a.eval x = .pointer (some ⟨g, k, none⟩)) (cs : Array Value) (t : TypeId) (ds : Array Value) (hg : rowB w g t ds) (hp : ∀ j, j < cs.size → cs[j]? = ds[k + j]?) (h9 : isAg P ty cs.size)
    (h : wpList P ops Q rest (a.put o.dst (.agg cs)) w) : wpList P ops Q (o :: rest) a w := by
  obtain ⟨⟨d, hu, hd⟩, hi⟩ := h9
  exact wpList_load_mid hgd ty x ho g k hx cs.toList d (rangeP hg k cs hp) hu hd (by simpa using hi) (by simpa using h)
theorem exec_rowP (ty : TypeId) (x : Operand) (ho : o.op = .load ty x)
    (g k : Nat) (hx : a.eval x = .pointer (some ⟨g, k, none⟩)) (cs : Array Value) (t : TypeId) (ds : Array Value) (hg : rowB w g t ds) (hp : ∀ j, j < cs.size → cs[j]? = ds[k + j]?) (h9 : isAg P ty cs.size) : (execOp a.eval o).run P w = .ok (.value (.agg cs)) w := by
  obtain ⟨⟨d, hu, hd⟩, hi⟩ := h9
  have hr := run_loadVar_mid (P := P) w g k ty cs.toList d (rangeP hg k cs hp) hu hd (by simpa using hi)
  unfold execOp
  simp only [ho, hx, Instr.loadAt, Instr.sureAddr, Sem.run_bind, Sem.run_pure, Result.andThen_ok, hr]
theorem wpList_storeP (hgd : o.guard = none) (ty : TypeId) (x y : Operand) (ho : o.op = .store ty x y)
    (g k : Nat) (hx : a.eval x = .pointer (some ⟨g, k, none⟩)) (cs : Array Value) (hy : a.eval y = .agg cs) (h1 : cs.all (·.oneCell') = true) (t : TypeId) (ds : Array Value) (hg : rowB w g t ds) (hp : k + cs.size ≤ ds.size) (h9 : isAg P ty cs.size)
    (h : wpList P ops Q rest (a.put o.dst undef) (w.setCells g k cs.toList)) : wpList P ops Q (o :: rest) a w := by
  obtain ⟨⟨d, hu, hd⟩, hi⟩ := h9
  refine wpList_store_mid hgd ty x y ho g k cs hx hy (fun j hj => ?_) hi h1 h
  have hj' : k + j < ds.size := by omega
  exact ⟨by rw [rowB_cell hg (k + j) (Array.getElem?_eq_getElem hj')]; rfl, rowB_free hg (k + j)⟩
/-- A slice of numbers is appended to one that has room for it. -/
theorem wpList_append_fit (hgd : o.guard = none) (s x : Operand) (t : TypeId) (ho : o.op = .call { callee := .builtin .append, args := #[s, x], argTypes := #[t, t] })
    (ht : P.underlying t = some (.slice 3)) (ii : TypeInfo) (hi : P.info? 3 = some ii) (hs1 : ii.size = 1)
    (g n cap : Nat) (hs : a.eval s = .slice (some ⟨g, 0, none⟩) n cap) (tg : TypeId) (cs : Array Value) (hg : rowB w g tg cs) (hcap : cap ≤ cs.size)
    (b m c : Nat) (hx : a.eval x = .slice (some ⟨b, 0, none⟩) m c) (tb : TypeId) (l : List Int) (hl : l.length = m) (hb : rowB w b tb (nums l)) (hroom : n + m ≤ cap)
    (h : wpList P ops Q rest (a.put o.dst (.slice (some ⟨g, 0, none⟩) (n + m) cap)) (w.setCells g n (l.map (Value.int .i64)))) : wpList P ops Q (o :: rest) a w := by
  have hsrc : Src P ii.size t (.slice (some ⟨b, 0, none⟩) m c) m (l.map (Value.int .i64)) w := Src.ofSlice w ht ⟨b, 0, none⟩ m c _ (by rw [hs1, List.length_map, hl, Nat.mul_one]) (fun j u hj => by
    have e : (⟨b, 0, none⟩ : Addr).add j = ⟨b, j, none⟩ := by unfold Addr.add; split <;> simp_all
    rw [e]
    exact rowB_cell hb j (by simpa [nums] using hj)) (fun u hu => by
    obtain ⟨y, _, rfl⟩ := List.mem_map.1 hu
    rfl)
  have hr := run_append_room_src (P := P) w t t o.type 3 ii ht hi g 0 n cap (.slice (some ⟨b, 0, none⟩) m c) m (l.map (Value.int .i64)) hsrc hroom
    (fun j hj => by
      rw [List.length_map, hl] at hj
      have hj' : 0 + n * ii.size + j < cs.size := by rw [hs1, Nat.mul_one]; omega
      rw [rowB_cell hg _ (Array.getElem?_eq_getElem hj')]; rfl)
    (fun j _ => rowB_free hg _)
  rw [hs1, Nat.mul_one, Nat.zero_add] at hr
  refine wpList_plain hgd fun K hK => ?_
  unfold Oper.wp execOp
  simp only [ho, resolve, invoke, builtin, Sem.run_bind, Sem.run_pure, Result.andThen_ok, List.map_toArray, List.map_cons, List.map_nil, hs, hx, hr]
  exact hK _ _ h
/-- A slice is made with room. -/
theorem wpList_make_room (hg : o.guard = none) (l c : Operand) (t : TypeId) (hop : o.op = Op.makeSlice t l c)
    (e : TypeId) (i : TypeInfo) (z : Value) (ht : P.underlying t = some (.slice e)) (hi : P.info? e = some i) (hz : i.zero = some z) (hsize : i.size = 1) (hz1 : z.cells = #[z])
    (kl kc : IntKind) (n : Nat) (hl : a.eval l = .int kl 0) (hc : a.eval c = .int kc (n : Int)) (hbytes : i.bytes * n ≤ 281474976710656) (h63 : n ≤ 9223372036854775807)
    (hK : wpList P ops Q rest (a.put o.dst (.slice (some ⟨w.heap.size, 0, none⟩) 0 n)) (w.alloc (.cells (madeCells #[z] n) e))) :
    wpList P ops Q (o :: rest) a w := by
  refine wpList_plain hg fun K hK' => ?_
  have hb' : (i.bytes : Int) * (n : Int) ≤ 281474976710656 := by
    have h : ((i.bytes * n : Nat) : Int) ≤ 281474976710656 := by omega
    rwa [Int.natCast_mul] at h
  have hr := run_make (P := P) w t e i z ht hi hz kl kc 0 n (by omega) (by omega) hb' (by omega)
  simp only [Int.toNat_natCast, hsize, Nat.mul_one, hz1] at hr
  unfold Oper.wp
  simp [execOp, hop, hl, hc, hr, Result.andThen]
  exact hK' _ _ hK
/-- The lesser one of two numbers. -/
theorem wpList_min2 (hg : o.guard = none) (x y : Operand) (t : TypeId) (ho : o.op = .call { callee := .builtin .min, args := #[x, y], argTypes := #[t, t] })
    (k : IntKind) (m n : Int) (hx : a.eval x = .int k m) (hy : a.eval y = .int k n) (h : wpList P ops Q rest (a.put o.dst (.int k (min m n))) w) : wpList P ops Q (o :: rest) a w := by
  refine wpList_plain hg fun K hK => ?_
  have e : (if n < m then n else m) = min m n := by rw [Int.min_def]; split <;> split <;> omega
  unfold Oper.wp execOp
  simp only [ho, resolve, invoke, builtin, Sem.run_bind, Sem.run_pure, Result.andThen_ok, List.map_toArray, List.map_cons, List.map_nil, hx, hy, Builtin.min_, Builtin.min2, List.foldlM_cons, List.foldlM_nil, e]
  exact hK _ _ h
theorem wpList_max2 (hg : o.guard = none) (x y : Operand) (t : TypeId) (ho : o.op = .call { callee := .builtin .max, args := #[x, y], argTypes := #[t, t] })
    (k : IntKind) (m n : Int) (hx : a.eval x = .int k m) (hy : a.eval y = .int k n) (h : wpList P ops Q rest (a.put o.dst (.int k (max m n))) w) : wpList P ops Q (o :: rest) a w := by
  refine wpList_plain hg fun K hK => ?_
  have e : (if n > m then n else m) = max m n := by rw [Int.max_def]; split <;> split <;> omega
  unfold Oper.wp execOp
  simp only [ho, resolve, invoke, builtin, Sem.run_bind, Sem.run_pure, Result.andThen_ok, List.map_toArray, List.map_cons, List.map_nil, hx, hy, Builtin.max_, Builtin.max2, List.foldlM_cons, List.foldlM_nil, e]
  exact hK _ _ h
end
end Go.Proofs.YtakaebjojgeehaaGreat
namespace Go.Proofs.YtakaebjojgeehaaGreat
theorem div_next (m p : Int) (hp : 0 < p) : ((m + 1) / p = m / p ∧ (m + 1) % p = m % p + 1 ∧ m % p + 1 < p) ∨ ((m + 1) / p = m / p + 1 ∧ (m + 1) % p = 0 ∧ m % p + 1 = p) := by
  have h1 := Int.emod_nonneg m (b := p) (by omega)
  have h2 := Int.emod_lt_of_pos m hp
  have h3 : m = m % p + p * (m / p) := (Int.emod_add_mul_ediv m p).symm
  by_cases h : m % p + 1 < p
  · refine .inl ⟨?_, ?_, h⟩
    · have e : m + 1 = (m % p + 1) + p * (m / p) := by omega
      rw [e, Int.add_mul_ediv_left _ _ (by omega), Int.ediv_eq_zero_of_lt (by omega) h]
      omega
    · have e : m + 1 = (m % p + 1) + p * (m / p) := by omega
      rw [e, Int.add_mul_emod_self_left, Int.emod_eq_of_lt (by omega) h]
  · refine .inr ⟨?_, ?_, by omega⟩
    · have e : m + 1 = p * (m / p + 1) := by rw [Int.mul_add]; omega
      rw [e, Int.mul_ediv_cancel_left _ (by omega)]
    · have e : m + 1 = p * (m / p + 1) := by rw [Int.mul_add]; omega
      rw [e, Int.mul_emod_right]
/-- So many cycles, one by one. -/
def Vc.ticks (s : Vc) : Nat → Vc
  | 0 => s
  | n + 1 => (s.ticks n).tick
def Sn.ticks (s : Sn) : Nat → Sn
  | 0 => s
  | n + 1 => (s.ticks n).tick
theorem Vc.ticks_fit {s : Vc} (h : s.fit) (n : Nat) : (s.ticks n).fit := by
  induction n with
  | zero => exact h
  | succ n ih => exact Vc.tick_fit ih
theorem Sn.ticks_fit {s : Sn} (h : s.fit) (n : Nat) : (s.ticks n).fit := by
  induction n with
  | zero => exact h
  | succ n ih => exact Sn.tick_fit ih
theorem Sn.ticks_ab (s : Sn) (n : Nat) : s.ticks n = ⟨s.a.ticks n, s.b.ticks n⟩ := by
  induction n with
  | zero => rfl
  | succ n ih => show (s.ticks n).tick = _; rw [ih]; rfl
/-- A count that grows to its end, n cycles later: how often it has come there, and what it is. -/
def cyN (p c n : Int) : Int := if n < (if c + 1 < p then p - c else 1) then 0 else 1 + (n - (if c + 1 < p then p - c else 1)) / p
def cyC (p c n : Int) : Int := if n < (if c + 1 < p then p - c else 1) then c + n else (n - (if c + 1 < p then p - c else 1)) % p
theorem cy_zero (p c : Int) : cyN p c 0 = 0 ∧ cyC p c 0 = c := by
  unfold cyN cyC
  constructor
  · rw [if_pos (by split <;> omega)]
  · rw [if_pos (by split <;> omega)]; omega
theorem cy_next (p c n : Int) (hp : 0 < p) (hn : 0 ≤ n) :
    (p ≤ cyC p c n + 1 ∧ cyC p c (n + 1) = 0 ∧ cyN p c (n + 1) = cyN p c n + 1) ∨ (cyC p c n + 1 < p ∧ cyC p c (n + 1) = cyC p c n + 1 ∧ cyN p c (n + 1) = cyN p c n) := by
  unfold cyN cyC
  obtain ⟨t, ht⟩ : ∃ t, (if c + 1 < p then p - c else 1) = t := ⟨_, rfl⟩
  rw [ht]
  have ht1 : (c + 1 < p ∧ t = p - c) ∨ (¬ c + 1 < p ∧ t = 1) := by
    by_cases h : c + 1 < p
    · exact .inl ⟨h, by rw [← ht, if_pos h]⟩
    · exact .inr ⟨h, by rw [← ht, if_neg h]⟩
  by_cases h : n + 1 < t
  · rw [if_pos (show n < t by omega), if_pos h, if_pos (show n < t by omega), if_pos h]
    exact .inr ⟨by omega, by omega, rfl⟩
  · by_cases h2 : n < t
    · rw [if_pos h2, if_neg h, if_pos h2, if_neg h]
      rw [show n + 1 - t = 0 by omega, Int.zero_emod, Int.zero_ediv]
      exact .inl ⟨by omega, rfl, rfl⟩
    · rw [if_neg h2, if_neg h, if_neg h2, if_neg h]
      rw [show n + 1 - t = (n - t) + 1 by omega]
      rcases div_next (n - t) p hp with ⟨e1, e2, e3⟩ | ⟨e1, e2, e3⟩
      · rw [e1, e2]; exact .inr ⟨e3, rfl, rfl⟩
      · rw [e1, e2]; exact .inl ⟨by omega, rfl, by omega⟩
theorem cyN_bd (p c n : Int) (hp : 0 < p) : 0 ≤ cyN p c n := by
  unfold cyN
  generalize (if c + 1 < p then p - c else 1) = t
  split
  · exact Int.le_refl 0
  · have := Int.ediv_nonneg (a := n - t) (b := p) (by omega) (by omega)
    omega
/-- A voice so many cycles later. -/
def Vc.skipW (s : Vc) (n : Int) : Vc := if 0 < s.p then ⟨s.p, s.v, s.r, cyC s.p s.c n, (s.f + cyN s.p s.c n) % 2, s.g⟩ else s
def Vc.skipF (s : Vc) (n : Int) : Vc := if 0 < s.r ∧ 0 < s.v then (if cyN (64 * s.r) s.g n < s.v then ⟨s.p, s.v - cyN (64 * s.r) s.g n, s.r, s.c, s.f, cyC (64 * s.r) s.g n⟩ else ⟨s.p, 0, s.r, s.c, s.f, 0⟩) else s
def Vc.skip (s : Vc) (n : Int) : Vc := (s.skipW n).skipF n
theorem Vc.skip_zero {s : Vc} (h : s.fit) : s.skip 0 = s := by
  have hf := h.f
  obtain ⟨p, v, r, c, f, g⟩ := s
  have e1 := cy_zero p c
  have e2 := cy_zero (64 * r) g
  dsimp only at hf
  have hW : (⟨p, v, r, c, f, g⟩ : Vc).skipW 0 = ⟨p, v, r, c, f, g⟩ := by
    unfold Vc.skipW
    dsimp only
    rw [e1.1, e1.2, Int.add_zero, Int.emod_eq_of_lt hf.1 hf.2, ite_self]
  unfold Vc.skip
  rw [hW]
  unfold Vc.skipF
  dsimp only
  rw [e2.1, e2.2, Int.sub_zero]
  split
  · rw [if_pos (by omega)]
  · rfl
/-- The fading part of a voice that has moved on. -/
theorem Vc.skip_succ {s : Vc} (h : s.fit) (n : Int) (hn : 0 ≤ n) : (s.skip n).tick = s.skip (n + 1) := by
  have hc := h.c
  have hg := h.g
  have hf := h.f
  have hv := h.v
  obtain ⟨p, v, r, c, f, g⟩ := s
  dsimp only at hc hg hf hv
  unfold Vc.skip Vc.tick
  -- the wave part
  have hW : ∀ (v r g : Int), ((⟨p, v, r, c, f, g⟩ : Vc).skipW n).wave = (⟨p, v, r, c, f, g⟩ : Vc).skipW (n + 1) := fun v r g => by
    unfold Vc.skipW Vc.wave
    dsimp only
    by_cases hp : 0 < p
    · rw [if_pos hp, if_pos hp]
      dsimp only
      rw [if_pos hp]
      rcases cy_next p c n hp hn with ⟨a1, a2, a3⟩ | ⟨a1, a2, a3⟩
      · rw [if_pos a1, a2, a3]
        have : 1 - (f + cyN p c n) % 2 = (f + (cyN p c n + 1)) % 2 := by omega
        rw [this]
      · rw [if_neg (by omega), a2, a3]
    · rw [if_neg hp, if_neg hp]
      try dsimp only
      rw [if_neg hp]
  -- the two parts do not meet
  have hC : ∀ t : Vc, t.skipF n = ⟨t.p, (t.skipF n).v, t.r, t.c, t.f, (t.skipF n).g⟩ := fun t => by
    unfold Vc.skipF
    split
    · split <;> rfl
    · rfl
  obtain ⟨c1, f1, hWn⟩ : ∃ c1 f1, (⟨p, v, r, c, f, g⟩ : Vc).skipW n = ⟨p, v, r, c1, f1, g⟩ := by
    unfold Vc.skipW
    split
    · exact ⟨_, _, rfl⟩
    · exact ⟨_, _, rfl⟩
  have hWn1 := hW v r g
  rw [hWn] at hWn1 ⊢
  rw [← hWn1]
  have hw1 : ∃ c2 f2, ∀ (v g : Int), (⟨p, v, r, c1, f1, g⟩ : Vc).wave = ⟨p, v, r, c2, f2, g⟩ := by
    unfold Vc.wave
    by_cases hp : 0 < p
    · by_cases h2 : p ≤ c1 + 1
      · exact ⟨0, 1 - f1, fun v g => by dsimp only; rw [if_pos hp, if_pos h2]⟩
      · exact ⟨c1 + 1, f1, fun v g => by dsimp only; rw [if_pos hp, if_neg h2]⟩
    · exact ⟨c1, f1, fun v g => by dsimp only; rw [if_neg hp]⟩
  obtain ⟨c2, f2, hw1⟩ := hw1
  rw [hC]
  dsimp only
  rw [hw1, hw1]
  unfold Vc.skipF
  dsimp only
  by_cases hr : 0 < r ∧ 0 < v
  · rw [if_pos hr, if_pos hr]
    have hN0 := cyN_bd (64 * r) g n (by omega)
    rcases cy_next (64 * r) g n (by omega) hn with ⟨a1, a2, a3⟩ | ⟨a1, a2, a3⟩
    · rw [a2, a3]
      by_cases hd : cyN (64 * r) g n < v
      · rw [if_pos hd]
        unfold Vc.fade
        dsimp only
        rw [if_pos ⟨hr.1, by omega⟩, if_pos a1]
        by_cases hd2 : cyN (64 * r) g n + 1 < v
        · rw [if_pos hd2]
          congr 1
          omega
        · rw [if_neg hd2]
          congr 1
          omega
      · rw [if_neg hd, if_neg (by omega)]
        unfold Vc.fade
        dsimp only
        rw [if_neg (by omega)]
    · rw [a2, a3]
      by_cases hd : cyN (64 * r) g n < v
      · rw [if_pos hd, if_pos hd]
        unfold Vc.fade
        dsimp only
        rw [if_pos ⟨hr.1, by omega⟩, if_neg (by omega)]
      · rw [if_neg hd, if_neg hd]
        unfold Vc.fade
        dsimp only
        rw [if_neg (by omega)]
  · rw [if_neg hr, if_neg hr]
    unfold Vc.fade
    dsimp only
    rw [if_neg hr]
theorem Vc.ticks_skip {s : Vc} (h : s.fit) (n : Nat) : s.ticks n = s.skip n := by
  induction n with
  | zero => exact (Vc.skip_zero h).symm
  | succ n ih => rw [Vc.ticks, ih, Vc.skip_succ h n (by omega)]; rfl
end Go.Proofs.YtakaebjojgeehaaGreat
