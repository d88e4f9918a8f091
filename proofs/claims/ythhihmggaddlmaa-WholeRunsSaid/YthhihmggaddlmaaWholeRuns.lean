/- The walk of the law WholeRuns. -/
import Derived.Test.YthhihmggaddlmaaChecked
import Derived.Test.YthhihmggaddlmaaWholeMem
import Derived.Below
import Derived.BigQuiet
import Derived.ChangeMaps5
import Derived.Deep.CutBlock
import Derived.Deep.DeepAppendWide
import Derived.Deep.DeepCutAuto
import Derived.Deep.Draws
import Derived.Deep.MidRow
import Derived.Deep.OwnRows
import Derived.Deep.QuietTactic
import Derived.Deep.RegionHeld3
import Derived.Deep.RegionLaw
import Derived.Deep.RegionWith
import Derived.Deep.Slices
import Derived.Deep.WholeRow
import Derived.Laws.OwnMore
import Derived.Lib.Hide
import Derived.Lib.SmallJoins
import Derived.MapViews
import Derived.Maps.OwnSet
import Derived.OpenShut
import Derived.OrdersHeld
import Derived.OwnWalk
import Derived.RowKit3
import Derived.Shelf.Abstract
import Derived.SizedLaws
import Derived.StillTactics
import Derived.StillTail
import Derived.StillTailTactics
import Derived.WalkKit
import Derived.Test.YthhihmggaddlmaaAluRef
import Derived.Test.YthhihmggaddlmaaWholeCyc
import Derived.Test.YthhihmggaddlmaaFlat
import Derived.Carry
import Derived.Test.YthhihmggaddlmaaWholeRunC
import Derived.Test.YthhihmggaddlmaaCoreEq
import Derived.ChangeKeysEq
import Derived.Laws.StructEq
import Derived.Test.YthhihmggaddlmaaWholeTms
import Derived.Test.YthhihmggaddlmaaCoreAns
import Derived.Maps.Keyed
import Derived.Maps.Own
import Derived.Maps.OwnOps
namespace Go.Proofs.Ythhihmggaddlmaa
open Go.RowKit Go.Maps
open Go.WideElems (rg)

theorem keyedI : Keyed Try.prog 3 := int_keyed Try.underlying3
theorem zeroI (w : World) : (zeroValue 3).run Try.prog w = .ok (.int .i64 0) w := by kernel_rfl

def valOf {H : Type} : DataW H → Int
  | .lit (.int _ c) => c
  | _ => 0
/-- What the memory gives at a. -/
def mapRd {H : Type} (D : DataW H) (seed a : Int) : Int :=
  if Maps.has D (.int .i64 a) = true then valOf (D.atKey (.int .i64 a) (.lit (.int .i64 0))) else wrap64 (wrap64 (wrap64 (a * a) * 7) + wrap64 (seed * wrap64 (a + 3)))
set_option maxRecDepth 100000 in
theorem map_read {H : Type} (g bm n : Nat) (D : DataW H) (seed a : Int) (w : World) (hg : rowB w g 89 #[.int .i64 seed, .map (some bm)]) (hown : w.ownsMap Try.prog 3 (plainElem Try.prog 3) bm n D) (ha : (Lit.int .i64 a).wf = true) :
    Calls Try.prog 15 #[.pointer (some ⟨g, 0, none⟩), .int .i64 a] w fun e w' => e = .returned (.int .i64 (mapRd D seed a)) ∧ w' = w := by
  have hkey := keyOf_int_mk Try.underlying3 ha
  have c0 : w.cell? ⟨g, 0, none⟩ = some (.int .i64 seed) := rowB_cell hg 0 rfl
  have c1 : w.cell? ⟨g, 1, none⟩ = some (.map (some bm)) := rowB_cell hg 1 rfl
  obtain ⟨R, hR⟩ : ∃ R, R = mapRd D seed a := ⟨_, rfl⟩
  rw [← hR]
  unfold mapRd at hR
  have HR := Lib.hid hR
  clear hR
  go_enter Try.func15, Try.ntmps15
  go_wp2_with (first
    | (at_lookup; refine wpList_lookup_own_ok_int _ rfl _ _ 87 rfl 3 3 .i64 keyedI Try.underlying87 Try.underlying3 (zeroI _) bm n D rfl hown _ _ rfl hkey ?_; intro c hat hwc)
    | go_in)
  · go_ret
    refine ⟨?_, rfl⟩
    rw [HR.out, if_pos (by assumption), hat]
    rfl
  · go_ret
    refine ⟨?_, rfl⟩
    have hf : ¬ has D (.int .i64 a) = true := by rw [show has D (.int .i64 a) = false by assumption]; decide
    rw [HR.out, if_neg hf]
    rfl
set_option maxRecDepth 100000 in
theorem map_write {H : Type} (g bm n : Nat) (D : DataW H) (seed a d : Int) (w : World) (hg : rowB w g 89 #[.int .i64 seed, .map (some bm)]) (hown : w.ownsMap Try.prog 3 (plainElem Try.prog 3) bm n D) (hn : n < maxLen) (ha : (Lit.int .i64 a).wf = true) (hd : (Lit.int .i64 d).wf = true) :
    Calls Try.prog 16 #[.pointer (some ⟨g, 0, none⟩), .int .i64 a, .int .i64 d] w fun e w' => e = .returned (.tuple #[]) ∧ w'.ownsMap Try.prog 3 (plainElem Try.prog 3) bm (n + 1) (D.put (.int .i64 a) (.lit (.int .i64 d))) ∧ w.mapTurned w' bm := by
  have hkey := keyOf_int_mk Try.underlying3 ha
  have c1 : w.cell? ⟨g, 1, none⟩ = some (.map (some bm)) := rowB_cell hg 1 rfl
  go_enter Try.func16, Try.ntmps16
  go_wp2_with (first
    | (at_mapUpdate; refine wpList_mapUpdate_in _ rfl _ _ _ 87 rfl 3 3 keyedI Try.underlying87 _ bm n D rfl hown hn _ _ _ rfl rfl hkey _ [] (plainElem_int Try.underlying3 hd) ?_; intro w1 hown1 hturn1)
    | go_in)
  go_end0
  exact ⟨rfl, hown1, hturn1⟩

/-- All keys of a map are numbers from 0 up to N. -/
def keysIn {H : Type} (N : Nat) (es : List (Lit × DataW H)) : Prop := ∀ p ∈ es, ∃ k : Nat, p.1 = .int .i64 (k : Int) ∧ k < N
theorem nodup_few : ∀ (N : Nat) (l : List Nat), l.Nodup → (∀ x ∈ l, x < N) → l.length ≤ N
  | 0, l, _, h => by
    cases l with
    | nil => simp
    | cons x l => exact absurd (h x (by simp)) (by omega)
  | N + 1, l, hn, h => by
    have h1 := nodup_few N (l.erase N) (hn.sublist List.erase_sublist) (fun x hx => by
      have h2 := (List.Nodup.mem_erase_iff hn).1 hx
      have h3 := h x h2.2
      omega)
    rw [List.length_erase] at h1
    split at h1 <;> omega
theorem keys_few {H : Type} {N : Nat} {es : List (Lit × DataW H)} (hk : keysIn N es) (hp : es.Pairwise (fun p q => p.1 ≠ q.1)) : es.length ≤ N := by
  have h : ∃ ks : List Nat, es.map (·.1) = ks.map (fun k : Nat => Lit.int .i64 (k : Int)) ∧ ∀ k ∈ ks, k < N := by
    clear hp
    induction es with
    | nil => exact ⟨[], rfl, by simp⟩
    | cons p es ih =>
      obtain ⟨k, h1, h2⟩ := hk p (by simp)
      obtain ⟨ks, h3, h4⟩ := ih (fun q hq => hk q (by simp [hq]))
      exact ⟨k :: ks, by simp [h1, h3], by simp only [List.mem_cons]; rintro x (rfl | hx); exact h2; exact h4 x hx⟩
  obtain ⟨ks, h1, h2⟩ := h
  have h3 : (es.map (·.1)).Pairwise (· ≠ ·) := List.pairwise_map.2 hp
  rw [h1, List.pairwise_map] at h3
  have h4 : ks.Nodup := h3.imp (fun hne e => hne (by rw [e]))
  have h5 := nodup_few N ks h4 h2
  have h6 := congrArg List.length h1
  simp only [List.length_map] at h6
  omega
section
variable {H : Type} {P : Program} {k : TypeId} {R : Value → Option (DataW H × List MemPlace)} {w : World} {b n : Nat}
theorem owns_few {es : List (Lit × DataW H)} {N : Nat} (h : w.ownsMap P k R b n (.map es)) (K : Keyed P k) (hk : keysIn N es) : w.ownsMap P k R b N (.map es) := by
  obtain ⟨es', e, hp, _⟩ := h.entries K
  obtain rfl : es = es' := by injection e
  have hl := keys_few hk hp
  obtain ⟨es0, clock, hb, F, _, hD⟩ := h
  refine ⟨es0, clock, hb, F, ?_, hD⟩
  have e1 : Maps.size (DataW.map ((es0.toList.map (rg P k R)).foldr DataW.insert [])) = es0.size := by simp [Maps.size, length_sorted]
  rw [← e1, ← hD]
  exact hl
end
theorem keys_put {H : Type} {N : Nat} {es : List (Lit × DataW H)} (hk : keysIn N es) {a : Int} (h0 : 0 ≤ a) (h1 : a < N) (d : DataW H) : keysIn N (ChangeMaps.putKey (.int .i64 a) d es) := by
  intro p hp
  unfold ChangeMaps.putKey at hp
  rcases ChangeMaps.mem_insert_iff.1 hp with rfl | h
  · exact ⟨a.toNat, by show Lit.int .i64 a = _; rw [Int.toNat_of_nonneg h0], by omega⟩
  · exact hk p (List.mem_filter.1 h).1

/-- The laws' map memory, as plain data: its entries. -/
abbrev MapM := List (Lit × DataW Unit)
def mapF (seed : Int) : MemF MapM := ⟨fun m a => mapRd (.map m) seed a, fun m a d => ChangeMaps.putKey (.int .i64 a) (.lit (.int .i64 d)) m⟩
def mapG (g bm : Nat) (k : Nat) : Prop := k = g ∨ k = bm
structure mapW (g bm : Nat) (seed : Int) (w : World) (m : MapM) : Prop where
  row : rowB w g 89 #[.int .i64 seed, .map (some bm)]
  own : w.ownsMap Try.prog 3 (plainElem Try.prog 3) bm 65792 (.map m)
  keys : keysIn 65792 m
theorem map_memC (g bm : Nat) (seed : Int) : memC 31 (.pointer (some ⟨g, 0, none⟩)) 15 16 (mapG g bm) (mapF seed) (mapW g bm seed) where
  mr := fun _ => by kernel_rfl
  mw := fun _ => by kernel_rfl
  er := fun _ _ => enters_of Try.func15 (by kernel_rfl) rfl _ _
  ew := fun _ _ => enters_of Try.func16 (by kernel_rfl) rfl _ _
  keep := fun w w' m h _ hs => by
    refine ⟨?_, ?_, h.keys⟩
    · have := h.row
      unfold rowB at *
      rw [hs g (.inl rfl)]; exact this
    · obtain ⟨es, clock, hb, r⟩ := h.own
      exact ⟨es, clock, (hs bm (.inr rfl)).trans hb, r⟩
  low := fun w m k h hk => by
    rcases hk with rfl | rfl
    · exact rowB_lt h.row
    · exact h.own.lt
  rd := fun w m a h0 h1 h => by
    refine (map_read g bm 65792 (.map m) seed a w h.row h.own (WalkArith.wf_i64 (by omega))).mono ?_
    rintro e w' ⟨rfl, rfl⟩
    exact ⟨rfl, Below.refl _ _⟩
  wr := fun w m a d h0 h1 h2 h3 h => by
    refine (map_write g bm 65792 (.map m) seed a d w h.row h.own (by decide) (WalkArith.wf_i64 (by omega)) (WalkArith.wf_i64 (by omega))).mono ?_
    rintro e w' ⟨rfl, ho, es, clock, es', clock', hb, rfl⟩
    rw [DataW.put_eq] at ho
    have hk := keys_put h.keys h0 (by omega) (.lit (.int .i64 d))
    have hne : g ≠ bm := by
      rintro rfl
      have := h.row
      unfold rowB at this
      rw [this] at hb
      cases hb
    refine ⟨rfl, ⟨?_, owns_few ho keyedI hk, hk⟩, ⟨rfl, rfl, rfl, by simp [ChangeMaps.setBlock], fun k _ hg => ChangeMaps.heap_setBlock_other hb _ (fun e => hg (.inr e))⟩⟩
    have := h.row
    unfold rowB at *
    rw [ChangeMaps.heap_setBlock_other hb _ hne]
    exact this
end Go.Proofs.Ythhihmggaddlmaa
namespace Go.Proofs.Ythhihmggaddlmaa
open Go.RowKit
set_option maxRecDepth 100000

/-- A part of a call's blocks: they are new, and none of the memory's; the processor lies in block cb, the memory's pointer in block nb. -/
structure oneW (cb nb g bm : Nat) (seed : Int) (w0 w : World) (cpu ks zr zb : Array Value) (m : MapM) : Prop where
  hp : rowB w cb 25 cpu
  hn : rowB w nb 31 #[.pointer (some ⟨g, 0, none⟩)]
  hk : rowB w w0.heap.size 29 ks
  hr : rowB w (w0.heap.size + 1) 29 zr
  hb : rowB w (w0.heap.size + 2) 34 zb
  off : Off (mapG g bm) w0 w
  mem : mapW g bm seed w m
  c1 : cb < w0.heap.size ∧ nb < w0.heap.size
  c2 : ¬ mapG g bm cb ∧ ¬ mapG g bm nb
section
variable {cb nb g bm : Nat} {seed : Int} {w0 w w' : World} {cpu ks zr zb : Array Value} {m : MapM}
theorem oneW.call (h : oneW cb nb g bm seed w0 w cpu ks zr zb m) (hb : Below w.heap.size w w') : oneW cb nb g bm seed w0 w' cpu ks zr zb m :=
  ⟨rowB_below h.hp hb (rowB_lt h.hp), rowB_below h.hn hb (rowB_lt h.hn), rowB_below h.hk hb (rowB_lt h.hk), rowB_below h.hr hb (rowB_lt h.hr), rowB_below h.hb hb (rowB_lt h.hb), h.off.call hb, (map_memC g bm seed).call h.mem hb, h.c1, h.c2⟩
theorem oneW.alloc (h : oneW cb nb g bm seed w0 w cpu ks zr zb m) (o : Obj) : oneW cb nb g bm seed w0 (w.alloc o) cpu ks zr zb m := h.call ((Below.refl _ _).alloc (Nat.le_refl _) o)
theorem oneW.drew (h : oneW cb nb g bm seed w0 w cpu ks zr zb m) : oneW cb nb g bm seed w0 w.drew cpu ks zr zb m := ⟨h.hp, h.hn, h.hk, h.hr, h.hb, h.off.trans (off_drew _ _), (map_memC g bm seed).drew h.mem, h.c1, h.c2⟩
theorem oneW.wrote {m' : MapM} (h : oneW cb nb g bm seed w0 w cpu ks zr zb m) (hG : ∀ k, mapG g bm k → k < w0.heap.size) (ho : Off (mapG g bm) w w') (hi : mapW g bm seed w' m') : oneW cb nb g bm seed w0 w' cpu ks zr zb m' :=
  ⟨rowB_off h.hp ho h.c2.1, rowB_off h.hn ho h.c2.2, rowB_off h.hk ho fun hg => by have := hG _ hg; omega, rowB_off h.hr ho fun hg => by have := hG _ hg; omega, rowB_off h.hb ho fun hg => by have := hG _ hg; omega, h.off.trans ho, hi, h.c1, h.c2⟩
theorem oneW.size (h : oneW cb nb g bm seed w0 w cpu ks zr zb m) : w0.heap.size + 2 < w.heap.size := rowB_lt h.hb
theorem oneW.rowAt (h : oneW cb nb g bm seed w0 w cpu ks zr zb m) (hG : ∀ k, mapG g bm k → k < w0.heap.size) {y : Nat} (hy : w0.heap.size ≤ y) (cs : Array Value) :
    rowB (w.setRow y cs) cb 25 cpu ∧ rowB (w.setRow y cs) nb 31 #[.pointer (some ⟨g, 0, none⟩)] ∧ Off (mapG g bm) w0 (w.setRow y cs) ∧ mapW g bm seed (w.setRow y cs) m :=
  have hc := h.c1
  ⟨rowB_row_other h.hp cs (by omega), rowB_row_other h.hn cs (by omega), h.off.row (.inr hy) cs, (map_memC g bm seed).row h.mem (fun hg => by have := hG _ hg; omega) cs⟩
theorem oneW.state (h : oneW cb nb g bm seed w0 w cpu ks zr zb m) (hG : ∀ k, mapG g bm k → k < w0.heap.size) (cs : Array Value) : oneW cb nb g bm seed w0 (w.setRow w0.heap.size cs) cpu cs zr zb m :=
  have r := h.rowAt hG (y := w0.heap.size) (Nat.le_refl _) cs
  ⟨r.1, r.2.1, rowB_row h.hk cs, rowB_row_other h.hr cs (by omega), rowB_row_other h.hb cs (by omega), r.2.2.1, r.2.2.2, h.c1, h.c2⟩
theorem oneW.far (h : oneW cb nb g bm seed w0 w cpu ks zr zb m) (hG : ∀ k, mapG g bm k → k < w0.heap.size) {y : Nat} (hg : w0.heap.size + 2 < y) (cs : Array Value) : oneW cb nb g bm seed w0 (w.setRow y cs) cpu ks zr zb m :=
  have r := h.rowAt hG (y := y) (by omega) cs
  ⟨r.1, r.2.1, rowB_row_other h.hk cs (by omega), rowB_row_other h.hr cs (by omega), rowB_row_other h.hb cs (by omega), r.2.2.1, r.2.2.2, h.c1, h.c2⟩
theorem oneW.farC (h : oneW cb nb g bm seed w0 w cpu ks zr zb m) (hG : ∀ k, mapG g bm k → k < w0.heap.size) {y j : Nat} (hg : w0.heap.size + 2 < y) (x : Value) : oneW cb nb g bm seed w0 (w.setCell ⟨y, j, none⟩ x) cpu ks zr zb m :=
  have hc := h.c1
  ⟨rowB_other h.hp _ _ (by show y ≠ _; omega), rowB_other h.hn _ _ (by show y ≠ _; omega), rowB_other h.hk _ _ (by show y ≠ _; omega), rowB_other h.hr _ _ (by show y ≠ _; omega), rowB_other h.hb _ _ (by show y ≠ _; omega), h.off.set (.inr (by show w0.heap.size ≤ y; omega)) x, (map_memC g bm seed).set h.mem (fun hg => by have := hG _ hg; omega) x, h.c1, h.c2⟩
theorem oneW.outR (h : oneW cb nb g bm seed w0 w cpu ks zr zb m) (hG : ∀ k, mapG g bm k → k < w0.heap.size) (cs : Array Value) : oneW cb nb g bm seed w0 (w.setRow (w0.heap.size + 1) cs) cpu ks cs zb m :=
  have r := h.rowAt hG (y := w0.heap.size + 1) (by omega) cs
  ⟨r.1, r.2.1, rowB_row_other h.hk cs (by omega), rowB_row h.hr cs, rowB_row_other h.hb cs (by omega), r.2.2.1, r.2.2.2, h.c1, h.c2⟩
theorem oneW.outB (h : oneW cb nb g bm seed w0 w cpu ks zr zb m) (hG : ∀ k, mapG g bm k → k < w0.heap.size) (cs : Array Value) : oneW cb nb g bm seed w0 (w.setRow (w0.heap.size + 2) cs) cpu ks zr cs m :=
  have r := h.rowAt hG (y := w0.heap.size + 2) (by omega) cs
  ⟨r.1, r.2.1, rowB_row_other h.hk cs (by omega), rowB_row_other h.hr cs (by omega), rowB_row h.hb cs, r.2.2.1, r.2.2.2, h.c1, h.c2⟩
theorem oneW.start (hp : rowB w cb 25 cpu) (hn : rowB w nb 31 #[.pointer (some ⟨g, 0, none⟩)]) (hi : mapW g bm seed w m) (hc : ¬ mapG g bm cb ∧ ¬ mapG g bm nb) (ks : Array Value) :
    oneW cb nb g bm seed w (((w.alloc (.cells ks 29)).alloc (.cells (core12 (fun _ => 0) 0 0 false) 29)).alloc (.cells (bus3 0 0 0) 34)) cpu ks (core12 (fun _ => 0) 0 0 false) (bus3 0 0 0) m := by
  obtain ⟨k0, k1, k2, b, s⟩ := boxes3 w (.cells ks 29) (.cells (core12 (fun _ => 0) 0 0 false) 29) (.cells (bus3 0 0 0) 34)
  exact ⟨rowB_below hp b (rowB_lt hp), rowB_below hn b (rowB_lt hn), k0, k1, k2, off_below b, (map_memC g bm seed).call hi b, ⟨rowB_lt hp, rowB_lt hn⟩, hc⟩
end

set_option maxHeartbeats 4000000 in
theorem one_any (cb nb g bm : Nat) (seed : Int) (c : Cp) (v0 v1 v2 v3 : Value) (k : Ks) (q : Bool) (m : MapM) (w : World) (hp0 : rowB w cb 25 (cpu5 c.name v0 v1 v2 v3)) (hn0 : rowB w nb 31 #[.pointer (some ⟨g, 0, none⟩)]) (hc0 : ¬ mapG g bm cb ∧ ¬ mapG g bm nb) (hm : mapW g bm seed w m)
    (hA : ∀ (f : Nat → Int) (op pl : Int) (n q : Bool) (w' : World), Off (mapG g bm) w w' → Calls Try.prog 13 #[.agg (cpu5 c.name v0 v1 v2 v3), .agg (core12 f op pl n), .bool q] w' fun e w'' => e = .returned (.tuple #[.agg (askCore c (fitR f) op pl n q), .agg (askBus c (fitR f) op pl n q)]) ∧ Below w'.heap.size w' w'')
    (hT : ∀ (f : Nat → Int) (op pl : Int) (n : Bool) (data : Int) (w' : World), Off (mapG g bm) w w' → Calls Try.prog 17 #[.agg (cpu5 c.name v0 v1 v2 v3), .agg (core12 f op pl n), .int .i64 data] w' fun e w'' => e = .returned (.agg (tellCore c (fitR f) op pl n data)) ∧ Below w'.heap.size w' w'') :
    Calls Try.prog 12 #[.agg k.row, .bool q, .pointer (some ⟨cb, 0, none⟩), .pointer (some ⟨nb, 0, none⟩)] w fun e w' =>
      e = .returned (.tuple #[.agg (cycK (mapF seed) c k q m).1.row, .agg (cycK (mapF seed) c k q m).2.1.row]) ∧ mapW g bm seed w' (cycK (mapF seed) c k q m).2.2 ∧ Off (mapG g bm) w w' := by
  have hG : ∀ k, mapG g bm k → k < w.heap.size := fun _ hg => (map_memC g bm seed).low w m _ hm hg
  obtain ⟨f, op, pl, n⟩ := k
  have hW := oneW.start hp0 hn0 hm hc0 (core12 f op pl n)
  have hask := fun w' (ho : Off (mapG g bm) w w') => hA f op pl n q w' ho
  obtain ⟨a, ha⟩ : ∃ a, a = askK c ⟨f, op, pl, n⟩ q := ⟨_, rfl⟩
  obtain ⟨b, hb⟩ : ∃ b, b = askU c ⟨f, op, pl, n⟩ q := ⟨_, rfl⟩
  have hrow : askCore c (fitR f) op pl n q = a.row := ha ▸ askK_row c ⟨f, op, pl, n⟩ q
  have hbus : askBus c (fitR f) op pl n q = b.row := hb ▸ askU_row c ⟨f, op, pl, n⟩ q
  simp only [hrow, hbus] at hask
  have hcyc : cycK (mapF seed) c ⟨f, op, pl, n⟩ q m = (tellK c a (datU (mapF seed) b m), ⟨b.d, b.a, datU (mapF seed) b m⟩, putU (mapF seed) b m) := by unfold cycK; rw [← ha, ← hb]
  obtain ⟨Dt, hDt⟩ : ∃ Dt, Dt = datU (mapF seed) b m := ⟨_, rfl⟩
  obtain ⟨m', hm'⟩ : ∃ m', m' = putU (mapF seed) b m := ⟨_, rfl⟩
  obtain ⟨t, ht⟩ : ∃ t, t = tellK c a Dt := ⟨_, rfl⟩
  rw [← hDt, ← hm', ← ht] at hcyc
  have hbd : (0 ≤ b.a ∧ b.a < 65792) ∧ 0 ≤ b.x ∧ b.x < 65536 := hb ▸ askU_bd c ⟨f, op, pl, n⟩ q
  obtain ⟨b0, b1, b2⟩ := b
  obtain ⟨⟨n1, n2⟩, n3, n4⟩ := hbd
  obtain ⟨af, ao, ap, an⟩ := a
  have htell := fun w' (ho : Off (mapG g bm) w w') => hT af ao ap an Dt w' ho
  have htr := tellK_row c ⟨af, ao, ap, an⟩ Dt
  rw [← ht] at htr
  simp only at htr
  simp only [htr] at htell
  obtain ⟨tf, tq, tp, tn⟩ := t
  rw [hcyc]
  simp only [Ks.row, Bu.row] at hask htell ⊢
  obtain ⟨Dt', hDt'⟩ : ∃ D, D = if b0 = 1 then Dt else b2 := ⟨_, rfl⟩
  have HDt' := Lib.hid hDt'
  clear hDt'
  have HDt := Lib.hid hDt
  have Hm' := Lib.hid hm'
  clear hDt hm' ht
  have HASK := Lib.hid hask
  have HTELL := Lib.hid htell
  have HRD := Lib.hid (fun w m h => (map_memC g bm seed).rd w m b1 n1 n2 h)
  have HWR := Lib.hid (fun w m h => (map_memC g bm seed).wr w m b1 b2 n1 n2 n3 n4 h)
  clear n1 n2 n3 n4
  clear hask htell hA hT hp0 hn0 hc0 hrow hbus hcyc htr ha hb
  go_enter Try.func12, Try.ntmps12
  go_upto_region 1 with (fail)
  change Code.wp _ _ _ _ (((w.alloc (.cells (core12 f op pl n) 29)).alloc (.cells (core12 (fun _ => 0) 0 0 false) 29)).alloc (.cells (bus3 0 0 0) 34))
  generalize ((w.alloc (.cells (core12 f op pl n) 29)).alloc (.cells (core12 (fun _ => 0) 0 0 false) 29)).alloc (.cells (bus3 0 0 0) 34) = w1 at *
  go_upto_region 2 with (first
      | (refine wpList_loadR rfl 25 _ rfl cb rfl 25 (cpu5 c.name v0 v1 v2 v3) ?_ agP ?_; with_reducible exact hW.hp)
      | (refine wpList_loadR rfl 29 _ rfl w.heap.size rfl 29 (core12 f op pl n) ?_ agK ?_; with_reducible exact hW.hk)
      | (go_at_call 13; refine (HASK.out _ hW.off).mono ?_; rintro e w2 ⟨rfl, hb⟩; have hW2 := (hW.call hb).alloc (.cells (bus3 0 0 0) 34); have nz := rowB_new w2 34 (bus3 0 0 0))
      | (refine wpList_storeR rfl 29 _ _ rfl w.heap.size rfl (core12 af ao ap an) rfl (core12_one _ _ _ _) 29 (core12 f op pl n) rfl ?_ agK ?_; exact hW2.hk)
      | (refine wpList_storeR rfl 34 _ _ rfl (w2.heap.size) rfl (bus3 b0 b1 b2) rfl (bus3_one _ _ _) 34 (bus3 0 0 0) rfl ?_ agB ?_; exact rowB_row_other nz _ (by have h3 := hW.size; have h4 := hb.size; omega)))
  have hW3 := (hW2.state hG (core12 af ao ap an)).far hG (y := w2.heap.size) (by have h3 := hW.size; have h4 := hb.size; omega) (bus3 b0 b1 b2)
  have nB := rowB_row (rowB_row_other nz (core12 af ao ap an) (show w.heap.size ≠ w2.heap.size by have h3 := hW.size; have h4 := hb.size; omega)) (bus3 b0 b1 b2)
  have hy : w.heap.size + 2 < w2.heap.size := by have h3 := hW.size; have h4 := hb.size; omega
  change Code.wp _ _ _ _ (((w2.alloc (.cells (bus3 0 0 0) 34)).setRow w.heap.size (core12 af ao ap an)).setRow w2.heap.size (bus3 b0 b1 b2))
  generalize ((w2.alloc (.cells (bus3 0 0 0) 34)).setRow w.heap.size (core12 af ao ap an)).setRow w2.heap.size (bus3 b0 b1 b2) = w3 at *
  generalize w2.heap.size = y at *
  clear hW hW2 hb nz
  obtain ⟨d0, d1, d2⟩ := bus3_at nB
  go_upto_if 18 with (fail)
  clear d0
  go_cut [] from 18 to 39 (fun wx => oneW cb nb g bm seed w wx (cpu5 c.name v0 v1 v2 v3) (core12 af ao ap an) (core12 (fun _ => 0) 0 0 false) (bus3 0 0 0) m ∧ rowB wx y 34 (bus3 b0 b1 Dt'))
  case first =>
    have hf2 := rowB_free nB 2
    by_cases h1 : b0 = 1
    · subst h1
      obtain rfl : Dt' = Dt := by rw [HDt'.out]; exact if_pos rfl
      clear HWR HDt'
      have dn := rowB_cell hW3.hn 0 rfl
      dsimp only [List.getElem_toArray, List.getElem_cons_zero] at dn
      go_wp2_with (first
        | (go_at_call 15; refine (HRD.out _ m hW3.mem).mono ?_; rintro e w4 ⟨rfl, hb⟩; have hW4 := hW3.call hb; have nB4 := rowB_below nB hb (rowB_lt nB); have hf4 := rowB_free nB4 2; obtain ⟨e0, e1, e2⟩ := bus3_at nB4)
        | (go_at_call 14; refine (modRef_any _ 256 (.inl rfl) _).mono ?_; rintro e w' ⟨rfl, rfl⟩; rw [← lo8_eq]))
      go_meet
      case rel => exact ⟨hW4.farC hG hy _, by rw [show Dt' = lo ((mapF seed).rd m b1) 8 from HDt.out]; exact bus3_set nB4 _⟩
    · have t1 : (b0 == 1) = false := by simpa using h1
      obtain rfl : Dt' = b2 := by rw [HDt'.out]; exact if_neg h1
      clear HDt HRD HDt'
      go_wp2_with fail
      go_meet
      case rel => exact ⟨hW3, nB⟩
  case rest =>
  clear hW3 nB d1 d2 HRD
  obtain ⟨hW3, nB⟩ := hcut
  generalize wc = w3 at *
  obtain ⟨d0, d1, d2⟩ := bus3_at nB
  go_upto_if 27 with (fail)
  clear d0
  go_cut [] from 27 to 39 (fun wx => oneW cb nb g bm seed w wx (cpu5 c.name v0 v1 v2 v3) (core12 af ao ap an) (core12 (fun _ => 0) 0 0 false) (bus3 0 0 0) m' ∧ rowB wx y 34 (bus3 b0 b1 Dt))
  case first =>
    by_cases h2 : b0 = 2
    · subst h2
      obtain rfl : Dt' = b2 := by rw [HDt'.out]; exact if_neg (by decide)
      obtain rfl : Dt = Dt' := by rw [HDt.out]; unfold datU; exact if_neg (by show ¬ (2 : Int) = 1; decide)
      obtain rfl : m' = (mapF seed).wr m b1 Dt := Hm'.out
      clear Hm' HDt HDt'
      have dn := rowB_cell hW3.hn 0 rfl
      dsimp only [List.getElem_toArray, List.getElem_cons_zero] at dn
      go_wp2_with (go_at_call 16; refine (HWR.out _ m hW3.mem).mono ?_; rintro e w4 ⟨rfl, hi, ho⟩; have hW4 := hW3.wrote hG ho hi; have nB4 := rowB_off nB ho (fun hg => by have := hG _ hg; omega))
      go_meet
      case rel => exact ⟨hW4, nB4⟩
    · have t2 : (b0 == 2) = false := by simpa using h2
      obtain rfl : m' = m := by rw [Hm'.out]; unfold putU; exact if_neg h2
      have hDD : Dt' = Dt := by
        rw [HDt'.out]
        by_cases h1 : b0 = 1
        · exact if_pos h1
        · rw [if_neg h1, HDt.out]; unfold datU; exact (if_neg h1).symm
      subst hDD
      clear Hm' HDt HDt'
      go_wp2_with fail
      go_meet
      case rel => exact ⟨hW3, nB⟩
  case rest =>
    clear hW3 nB d1 d2 HWR HASK
    obtain ⟨hW, nB⟩ := hcut
    clear hm HDt HDt' Hm'
    go_upto_region 6 with (fail)
    obtain ⟨d0, d1, d2⟩ := bus3_at nB
    refine wp_region_mix (fun w' => rowB w' cb 25 (cpu5 c.name v0 v1 v2 v3) ∧ rowB w' w.heap.size 29 (core12 af ao ap an) ∧ rowB w' y 34 (bus3 b0 b1 Dt)) [(0, 1), (1, 1), (2, 0), (3, 0), (5, 1), (4, 3), (6, 3), (7, 2)] (by kernel_rfl) (by kernel_rfl) (fun _ _ _ _ _ h => h) ?_
    simp only [List.map_cons, List.map_nil, opOf, List.getD_cons_zero, List.getD_cons_succ]
    change wpMix _ _ _ _ _ _ wc.drew
    have hW := hW.drew
    have nB : rowB wc.drew y 34 (bus3 b0 b1 Dt) := nB
    have d2 : wc.drew.cell? ⟨y, 2, none⟩ = some (.int .i64 Dt) := d2
    clear d0 d1
    generalize wc.drew = wd at *
    refine wpMix_held (.agg (cpu5 c.name v0 v1 v2 v3)) rfl ⟨hW.hp, hW.hk, nB⟩ (fun w' h' => exec_rowR 25 _ rfl cb rfl 25 (cpu5 c.name v0 v1 v2 v3) h'.1 agP) ?_
    simp only [Act.put, List.setIfInBounds_toArray, List.set_cons_zero, List.set_cons_succ]
    refine wpMix_held (.agg (core12 af ao ap an)) rfl ⟨hW.hp, hW.hk, nB⟩ (fun w' h' => exec_rowR 29 _ rfl w.heap.size rfl 29 (core12 af ao ap an) h'.2.1 agK) ?_
    simp only [Act.put, List.setIfInBounds_toArray, List.set_cons_zero, List.set_cons_succ]
    (refine wpMix_still (fun K hK => ?_); go_simp; refine hK _ ?_; clear hK K)
    (refine wpMix_still (fun K hK => ?_); go_simp; refine hK _ ?_; clear hK K)
    refine wpMix_held (.agg (bus3 b0 b1 Dt)) rfl ⟨hW.hp, hW.hk, nB⟩ (fun w' h' => exec_rowR 34 _ rfl y rfl 34 (bus3 b0 b1 Dt) h'.2.2 agB) ?_
    simp only [Act.put, List.setIfInBounds_toArray, List.set_cons_zero, List.set_cons_succ]
    refine wpMix_call ?_
    go_wp2_with (go_at_call 17; refine (HTELL.out _ hW.off).mono ?_; rintro e we ⟨rfl, hb⟩; have hW2 := hW.call hb; have nB2 := rowB_below nB hb (rowB_lt nB))
    first | refine ⟨fun _ => ⟨hW2.hp, hW2.hk, nB2⟩, ?_⟩ | refine ⟨⟨hW2.hp, hW2.hk, nB2⟩, ?_⟩
    clear hW nB d2 hb
    refine wpMix_call ?_
    go_wp2_with (refine wpList_storeR rfl 29 _ _ rfl (w.heap.size + 1) rfl (core12 tf tq tp tn) rfl (core12_one _ _ _ _) 29 (core12 (fun _ => 0) 0 0 false) rfl ?_ agK ?_; with_reducible exact hW2.hr)
    have hW3 := hW2.outR hG (core12 tf tq tp tn)
    have nB3 := rowB_row_other nB2 (core12 tf tq tp tn) (show w.heap.size + 1 ≠ y by omega)
    first | refine ⟨fun _ => ⟨hW3.hp, hW3.hk, nB3⟩, ?_⟩ | refine ⟨⟨hW3.hp, hW3.hk, nB3⟩, ?_⟩
    generalize we.setRow (w.heap.size + 1) (core12 tf tq tp tn) = wf at *
    clear hW2 nB2
    refine wpMix_call ?_
    go_wp2_with (refine wpList_storeR rfl 34 _ _ rfl (w.heap.size + 2) rfl (bus3 b0 b1 Dt) rfl (bus3_one _ _ _) 34 (bus3 0 0 0) rfl ?_ agB ?_; with_reducible exact hW3.hb)
    have hW4 := hW3.outB hG (bus3 b0 b1 Dt)
    first | refine ⟨fun h => (by cases h), ?_⟩ | skip
    generalize wf.setRow (w.heap.size + 2) (bus3 b0 b1 Dt) = wg at *
    clear hW3 nB3
    refine wpMix_nil ?_
    go_wp2_with fail
    exact bodyPost_ret (resultsRR rfl (w.heap.size + 1) (w.heap.size + 2) _ rfl rfl hW4.hr hW4.hb agK agB) rfl ⟨rfl, hW4.mem, hW4.off⟩
end Go.Proofs.Ythhihmggaddlmaa
namespace Go.Proofs.Ythhihmggaddlmaa
open Go.RowKit Go.Maps

set_option maxRecDepth 100000 in
theorem stored_any (seed : Int) (w : World) : Calls Try.prog 11 #[.int .i64 seed] w fun e w' =>
    ∃ g bm, e = .returned (.pointer (some ⟨g, 0, none⟩)) ∧ mapW g bm (at16 seed : Int) w' [] ∧ Below w.heap.size w w' ∧ w.heap.size ≤ g ∧ w.heap.size ≤ bm := by
  have hmm := @run_makeMap Try.prog
  have hand := and65535 seed
  go_enter Try.func11, Try.ntmps11
  go_wp2_with fail
  go_ret
  have hm := World.ownsMap_made (H := Unit) w Try.prog 3 (plainElem Try.prog 3)
  have hr := rowB_new (w.alloc (.map #[] 0)) 89 #[.int .i64 (at16 seed : Int), .map (some w.heap.size)]
  rw [World.size_alloc] at hr
  refine ⟨w.heap.size + 1, w.heap.size, rfl, ⟨hr, (hm.mono (by decide)).alloc _, by intro p hp; cases hp⟩, ?_, by omega, Nat.le_refl _⟩
  exact ((Below.refl _ w).alloc (Nat.le_refl _) _).alloc (by rw [World.size_alloc]; omega) _
end Go.Proofs.Ythhihmggaddlmaa
namespace Go.Proofs.Ythhihmggaddlmaa
open Go.RowKit
set_option maxRecDepth 100000

/-- Where they lie: the boxes s and s + 1, the first memory, the second one, the pointer. -/
structure geoL (s g1 b1 g2 b2 nb : Nat) : Prop where
  a : s + 2 ≤ g1 ∧ s + 2 ≤ b1
  b : g1 < g2 ∧ g1 < b2 ∧ b1 < g2 ∧ b1 < b2
  c : g2 < nb ∧ b2 < nb
theorem geoL.out1 {s g1 b1 g2 b2 nb k : Nat} (h : geoL s g1 b1 g2 b2 nb) (hk : k ≤ s + 1 ∨ k = g2 ∨ k = b2 ∨ nb ≤ k) : ¬ mapG g1 b1 k := by
  obtain ⟨h1, h2, h3⟩ := h
  unfold mapG
  omega
theorem geoL.out2 {s g1 b1 g2 b2 nb k : Nat} (h : geoL s g1 b1 g2 b2 nb) (hk : k ≤ s + 1 ∨ k = g1 ∨ k = b1 ∨ nb ≤ k) : ¬ mapG g2 b2 k := by
  obtain ⟨h1, h2, h3⟩ := h
  unfold mapG
  omega
theorem geoL.out2' {s g1 b1 g2 b2 nb k : Nat} (h : geoL s g1 b1 g2 b2 nb) (hk : nb ≤ k) : ¬ mapG g2 b2 k := h.out2 (.inr (.inr (.inr hk)))
structure lawR (g1 b1 g2 b2 nb : Nat) (sd : Int) (w0 w : World) (cpu ks : Array Value) (m1 m2 : MapM) : Prop where
  geo : geoL w0.heap.size g1 b1 g2 b2 nb
  hp : rowB w w0.heap.size 25 cpu
  hk : rowB w (w0.heap.size + 1) 29 ks
  hn : rowB w nb 31 #[.pointer (some ⟨g2, 0, none⟩)]
  m1 : mapW g1 b1 sd w m1
  m2 : mapW g2 b2 sd w m2
  bel : Below w0.heap.size w0 w
section
variable {g1 b1 g2 b2 nb : Nat} {sd : Int} {w0 w w' : World} {cpu ks : Array Value} {m1 m2 : MapM}
theorem lawR.lt (h : lawR g1 b1 g2 b2 nb sd w0 w cpu ks m1 m2) : nb < w.heap.size := rowB_lt h.hn
theorem lawR.off1 {m' : MapM} (h : lawR g1 b1 g2 b2 nb sd w0 w cpu ks m1 m2) (ho : Off (mapG g1 b1) w w') (hi : mapW g1 b1 sd w' m') : lawR g1 b1 g2 b2 nb sd w0 w' cpu ks m' m2 :=
  ⟨h.geo, rowB_off h.hp ho (h.geo.out1 (.inl (by omega))), rowB_off h.hk ho (h.geo.out1 (.inl (by omega))), rowB_off h.hn ho (h.geo.out1 (.inr (.inr (.inr (Nat.le_refl _))))), hi,
    (map_memC g2 b2 sd).keep w w' m2 h.m2 ho.size (fun g hg => ho.block g ((map_memC g2 b2 sd).low w m2 g h.m2 hg) (h.geo.out1 (.inr (by rcases hg with hg | hg <;> omega)))),
    h.bel.trans (ho.below h.bel.size (fun g hg => by have := h.geo.a; rcases hg with hg | hg <;> omega))⟩
theorem lawR.off2 {m' : MapM} (h : lawR g1 b1 g2 b2 nb sd w0 w cpu ks m1 m2) (ho : Off (mapG g2 b2) w w') (hi : mapW g2 b2 sd w' m') : lawR g1 b1 g2 b2 nb sd w0 w' cpu ks m1 m' :=
  ⟨h.geo, rowB_off h.hp ho (h.geo.out2 (.inl (by omega))), rowB_off h.hk ho (h.geo.out2 (.inl (by omega))), rowB_off h.hn ho (h.geo.out2 (.inr (.inr (.inr (Nat.le_refl _))))),
    (map_memC g1 b1 sd).keep w w' m1 h.m1 ho.size (fun g hg => ho.block g ((map_memC g1 b1 sd).low w m1 g h.m1 hg) (h.geo.out2 (.inr (by rcases hg with hg | hg <;> omega)))), hi,
    h.bel.trans (ho.below h.bel.size (fun g hg => by have := h.geo.a; have := h.geo.b; rcases hg with hg | hg <;> omega))⟩
/-- Blocks behind the pointer, or new ones, written: nothing of these is touched. -/
theorem lawR.far {Z : Nat → Prop} (h : lawR g1 b1 g2 b2 nb sd w0 w cpu ks m1 m2) (ho : Off Z w w') (hZ : ∀ k, Z k → nb < k) : lawR g1 b1 g2 b2 nb sd w0 w' cpu ks m1 m2 :=
  have ha := h.geo.a
  have hb := h.geo.b
  have hc := h.geo.c
  have hm := fun k (hk : Z k) => hZ k hk
  ⟨h.geo, rowB_off h.hp ho (fun hz => by have := hm _ hz; omega), rowB_off h.hk ho (fun hz => by have := hm _ hz; omega), rowB_off h.hn ho (fun hz => by have := hm _ hz; omega),
    (map_memC g1 b1 sd).keep w w' m1 h.m1 ho.size (fun g hg => ho.block g ((map_memC g1 b1 sd).low w m1 g h.m1 hg) (fun hz => by have := hm _ hz; rcases hg with hg | hg <;> omega)),
    (map_memC g2 b2 sd).keep w w' m2 h.m2 ho.size (fun g hg => ho.block g ((map_memC g2 b2 sd).low w m2 g h.m2 hg) (fun hz => by have := hm _ hz; rcases hg with hg | hg <;> omega)),
    h.bel.trans (ho.below h.bel.size (fun g hg => by have := hm _ hg; omega))⟩
theorem lawR.off3 {m' : MapM} {y : Nat} (h : lawR g1 b1 g2 b2 nb sd w0 w cpu ks m1 m2) (hy : nb < y) (ho : Off (fun k => mapG g2 b2 k ∨ k = y) w w') (hi : mapW g2 b2 sd w' m') : lawR g1 b1 g2 b2 nb sd w0 w' cpu ks m1 m' :=
  have ha := h.geo.a
  have hb := h.geo.b
  have hc := h.geo.c
  have hn : ∀ k, (mapG g2 b2 k ∨ k = y) → k = g2 ∨ k = b2 ∨ k = y := fun k hk => by unfold mapG at hk; omega
  ⟨h.geo, rowB_off h.hp ho (fun hz => by have := hn _ hz; omega), rowB_off h.hk ho (fun hz => by have := hn _ hz; omega), rowB_off h.hn ho (fun hz => by have := hn _ hz; omega),
    (map_memC g1 b1 sd).keep w w' m1 h.m1 ho.size (fun g hg => ho.block g ((map_memC g1 b1 sd).low w m1 g h.m1 hg) (fun hz => by have := hn _ hz; rcases hg with hg | hg <;> omega)), hi,
    h.bel.trans (ho.below h.bel.size (fun g hg => by have := hn _ hg; omega))⟩
end
/-- A new box of its own behind a call, and its row set: the pair of state and bus that a cycle gives. -/
theorem pair_off (w : World) (k b : Array Value) :
    Off (fun _ => False) w ((((w.alloc (.cells (core12 (fun _ => 0) 0 0 false) 29)).alloc (.cells (bus3 0 0 0) 34)).setRow w.heap.size k).setRow (w.heap.size + 1) b) :=
  ((((Off.refl _ w).alloc _).alloc _).row (.inr (Nat.le_refl _)) k).row (.inr (Nat.le_succ _)) b
theorem pair_rows (w : World) (k b : Array Value) :
    rowB ((((w.alloc (.cells (core12 (fun _ => 0) 0 0 false) 29)).alloc (.cells (bus3 0 0 0) 34)).setRow w.heap.size k).setRow (w.heap.size + 1) b) w.heap.size 29 k ∧
    rowB ((((w.alloc (.cells (core12 (fun _ => 0) 0 0 false) 29)).alloc (.cells (bus3 0 0 0) 34)).setRow w.heap.size k).setRow (w.heap.size + 1) b) (w.heap.size + 1) 34 b := by
  obtain ⟨k0, k1, bW, sW⟩ := boxes2 w (.cells (core12 (fun _ => 0) 0 0 false) 29) (.cells (bus3 0 0 0) 34)
  have k0 : rowB _ _ _ _ := k0
  have k1 : rowB _ _ _ _ := k1
  exact ⟨rowB_row_other (rowB_row k0 k) b (by omega), rowB_row (rowB_row_other k1 k (by omega)) b⟩
theorem pair_half (w : World) (k : Array Value) : rowB (((w.alloc (.cells (core12 (fun _ => 0) 0 0 false) 29)).alloc (.cells (bus3 0 0 0) 34)).setRow w.heap.size k) (w.heap.size + 1) 34 (bus3 0 0 0) := by
  obtain ⟨k0, k1, bW, sW⟩ := boxes2 w (.cells (core12 (fun _ => 0) 0 0 false) 29) (.cells (bus3 0 0 0) 34)
  exact rowB_row_other (show rowB _ _ _ _ from k1) k (by omega)
theorem ownArr_to {α : Type} {k : Nat} {R : List Value → α → Prop} {B : Nat} {e : TypeId} {w : World} {v : Value} {l : List α} (h : ownArr k R B e w v l) : isArr k (fun _ => R) w v l := ownArr_isArr h
theorem grown_off {lo : Nat} {u : Value} {l : List Bu} {w w' : World} (hu : busO lo w u l) (hg : w.grownBy w' u.ownBlock) : Off (fun k => lo ≤ k) w w' :=
  ⟨hg.os, hg.tape, hg.output, hg.size, fun k hk hn => hg.block k hk fun e => by
    rcases ownArr_off hu (show k < lo by omega) with h1 | h1
    · rw [h1] at e; cases e
    · exact h1 e.symm⟩
theorem off_tail {G : Nat → Prop} {a b c : World} (h : Off G a b) (k : Off (fun k => a.heap.size ≤ k) b c) : Off G a c :=
  ⟨k.os.trans h.os, k.tape.trans h.tape, k.output.trans h.output, Nat.le_trans h.size k.size, fun i hi hg => (k.block i (Nat.lt_of_lt_of_le hi h.size) (by omega)).trans (h.block i hi hg)⟩
theorem mapW_off {g bm : Nat} {sd : Int} {w w' : World} {m : MapM} {G : Nat → Prop} (h : mapW g bm sd w m) (ho : Off G w w') (hG : ∀ k, mapG g bm k → ¬ G k) : mapW g bm sd w' m :=
  (map_memC g bm sd).keep w w' m h ho.size fun k hk => ho.block k ((map_memC g bm sd).low w m k h hk) (hG k hk)
end Go.Proofs.Ythhihmggaddlmaa
namespace Go.Proofs.Ythhihmggaddlmaa
open Go.RowKit

set_option maxRecDepth 100000 in
set_option maxHeartbeats 1000000 in
theorem equalBus_any (v u : Value) (l : List Bu) (w : World) (h : isArr 3 (fun _ => busQ) w v l) (g : isArr 3 (fun _ => busQ) w u l) :
    Calls Try.prog 20 #[v, u] w fun e w' => e = .returned (.bool true) ∧ Qt w w' := by
  obtain ⟨a, cap, rfl, hlen, hform⟩ := isArr_form h
  obtain ⟨a', cap', rfl, _, gform⟩ := isArr_form g
  clear h g
  have hz : ((l.length : Int) != (l.length : Int)) = false := by simp
  go_enter Try.func20, Try.ntmps20
  go_wp2_with fail
  go_loopw [13] (fun i wr => ∃ k : Nat, k ≤ l.length ∧ i = .int .i64 k ∧ Qt w wr) (fun i _ => l.length - (intOf i).toNat)
  case atStart => exact ⟨0, Nat.zero_le _, rfl, Qt.refl _⟩
  case round =>
    obtain ⟨k, hk, rfl, hq⟩ := hrel
    by_cases hlt : k < l.length
    · have hl9 := hlen (by omega)
      obtain ⟨x, hx, _⟩ := drop_at hlt
      obtain ⟨b, off, rfl, hb, hc1, hc2, cs, _, hcs, rfl⟩ := hform k x hx
      obtain ⟨b', off', rfl, hb', hd1, hd2, ds, _, hds, rfl⟩ := gform k x hx
      have c0 := hcs 0 (by decide)
      have c1 := hcs 1 (by decide)
      have c2 := hcs 2 (by decide)
      have d0 := hds 0 (by decide)
      have d1 := hds 1 (by decide)
      have d2 := hds 2 (by decide)
      simp only [Nat.add_zero, List.getElem?_cons_zero, List.getElem?_cons_succ] at c0 c1 c2 d0 d1 d2
      rw [← hq.cell] at c0 c1 c2 d0 d1 d2
      obtain ⟨xd, xa, xx⟩ := x
      dsimp only at c0 c1 c2 d0 d1 d2
      have he := equal3 xd xa xx
      unfold bus3 at he
      clear hform gform hcs hds hx
      go_wp2_with fail
      go_quiet (fail)
      go_wp2_with fail
      go_round
      case rel => exact ⟨k + 1, by omega, by go_num, hq.drewN _⟩
      case measure => simp [intOf]; omega
    · obtain rfl : k = l.length := by omega
      clear hform gform
      go_wp2_with fail
      go_ret
      exact ⟨rfl, hq⟩
end Go.Proofs.Ythhihmggaddlmaa
namespace Go.Proofs.Ythhihmggaddlmaa
open Go.RowKit

theorem one_cycle (w : World) (t : TypeId) : isArr 4 cycleR (w.alloc (.cells #[.int .i64 0, .int .i64 0, .int .i64 0, .slice none 0 0] t)) (.slice (some ⟨w.heap.size, 0, none⟩) 1 1) [⟨0, 0, 0, []⟩] := by
  have hb := rowB_new w t #[.int .i64 0, .int .i64 0, .int .i64 0, .slice none 0 0]
  refine .inr ⟨w.heap.size, 0, 1, rfl, rowB_lt hb, Nat.le_refl _, by decide, ?_⟩
  intro i x hx
  cases i with
  | succ i => simp at hx
  | zero =>
    obtain rfl : (⟨0, 0, 0, []⟩ : Cy) = x := by simpa using hx
    refine ⟨[.int .i64 0, .int .i64 0, .int .i64 0, .slice none 0 0], rfl, ?_, _, rfl, .inl ⟨_, _, rfl, rfl⟩⟩
    intro j hj
    have : j = 0 ∨ j = 1 ∨ j = 2 ∨ j = 3 := by omega
    rcases this with rfl | rfl | rfl | rfl <;> exact rowB_cell hb _ rfl
set_option maxRecDepth 100000 in
theorem wholes_tells (w : World) : Calls Try.prog 10 #[] w fun e w' => e = .returned (.bool true) ∧ Below w.heap.size w w' := by
  have h1 := one_cycle w 84
  have hb := box_below w (.cells #[.int .i64 0, .int .i64 0, .int .i64 0, .slice none 0 0] 84)
  have HT := Lib.hid (times_any 0 ⟨#[]⟩ 0 _ _ _ h1 (by decide))
  clear h1
  go_enter Try.func10, Try.ntmps10
  go_wp2_with (go_at_call 50; refine HT.out.mono ?_; rintro e w1 ⟨rfl, hb1⟩)
  go_ret
  exact ⟨rfl, hb.trans (hb1.mono hb.size)⟩

end Go.Proofs.Ythhihmggaddlmaa
namespace Go.Proofs.Ythhihmggaddlmaa
open Go.RowKit
set_option maxRecDepth 100000

set_option maxHeartbeats 4000000 in
theorem wholeRuns_walk (c : Cp) (v0 v1 v2 v3 : Value) (f : Nat → Int) (op pl : Int) (n q : Bool) (seed : Int) (w : World) (h : cpuArg w v0 v1 v2 v3 c) :
    Calls Try.prog 3 #[.agg #[.string c.name, v0, v1, v2, v3], .agg (core12 f op pl n), .bool q, .int .i64 seed] w fun e w' => e = .returned (.bool true) ∧ Below w.heap.size w w' := by
  change Calls Try.prog 3 #[.agg (cpu5 c.name v0 v1 v2 v3), .agg (core12 f op pl n), .bool q, .int .i64 seed] w fun e w' => e = .returned (.bool true) ∧ Below w.heap.size w w'
  obtain ⟨k0, k1, bW, sW⟩ := boxes2 w (.cells (cpu5 c.name v0 v1 v2 v3) 25) (.cells (core12 f op pl n) 29)
  have k0 : rowB _ _ _ _ := k0
  have k1 : rowB _ _ _ _ := k1
  have hst := fun w' (hb : Below w.heap.size w w') => cpuArg_below h hb (Nat.le_refl _)
  have HST := Lib.hid hst
  clear h hst
  have hsto := stored_any seed
  obtain ⟨sd, hsd⟩ : ∃ sd : Int, (at16 seed : Int) = sd := ⟨_, rfl⟩
  simp only [hsd] at hsto
  have HSTO := Lib.hid hsto
  clear hsd hsto
  go_enter Try.func3, Try.ntmps3
  go_upto_region 1 with (fail)
  change Code.wp _ _ _ _ ((w.alloc (.cells (cpu5 c.name v0 v1 v2 v3) 25)).alloc (.cells (core12 f op pl n) 29))
  generalize (w.alloc (.cells (cpu5 c.name v0 v1 v2 v3) 25)).alloc (.cells (core12 f op pl n) 29) = w1 at *
  go_upto_region 3 with (go_at_call 10; refine (wholes_tells _).mono ?_; rintro e w2 ⟨rfl, hb2⟩)
  replace k0 := rowB_below k0 hb2 (rowB_lt k0)
  replace k1 := rowB_below k1 hb2 (rowB_lt k1)
  replace bW := bW.trans (hb2.mono bW.size)
  have l2 := rowB_lt k1
  clear hb2 sW
  go_upto_region 4 with (first
    | (go_at_call 11; have hs4 := HSTO.out w3; refine hs4.mono ?_; rintro e w4 ⟨g2, b2, rfl, hm2, hb4, hg2, hb2⟩; clear hs4)
    | (go_at_call 11; refine (HSTO.out w2).mono ?_; rintro e w3 ⟨g1, b1, rfl, hm1, hb3, hg1, hb1⟩))
  have hlt1 : g1 < w3.heap.size := rowB_lt hm1.row
  have hlb1 : b1 < w3.heap.size := (map_memC g1 b1 sd).low w3 _ _ hm1 (.inr rfl)
  have hlt2 : g2 < w4.heap.size := rowB_lt hm2.row
  have hlb2 : b2 < w4.heap.size := (map_memC g2 b2 sd).low w4 _ _ hm2 (.inr rfl)
  have s3 := hb3.size
  have hW : lawR g1 b1 g2 b2 w4.heap.size sd w (w4.alloc (.cells #[.pointer (some ⟨g2, 0, none⟩)] 31)) (cpu5 c.name v0 v1 v2 v3) (core12 f op pl n) [] [] := by
    refine ⟨⟨⟨by omega, by omega⟩, ⟨by omega, by omega, by omega, by omega⟩, hlt2, hlb2⟩, ?_, ?_, rowB_new _ _ _, ?_, (map_memC g2 b2 sd).alloc hm2 _, ?_⟩
    · exact rowB_alloc (rowB_below (rowB_below k0 hb3 (rowB_lt k0)) hb4 (by omega)) _
    · exact rowB_alloc (rowB_below (rowB_below k1 hb3 (rowB_lt k1)) hb4 (by omega)) _
    · exact (map_memC g1 b1 sd).alloc ((map_memC g1 b1 sd).call hm1 hb4) _
    · exact ((bW.trans (hb3.mono bW.size)).trans (hb4.mono (by omega))).alloc (by have := hb4.size; omega) _
  clear k0 k1 bW hm1 hm2 hb3 hb4 hg1 hb1 hg2 hb2 hlt1 hlb1 hlt2 hlb2 s3 l2 HSTO
  obtain ⟨nb, hnb⟩ : ∃ nb, w4.heap.size = nb := ⟨_, rfl⟩
  rw [hnb] at hW ⊢
  change Code.wp _ _ _ _ (w4.alloc (.cells #[.pointer (some ⟨g2, 0, none⟩)] 31))
  clear hnb
  generalize w4.alloc (.cells #[.pointer (some ⟨g2, 0, none⟩)] 31) = w5 at *
  obtain ⟨⟨⟨xf, xo, xp, xn⟩, ⟨u0, u1, u2⟩, mm⟩, hc⟩ : ∃ x, x = cycK (mapF sd) c ⟨f, op, pl, n⟩ q [] := ⟨_, rfl⟩
  have HC1 := Lib.hid (fun w' (hi : mapW g1 b1 sd w' []) (hs : ∀ w'', Off (mapG g1 b1) w' w'' → cpuArg w'' v0 v1 v2 v3 c) => cycle_any (map_memC g1 b1 sd) c v0 v1 v2 v3 ⟨f, op, pl, n⟩ q [] w' hi hs)
  rw [← hc] at HC1
  have hgK : Try.prog.eqGuardType Try.prog.depth 29 = false := by kernel_rfl
  have hgB : Try.prog.eqGuardType Try.prog.depth 34 = false := by kernel_rfl
  have hO1 : ∀ (w' : World) (m1 m2 : MapM) (ks : Array Value), lawR g1 b1 g2 b2 nb sd w w' (cpu5 c.name v0 v1 v2 v3) ks m1 m2 → ∀ w'', Off (mapG g1 b1) w' w'' → cpuArg w'' v0 v1 v2 v3 c :=
    fun w' m1 m2 ks hL w'' ho => HST.out w'' (hL.bel.trans (ho.below hL.bel.size (fun g hg => by have := hL.geo.a; rcases hg with hg | hg <;> omega)))
  have HO1 := Lib.hid hO1
  have hone : ∀ (k : Ks) (q : Bool) (w' : World) (m1 m2 : MapM) (ks : Array Value), lawR g1 b1 g2 b2 nb sd w w' (cpu5 c.name v0 v1 v2 v3) ks m1 m2 →
      Calls Try.prog 12 #[.agg k.row, .bool q, .pointer (some ⟨w.heap.size, 0, none⟩), .pointer (some ⟨nb, 0, none⟩)] w' fun e w'' =>
      e = .returned (.tuple #[.agg (cycK (mapF sd) c k q m2).1.row, .agg (cycK (mapF sd) c k q m2).2.1.row]) ∧ mapW g2 b2 sd w'' (cycK (mapF sd) c k q m2).2.2 ∧ Off (mapG g2 b2) w' w'' := by
    intro k q w' m1 m2 ks hL
    have hO2 : ∀ w'', Off (mapG g2 b2) w' w'' → cpuArg w'' v0 v1 v2 v3 c := fun w'' ho => HST.out w'' (hL.bel.trans (ho.below hL.bel.size (fun g hg => by have := hL.geo.a; have := hL.geo.b; rcases hg with hg | hg <;> omega)))
    exact one_any _ _ g2 b2 sd c v0 v1 v2 v3 k q m2 w' hL.hp hL.hn ⟨hL.geo.out2 (.inl (by omega)), hL.geo.out2 (.inr (.inr (.inr (Nat.le_refl _))))⟩ hL.m2
      (fun f op pl n q w'' ho => askedRef_any c v0 v1 v2 v3 f op pl n q w'' (hO2 w'' ho)) (fun f op pl n data w'' ho => answered_any c v0 v1 v2 v3 f op pl n data w'' (hO2 w'' ho))
  have HONE := Lib.hid hone
  simp only [Ks.row, Bu.row] at HC1 HONE
  have HC2 := Lib.hid (HONE.out ⟨f, op, pl, n⟩ q)
  simp only at HC2
  clear hO1 hone HST
  go_upto_region 6 with (first
    | (refine wpList_loadR rfl 25 _ rfl (w.heap.size) rfl 25 (cpu5 c.name v0 v1 v2 v3) ?_ agP ?_; with_reducible exact hW.hp)
    | (refine wpList_loadR rfl 29 _ rfl (w.heap.size + 1) rfl 29 (core12 f op pl n) ?_ agK ?_; with_reducible exact hW.hk)
    | (go_at_call 18; refine (HC1.out w5 hW.m1 (HO1.out _ _ _ _ hW)).mono ?_; rintro e w6 ⟨rfl, hi, ho⟩; have nz := rowB_alloc (rowB_new w6 29 (core12 (fun _ => 0) 0 0 false)) (.cells (bus3 0 0 0) 34); have ny := pair_half w6 (core12 xf xo xp xn))
    | (refine wpList_storeR rfl 29 _ _ rfl (w6.heap.size) rfl (core12 xf xo xp xn) rfl (core12_one _ _ _ _) 29 (core12 (fun _ => 0) 0 0 false) rfl ?_ agK ?_; exact nz)
    | (refine wpList_storeR rfl 34 _ _ rfl (w6.heap.size + 1) rfl (bus3 u0 u1 u2) rfl (bus3_one _ _ _) 34 (bus3 0 0 0) rfl ?_ agB ?_; exact ny))
  have hx := pair_rows w6 (core12 xf xo xp xn) (bus3 u0 u1 u2)
  have hW7 := (hW.off1 ho hi).far (pair_off w6 (core12 xf xo xp xn) (bus3 u0 u1 u2)) (fun _ h => h.elim)
  have lx : nb < w6.heap.size := (hW.off1 ho hi).lt
  change Code.wp _ _ _ _ ((((w6.alloc (.cells (core12 (fun _ => 0) 0 0 false) 29)).alloc (.cells (bus3 0 0 0) 34)).setRow w6.heap.size (core12 xf xo xp xn)).setRow (w6.heap.size + 1) (bus3 u0 u1 u2))
  generalize (((w6.alloc (.cells (core12 (fun _ => 0) 0 0 false) 29)).alloc (.cells (bus3 0 0 0) 34)).setRow w6.heap.size (core12 xf xo xp xn)).setRow (w6.heap.size + 1) (bus3 u0 u1 u2) = w7 at *
  generalize w6.heap.size = xb at *
  obtain ⟨hx, hd⟩ := hx
  clear hW ho hi nz ny HC1
  go_upto_region 7 with (first
    | (refine wpList_loadR rfl 29 _ rfl (w.heap.size + 1) rfl 29 (core12 f op pl n) ?_ agK ?_; with_reducible exact hW7.hk)
    | (go_at_call 12; refine (HC2.out w7 _ _ _ hW7).mono ?_; rw [← hc]; rintro e w8 ⟨rfl, hi, ho⟩; have nz := rowB_alloc (rowB_new w8 29 (core12 (fun _ => 0) 0 0 false)) (.cells (bus3 0 0 0) 34); have ny := pair_half w8 (core12 xf xo xp xn))
    | (refine wpList_storeR rfl 29 _ _ rfl (w8.heap.size) rfl (core12 xf xo xp xn) rfl (core12_one _ _ _ _) 29 (core12 (fun _ => 0) 0 0 false) rfl ?_ agK ?_; exact nz)
    | (refine wpList_storeR rfl 34 _ _ rfl (w8.heap.size + 1) rfl (bus3 u0 u1 u2) rfl (bus3_one _ _ _) 34 (bus3 0 0 0) rfl ?_ agB ?_; exact ny))
  have hy := pair_rows w8 (core12 xf xo xp xn) (bus3 u0 u1 u2)
  have hoy := (ho.trans ((pair_off w8 (core12 xf xo xp xn) (bus3 u0 u1 u2)).mono (fun _ _ h => h.elim) : Off (mapG g2 b2) w8 _))
  have hW9 := (hW7.off2 ho hi).far (pair_off w8 (core12 xf xo xp xn) (bus3 u0 u1 u2)) (fun _ h => h.elim)
  have ly : xb + 1 < w8.heap.size := Nat.lt_of_lt_of_le (rowB_lt hd) ho.size
  have hx9 := rowB_off hx hoy (hW7.geo.out2 (.inr (.inr (.inr (by omega)))))
  have hd9 := rowB_off hd hoy (hW7.geo.out2 (.inr (.inr (.inr (by omega)))))
  change Code.wp _ _ _ _ ((((w8.alloc (.cells (core12 (fun _ => 0) 0 0 false) 29)).alloc (.cells (bus3 0 0 0) 34)).setRow w8.heap.size (core12 xf xo xp xn)).setRow (w8.heap.size + 1) (bus3 u0 u1 u2))
  generalize (((w8.alloc (.cells (core12 (fun _ => 0) 0 0 false) 29)).alloc (.cells (bus3 0 0 0) 34)).setRow w8.heap.size (core12 xf xo xp xn)).setRow (w8.heap.size + 1) (bus3 u0 u1 u2) = w9 at *
  generalize w8.heap.size = yb at *
  obtain ⟨hy, he⟩ := hy
  clear hW7 ho hi nz ny HC2 hx hd hoy
  have hqK : ∀ w, (Op.equalIn 10000 29 (.agg (core12 xf xo xp xn)) (.agg (core12 xf xo xp xn))).run Try.prog w = .ok true w := fun w => equal12 _ _ _ _ w
  have hqB : ∀ w, (Op.equalIn 10000 34 (.agg (bus3 u0 u1 u2)) (.agg (bus3 u0 u1 u2))).run Try.prog w = .ok true w := fun w => equal3 _ _ _ w
  go_upto_region 9 with (first
    | (refine wpList_loadR rfl 29 _ rfl xb rfl 29 (core12 xf xo xp xn) ?_ agK ?_; with_reducible exact hx9)
    | (refine wpList_loadR rfl 29 _ rfl yb rfl 29 (core12 xf xo xp xn) ?_ agK ?_; with_reducible exact hy)
    | (refine wpList_loadRg rfl 34 _ rfl (xb + 1) rfl 34 (bus3 u0 u1 u2) ?_ agB ?_; with_reducible exact hd9)
    | (refine wpList_loadRg rfl 34 _ rfl (yb + 1) rfl 34 (bus3 u0 u1 u2) ?_ agB ?_; with_reducible exact he))
  clear hd9 he hqB hqK
  obtain ⟨⟨⟨rf, ro, rp, rn⟩, RL, mr⟩, hR⟩ : ∃ x, x = runK (mapF sd) c 20 ⟨xf, xo, xp, xn⟩ mm := ⟨_, rfl⟩
  have hRun := run_any (map_memC g1 b1 sd) c v0 v1 v2 v3 ⟨xf, xo, xp, xn⟩ mm w9 hW9.m1 (HO1.out _ _ _ _ hW9)
  rw [← hR] at hRun
  unfold runEnd at hRun
  simp only [Ks.row] at hRun
  have HRun := Lib.hid hRun
  have HR := Lib.hid hR
  clear hRun hR hc HO1
  go_upto_region 10 with (first
    | (refine wpList_loadR rfl 25 _ rfl (w.heap.size) rfl 25 (cpu5 c.name v0 v1 v2 v3) ?_ agP ?_; with_reducible exact hW9.hp)
    | (refine wpList_loadR rfl 29 _ rfl xb rfl 29 (core12 xf xo xp xn) ?_ agK ?_; with_reducible exact hx9)
    | (go_at_call 19; refine HRun.out.mono ?_; rintro e wa ⟨sa, sn, sc, rfl, hl, hi, ho⟩; have hxa := rowB_off hx9 ho (hW9.geo.out1 (.inr (.inr (.inr (by omega))))))
    | (refine wpList_storeR rfl 29 _ _ rfl xb rfl (core12 rf ro rp rn) rfl (core12_one _ _ _ _) 29 (core12 xf xo xp xn) rfl ?_ agK ?_; with_reducible exact hxa))
  have hWa := (hW9.off1 ho hi).far ((Off.refl (fun k => k = xb) wa).row (.inl rfl) (core12 rf ro rp rn)) (fun k hk => by omega)
  have hx := rowB_row hxa (core12 rf ro rp rn)
  have hya := rowB_row_other (rowB_off hy ho (hW9.geo.out1 (.inr (.inr (.inr (by omega)))))) (core12 rf ro rp rn) (show xb ≠ yb by omega)
  have ly9 := rowB_lt hy
  have hla := ownArr_kept hl (row_grown wa xb (core12 rf ro rp rn)) (ownArr_off hl (by omega))
  generalize wa.setRow xb (core12 rf ro rp rn) = wL at *
  have HYL := Lib.hid (rowB_lt hya)
  clear hxa hl hi ho hx9 hy HRun
  have HWa := Lib.hid hWa
  go_wp2_with fail
  go_loopw [17, 58] (fun t i wr => ∃ (j : Nat) (k' : Ks) (m' : MapM) (L : List Bu) (a : Option Addr) (n' cp : Nat), j ≤ 20 ∧ i = .int .i64 j ∧ t = .slice a n' cp ∧ L.length = j ∧ rowB wr yb 29 k'.row ∧ mapW g2 b2 sd wr m' ∧ Off (fun k => mapG g2 b2 k ∨ k = yb) wL wr ∧ busO wL.heap.size wr (.slice a n' cp) L ∧
      ((⟨rf, ro, rp, rn⟩, RL, mr) : Ks × List Bu × MapM) = ((runK (mapF sd) c (20 - j) k' m').1, L ++ (runK (mapF sd) c (20 - j) k' m').2.1, (runK (mapF sd) c (20 - j) k' m').2.2)) (fun _ i _ => 20 - (intOf i).toNat)
  case atStart => exact ⟨0, ⟨xf, xo, xp, xn⟩, mm, [], none, 0, 0, by decide, rfl, rfl, rfl, hya, hWa.m2, Off.refl _ _, ownArr_nil _ _ _ _ _, HR.out⟩
  case round =>
    clear hya HR hW9
    obtain ⟨j, k', m', L, ta, tn, tc, hj, rfl, rfl, hL, hyr, hmr, hor, hl, hRR⟩ := hrel
    have HRR := Lib.hid hRR
    have HL := Lib.hid hL
    clear hRR hL
    have hLr := hWa.off3 (by omega) hor hmr
    have lyL : yb < wL.heap.size := by have := HYL.out; omega
    by_cases hlt : j < 20
    · obtain ⟨⟨k2, b2', m2⟩, hc⟩ : ∃ x, x = cycK (mapF sd) c k' false m' := ⟨_, rfl⟩
      have hcy := fun w' m1 ks => HONE.out k' false w' m1 m' ks
      rw [← hc] at hcy
      have HCY := Lib.hid hcy
      have Hc := Lib.hid hc
      clear hcy hc HONE
      obtain ⟨p0, p1, px⟩ := b2'
      obtain ⟨k2f, k2o, k2p, k2n⟩ := k2
      simp only [Ks.row] at HCY hyr
      go_upto_region 14 with (fail)
      have nz := rowB_new wr 34 (bus3 0 0 0)
      have hne := own_lt hl
      have hl1 := ownArr_offG hl ((Off.refl (fun _ => False) wr).alloc (.cells (bus3 0 0 0) 34)) (fun g hg => hg.elim)
      have hor1 := hor.alloc (.cells (bus3 0 0 0) 34)
      have hLr1 := hLr.far ((Off.refl (fun _ => False) wr).alloc (.cells (bus3 0 0 0) 34)) (fun g hg => hg.elim)
      have hyr1 := rowB_alloc hyr (.cells (bus3 0 0 0) 34)
      have lz : wL.heap.size ≤ wr.heap.size := hor.size
      change Code.wp _ _ _ _ (wr.alloc (.cells (bus3 0 0 0) 34))
      generalize wr.alloc (.cells (bus3 0 0 0) 34) = wa' at *
      generalize wr.heap.size = zb at *
      clear hl hor hLr hyr hmr
      go_upto_region 15 with (first
        | (refine wpList_loadR rfl 29 _ rfl yb rfl 29 (core12 k'.f k'.op k'.pl k'.n) ?_ agK ?_; with_reducible exact hyr1)
        | (go_at_call 12; refine (HCY.out wa' _ _ hLr1).mono ?_; rintro e wb ⟨rfl, hi, ho⟩; have hyr2 := rowB_off hyr1 ho (hLr1.geo.out2 (.inr (.inr (.inr (by omega))))); have nz2 := rowB_off nz ho (hLr1.geo.out2 (.inr (.inr (.inr (by omega))))); have hl2 := ownArr_offG hl1 ho (fun g hg => by have := hLr1.geo.c; rcases hg with hg | hg <;> omega))
        | (refine wpList_storeR rfl 29 _ _ rfl yb rfl (core12 k2f k2o k2p k2n) rfl (core12_one _ _ _ _) 29 (core12 k'.f k'.op k'.pl k'.n) rfl ?_ agK ?_; with_reducible exact hyr2)
        | (refine wpList_storeR rfl 34 _ _ rfl zb rfl (bus3 p0 p1 px) rfl (bus3_one _ _ _) 34 (bus3 0 0 0) rfl ?_ agB ?_; exact rowB_row_other nz2 _ (by omega)))
      have hyr3 := rowB_row_other (rowB_row hyr2 (core12 k2f k2o k2p k2n)) (bus3 p0 p1 px) (show zb ≠ yb by omega)
      have nB := rowB_row (rowB_row_other nz2 (core12 k2f k2o k2p k2n) (show yb ≠ zb by omega)) (bus3 p0 p1 px)
      have hl3 := ownArr_kept (ownArr_kept hl2 (row_grown wb yb (core12 k2f k2o k2p k2n)) (ownArr_off hl2 (by omega))) (row_grown _ zb (bus3 p0 p1 px)) hne
      have hor3 := ((hor1.trans (ho.mono (fun _ _ h => .inl h))).row (.inl (.inr rfl)) (core12 k2f k2o k2p k2n)).row (.inr lz) (bus3 p0 p1 px)
      have hmr3 : mapW g2 b2 sd _ _ := (map_memC g2 b2 sd).row ((map_memC g2 b2 sd).row hi (hLr1.geo.out2' (show nb ≤ yb by omega)) (core12 k2f k2o k2p k2n)) (hLr1.geo.out2' (show nb ≤ zb by omega)) (bus3 p0 p1 px)
      change Code.wp _ _ _ _ ((wb.setRow yb (core12 k2f k2o k2p k2n)).setRow zb (bus3 p0 p1 px))
      generalize (wb.setRow yb (core12 k2f k2o k2p k2n)).setRow zb (bus3 p0 p1 px) = wc at *
      clear hLr1 hyr1 nz hl1 hor1 hyr2 nz2 hl2 hi ho HCY hne
      have hL20 : L.length ≤ 20 := by have := HL.out; omega
      have ho1 := busO_one wc ⟨p0, p1, px⟩
      have hyr4 := rowB_alloc hyr3 (.cells #[.int .i64 p0, .int .i64 p1, .int .i64 px] 34)
      have hor4 := hor3.alloc (.cells #[.int .i64 p0, .int .i64 p1, .int .i64 px] 34)
      have hmr4 := (map_memC g2 b2 sd).alloc hmr3 (.cells #[.int .i64 p0, .int .i64 p1, .int .i64 px] 34)
      have hl4 := ownArr_offG hl3 ((Off.refl (fun _ => False) wc).alloc (.cells #[.int .i64 p0, .int .i64 p1, .int .i64 px] 34)) (fun g hg => hg.elim)
      have hs4 := hor4.size
      simp only at ho1
      have nB1 : rowB wc zb 34 #[.int .i64 p0, .int .i64 p1, .int .i64 px] := nB
      clear hyr3 hor3 hmr3
      go_upto_region 16 with (first
        | (refine wpList_loadR rfl 34 _ rfl zb rfl 34 #[.int .i64 p0, .int .i64 p1, .int .i64 px] ?_ agB ?_; with_reducible exact nB1)
        | (refine wpList_bus rfl _ _ rfl wL.heap.size wc.heap.size _ _ rfl rfl L [⟨p0, p1, px⟩] hl4 ho1 (by simp; omega) hs4 ?_; intro a' n' c' wd hl5 hg5; have hgo := grown_off hl4 hg5; have hyr5 := rowB_off hyr4 hgo (by omega); have hor5 := off_tail hor4 hgo; have hmr5 := mapW_off hmr4 hgo (fun k hk => by have := hWa.geo.c; rcases hk with hk | hk <;> omega); clear hg5 hgo))
      clear hyr4 hor4 hmr4 hl4 hs4 nB nB1 hl3 ho1 hL20
      by_cases hs : stopB ⟨k2f, k2o, k2p, k2n⟩ = true
      · have HS := Lib.hid (HRR.out.trans (runK_stop (mapF sd) c hlt k' _ _ m' m2 L Hc.out hs))
        have hLz := hWa.off3 (by omega) hor5 hmr5
        have hE : RL = L ++ [⟨p0, p1, px⟩] := congrArg (fun x => x.2.1) HS.out
        obtain ⟨e1, e2, e3, e4⟩ : rf = k2f ∧ ro = k2o ∧ rp = k2p ∧ rn = k2n := by have := congrArg (fun x => x.1) HS.out; simpa using this
        subst e1 e2 e3 e4
        have hxr := rowB_off hx hor5 (fun hk => by have := hWa.geo.c; unfold mapG at hk; omega)
        have hlr := ownArr_to (ownArr_offG hla hor5 (fun g hg => by have := hWa.geo.c; unfold mapG at hg; omega))
        rw [hE] at hlr
        have hwr := ownArr_to hl5
        have hqK : ∀ w, (Op.equalIn 10000 29 (.agg (core12 rf ro rp rn)) (.agg (core12 rf ro rp rn))).run Try.prog w = .ok true w := fun w => equal12 _ _ _ _ w
        have hop := coreB_op hyr5
        clear HRR hE hx hla hor5 hmr5 hl5
        by_cases h1 : ro = -1
        · have t1 : (ro == -1) = true := by simpa using h1
          clear h1
          go_wp2_with (first
            | (refine wpList_loadR rfl 29 _ rfl xb rfl 29 (core12 rf ro rp rn) ?_ agK ?_; with_reducible exact hxr)
            | (refine wpList_loadR rfl 29 _ rfl yb rfl 29 (core12 rf ro rp rn) ?_ agK ?_; with_reducible exact hyr5)
            | (go_at_call 20; refine (equalBus_any _ _ _ _ hlr hwr).mono ?_; rintro e we ⟨rfl, hq⟩))
          go_ret
          exact ⟨rfl, hLz.bel.trans (hq.below _)⟩
        · have t1 : (ro == -1) = false := by simpa using h1
          have t2 : (ro == 259) = true := by unfold stopB at hs; simp at hs; simpa using hs.resolve_left h1
          clear h1
          go_wp2_with (first
            | (refine wpList_loadR rfl 29 _ rfl xb rfl 29 (core12 rf ro rp rn) ?_ agK ?_; with_reducible exact hxr)
            | (refine wpList_loadR rfl 29 _ rfl yb rfl 29 (core12 rf ro rp rn) ?_ agK ?_; with_reducible exact hyr5)
            | (go_at_call 20; refine (equalBus_any _ _ _ _ hlr hwr).mono ?_; rintro e we ⟨rfl, hq⟩))
          go_ret
          exact ⟨rfl, hLz.bel.trans (hq.below _)⟩
      · have hs' : stopB ⟨k2f, k2o, k2p, k2n⟩ = false := by simpa using hs
        have t1 : (k2o == -1) = false := by unfold stopB at hs'; simp at hs'; simpa using hs'.1
        have t2 : (k2o == 259) = false := by unfold stopB at hs'; simp at hs'; simpa using hs'.2
        have HS := Lib.hid (HRR.out.trans (runK_go (mapF sd) c hlt k' _ _ m' m2 L Hc.out hs'))
        have hop := coreB_op hyr5
        clear hs hs'
        go_wp2_with fail
        go_roundw
        case measure => simp [intOf]; omega
        case rel => exact ⟨j + 1, ⟨k2f, k2o, k2p, k2n⟩, m2, L ++ [⟨p0, p1, px⟩], a', n', c', by omega, by go_num, rfl, by rw [List.length_append, HL.out]; rfl, hyr5, hmr5, hor5, hl5, HS.out⟩
    · obtain rfl : j = 20 := by omega
      have HS : ((⟨rf, ro, rp, rn⟩, RL, mr) : Ks × List Bu × MapM) = (k', L, m') := by rw [HRR.out]; simp [runK]
      obtain ⟨kf, ko, kp, kn⟩ := k'
      simp only [Ks.row] at hyr
      have hLz := hLr
      have hE : RL = L := congrArg (fun x => x.2.1) HS
      obtain ⟨e1, e2, e3, e4⟩ : rf = kf ∧ ro = ko ∧ rp = kp ∧ rn = kn := by have := congrArg (fun x => x.1) HS; simpa using this
      subst e1 e2 e3 e4
      have hxr := rowB_off hx hor (fun hk => by have := hWa.geo.c; unfold mapG at hk; omega)
      have hlr := ownArr_to (ownArr_offG hla hor (fun g hg => by have := hWa.geo.c; unfold mapG at hg; omega))
      rw [hE] at hlr
      have hwr := ownArr_to hl
      have hqK : ∀ w, (Op.equalIn 10000 29 (.agg (core12 rf ro rp rn)) (.agg (core12 rf ro rp rn))).run Try.prog w = .ok true w := fun w => equal12 _ _ _ _ w
      clear HRR HS hE hx hla hor hmr hl HONE HL
      go_wp2_with (first
        | (refine wpList_loadR rfl 29 _ rfl xb rfl 29 (core12 rf ro rp rn) ?_ agK ?_; with_reducible exact hxr)
        | (refine wpList_loadR rfl 29 _ rfl yb rfl 29 (core12 rf ro rp rn) ?_ agK ?_; with_reducible exact hyr)
        | (go_at_call 20; refine (equalBus_any _ _ _ _ hlr hwr).mono ?_; rintro e we ⟨rfl, hq⟩))
      go_ret
      exact ⟨rfl, hLz.bel.trans (hq.below _)⟩
end Go.Proofs.Ythhihmggaddlmaa
