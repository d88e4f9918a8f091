/- The contract of package whole's Run, for any processor, any state and any memory. -/
import Derived.Test.YthhihmggaddlmaaArrOwn2
import Derived.Test.YthhihmggaddlmaaChecked
import Derived.Test.YthhihmggaddlmaaWholeCyc
import Derived.Below
import Derived.BigQuiet
import Derived.ChangeMaps5
import Derived.Deep.CutBlock
import Derived.Deep.DeepAppendWide
import Derived.Deep.DeepCutAuto
import Derived.Deep.Draws
import Derived.Deep.MidRow
import Derived.Deep.OwnRows
import Derived.Deep.QuietTactic
import Derived.Deep.RegionHeld3
import Derived.Deep.RegionLaw
import Derived.Deep.RegionWith
import Derived.Deep.Slices
import Derived.Deep.WholeRow
import Derived.Laws.OwnMore
import Derived.Lib.Hide
import Derived.Lib.SmallJoins
import Derived.OpenShut
import Derived.OrdersHeld
import Derived.OwnWalk
import Derived.RowKit3
import Derived.SizedLaws
import Derived.StillTactics
import Derived.StillTail
import Derived.StillTailTactics
import Derived.WalkKit
namespace Go.Proofs.Ythhihmggaddlmaa
open Go.RowKit
set_option maxRecDepth 100000

/-- What was done on the bus, as a slice of the call's own. -/
def busQ (cs : List Value) (b : Bu) : Prop := cs = [.int .i64 b.d, .int .i64 b.a, .int .i64 b.x]
def busO (lo : Nat) (w : World) (v : Value) (l : List Bu) : Prop := ownArr 3 busQ lo 34 w v l
theorem busQ_one : ∀ cs b, busQ cs b → ∀ u ∈ cs, u.oneCell' = true := by
  rintro cs b rfl u hu
  simp only [List.mem_cons, List.not_mem_nil, or_false] at hu
  rcases hu with rfl | rfl | rfl <;> rfl
theorem ownArr_offG {α : Type} {k : Nat} {R : List Value → α → Prop} {B : Nat} {e : TypeId} {w w' : World} {v : Value} {l : List α} {G : Nat → Prop} (h : ownArr k R B e w v l) (ho : Off G w w') (hG : ∀ g, G g → g < B) : ownArr k R B e w' v l := by
  obtain ⟨f, hf, ⟨h1, h2⟩, hR⟩ := h
  refine ⟨f, hf, ⟨h1, ?_⟩, hR⟩
  rcases h2 with hn | ⟨g, cap, cur, hv, hB, hg, r⟩
  · exact .inl hn
  · refine .inr ⟨g, cap, cur, hv, hB, ?_, r⟩
    rw [ho.block g (Array.getElem?_eq_some_iff.1 hg).1 (fun hg' => by have := hG g hg'; omega)]; exact hg
theorem infoBus : ∃ i, Try.prog.info? 34 = some i ∧ i.zero = some (.agg #[.int .i64 0, .int .i64 0, .int .i64 0]) ∧ i.size = 3 ∧ i.bytes = 24 := by
  have h : (Try.prog.info? 34).map (fun i => (i.zero, i.size, i.bytes)) = some (some (.agg #[.int .i64 0, .int .i64 0, .int .i64 0]), 3, 24) := by kernel_rfl
  cases hh : Try.prog.info? 34 with
  | none => rw [hh] at h; cases h
  | some i => rw [hh] at h; simp only [Option.map_some, Option.some.injEq, Prod.mk.injEq] at h; exact ⟨i, rfl, h⟩
theorem busO_one (w : World) (b : Bu) : busO w.heap.size (w.alloc (.cells #[.int .i64 b.d, .int .i64 b.a, .int .i64 b.x] 34)) (.slice (some ⟨w.heap.size, 0, none⟩) 1 1) [b] :=
  own_lit [[.int .i64 b.d, .int .i64 b.a, .int .i64 b.x]] [b] ⟨rfl, rfl, trivial⟩ rfl _ rfl 1 rfl (by decide) w (Nat.le_refl _) _ _ rfl
section
variable {w : World} {ops : Array Oper} {rest : List Oper} {o : Oper} {a : Act} {Q : Exit → Act → World → Prop}
theorem wpList_bus (hgd : o.guard = none) (s x : Operand) (ho : o.op = .call { callee := .builtin .append, args := #[s, x], argTypes := #[43, 43] })
    (B lo : Nat) (v u : Value) (hs : a.eval s = v) (hx : a.eval x = u) (l m : List Bu) (hown : busO B w v l) (harr : busO lo w u m) (hl : l.length + m.length ≤ 1000) (hB : B ≤ w.heap.size)
    (h : ∀ (a' : Option Addr) (n c : Nat) w', busO B w' (.slice a' n c) (l ++ m) → w.grownBy w' v.ownBlock → wpList Try.prog ops Q rest (a.put o.dst (.slice a' n c)) w') : wpList Try.prog ops Q (o :: rest) a w := by
  obtain ⟨i, i1, i2, i3, i4⟩ := infoBus
  refine wpList_append_arr2 hgd s x 43 ho 34 3 24 i _ Try.underlying43 i1 i2 i3 i4 rfl (by decide) busQ_one B v u hs hx l m hown (ownArr_isArr harr) (by unfold maxLen; omega) (by omega) hB ?_
  intro v' w' h1 h2
  obtain ⟨a', c', rfl⟩ := own_slice h1
  exact h _ _ _ _ h1 h2
end
theorem resultsRS {P : Program} {fn : Func} {p q : Tmp} {ty : TypeId} (h : fn.results = #[.cell p ty, .tmp q])
    (g : Nat) (tmps : Array Value) (hp : tmps.getD p undef = .pointer (some ⟨g, 0, none⟩)) {w : World} {t : TypeId} {cs : Array Value} (hb : rowB w g t cs) (h9 : isAg P ty cs.size) (b : Value) (hq : tmps.getD q undef = b) :
    (results fn tmps).run P w = .ok (.tuple #[.agg cs, b]) w := by
  obtain ⟨⟨d, hu, hd⟩, hi⟩ := h9
  have hl := run_loadVar_row (P := P) w g t ty cs (0, 0) _ hb hu (by cases d <;> simp_all) hi
  rw [Array.getD_eq_getD_getElem?] at hp hq
  simp only [results, h]
  simp [hp, hq, asAddr, hl]

theorem row_grown (w : World) (g : Nat) (cs : Array Value) : w.grownBy (w.setRow g cs) (some g) :=
  ⟨rfl, rfl, rfl, by rw [size_row]; exact Nat.le_refl _, fun k _ hk => by
    simp only [World.setRow, Array.getElem?_modify]
    rw [if_neg (by rintro rfl; exact hk rfl)]⟩
theorem own_lt {α : Type} {k : Nat} {R : List Value → α → Prop} {B : Nat} {e : TypeId} {w : World} {v : Value} {l : List α} (h : ownArr k R B e w v l) : v.ownBlock = none ∨ v.ownBlock ≠ some w.heap.size := by
  obtain ⟨f, _, ho, _⟩ := h
  rcases ho.2 with ⟨rfl, _⟩ | ⟨b, cap, cur, rfl, _, hb, _⟩
  · exact .inl rfl
  · refine .inr fun e => ?_
    have : b = w.heap.size := by simpa [Value.ownBlock] using e
    have hlt := (Array.getElem?_eq_some_iff.1 hb).1
    omega
/-- The blocks of a call of Run. -/
structure runW (G : Nat → Prop) {M : Type} (inv : World → M → Prop) (w0 w : World) (cpu ks zr : Array Value) (m : M) : Prop where
  hp : rowB w w0.heap.size 25 cpu
  hk : rowB w (w0.heap.size + 1) 29 ks
  hr : rowB w (w0.heap.size + 2) 29 zr
  off : Off G w0 w
  mem : inv w m
section
variable {T : TypeId} {v : Value} {fr fw : Nat} {G : Nat → Prop} {M : Type} {F : MemF M} {inv : World → M → Prop} {w0 w w' : World} {cpu ks zr : Array Value} {m : M}
theorem runW.size (h : runW G inv w0 w cpu ks zr m) : w0.heap.size + 2 < w.heap.size := rowB_lt h.hr
theorem runW.call (h : runW G inv w0 w cpu ks zr m) (hC : memC T v fr fw G F inv) (hb : Below w.heap.size w w') : runW G inv w0 w' cpu ks zr m :=
  ⟨rowB_below h.hp hb (rowB_lt h.hp), rowB_below h.hk hb (rowB_lt h.hk), rowB_below h.hr hb (rowB_lt h.hr), h.off.call hb, hC.call h.mem hb⟩
theorem runW.alloc (h : runW G inv w0 w cpu ks zr m) (hC : memC T v fr fw G F inv) (o : Obj) : runW G inv w0 (w.alloc o) cpu ks zr m := h.call hC ((Below.refl _ _).alloc (Nat.le_refl _) o)
theorem runW.wrote {m' : M} (h : runW G inv w0 w cpu ks zr m) (hG : ∀ g, G g → g < w0.heap.size) (ho : Off G w w') (hi : inv w' m') : runW G inv w0 w' cpu ks zr m' :=
  ⟨rowB_off h.hp ho fun hg => by have := hG _ hg; omega, rowB_off h.hk ho fun hg => by have := hG _ hg; omega, rowB_off h.hr ho fun hg => by have := hG _ hg; omega, h.off.trans ho, hi⟩
theorem runW.state (h : runW G inv w0 w cpu ks zr m) (hC : memC T v fr fw G F inv) (hG : ∀ g, G g → g < w0.heap.size) (cs : Array Value) : runW G inv w0 (w.setRow (w0.heap.size + 1) cs) cpu cs zr m :=
  ⟨rowB_row_other h.hp cs (by omega), rowB_row h.hk cs, rowB_row_other h.hr cs (by omega), h.off.row (.inr (by omega)) cs, hC.row h.mem (fun hg => by have := hG _ hg; omega) cs⟩
theorem runW.far (h : runW G inv w0 w cpu ks zr m) (hC : memC T v fr fw G F inv) (hG : ∀ g, G g → g < w0.heap.size) {g : Nat} (hg : w0.heap.size + 2 < g) (cs : Array Value) : runW G inv w0 (w.setRow g cs) cpu ks zr m :=
  ⟨rowB_row_other h.hp cs (by omega), rowB_row_other h.hk cs (by omega), rowB_row_other h.hr cs (by omega), h.off.row (.inr (by omega)) cs, hC.row h.mem (fun hg => by have := hG _ hg; omega) cs⟩
theorem runW.outR (h : runW G inv w0 w cpu ks zr m) (hC : memC T v fr fw G F inv) (hG : ∀ g, G g → g < w0.heap.size) (cs : Array Value) : runW G inv w0 (w.setRow (w0.heap.size + 2) cs) cpu ks cs m :=
  ⟨rowB_row_other h.hp cs (by omega), rowB_row_other h.hk cs (by omega), rowB_row h.hr cs, h.off.row (.inr (by omega)) cs, hC.row h.mem (fun hg => by have := hG _ hg; omega) cs⟩
theorem runW.grown {lo : Nat} {u : Value} {l : List Bu} (h : runW G inv w0 w cpu ks zr m) (hC : memC T v fr fw G F inv) (hG : ∀ g, G g → g < w0.heap.size) (hu : busO lo w u l) (hlo : w0.heap.size + 3 ≤ lo) (hg : w.grownBy w' u.ownBlock) : runW G inv w0 w' cpu ks zr m := by
  have hoff : ∀ {g : Nat}, g < lo → g ≠ lo → (some g) ≠ u.ownBlock := fun {g} hg' _ e => by
    rcases ownArr_off hu hg' with h1 | h1
    · rw [h1] at e; cases e
    · exact h1 e.symm
  have hblk : ∀ {g : Nat}, g < lo → g < w.heap.size → w'.heap[g]? = w.heap[g]? := fun {g} h1 h2 => hg.block g h2 (hoff h1 (by omega))
  refine ⟨?_, ?_, ?_, ?_, ?_⟩
  · have := rowB_lt h.hp; unfold rowB; rw [hblk (by omega) this]; exact h.hp
  · have := rowB_lt h.hk; unfold rowB; rw [hblk (by omega) this]; exact h.hk
  · have := rowB_lt h.hr; unfold rowB; rw [hblk (by omega) this]; exact h.hr
  · refine h.off.grown hg fun k hk => .inr ?_
    by_cases hkl : k < w0.heap.size
    · exact absurd hk.symm (hoff (by omega) (by omega))
    · omega
  · exact hC.keep _ _ _ h.mem hg.size fun g hg' => hblk (by have := hG g hg'; omega) (hC.low _ _ _ h.mem hg')
end
theorem runW.start {T : TypeId} {v : Value} {fr fw : Nat} {G : Nat → Prop} {M : Type} {F : MemF M} {inv : World → M → Prop} {m : M} (hC : memC T v fr fw G F inv) (w : World) (hi : inv w m) (cpu ks : Array Value) :
    runW G inv w (((w.alloc (.cells cpu 25)).alloc (.cells ks 29)).alloc (.cells (core12 (fun _ => 0) 0 0 false) 29)) cpu ks (core12 (fun _ => 0) 0 0 false) m := by
  obtain ⟨k0, k1, k2, b, s⟩ := boxes3 w (.cells cpu 25) (.cells ks 29) (.cells (core12 (fun _ => 0) 0 0 false) 29)
  exact ⟨k0, k1, k2, off_below b, hC.call hi b⟩

theorem runK_stop {M : Type} (F : MemF M) (c : Cp) {j : Nat} (hj : j < 20) (k k2 : Ks) (b : Bu) (m m2 : M) (L : List Bu) (hc : (k2, b, m2) = cycK F c k false m) (hs : stopB k2 = true) :
    ((runK F c (20 - j) k m).1, L ++ (runK F c (20 - j) k m).2.1, (runK F c (20 - j) k m).2.2) = (k2, L ++ [b], m2) := by
  obtain ⟨n, hn⟩ : ∃ n, 20 - j = n + 1 := ⟨19 - j, by omega⟩
  rw [hn]
  unfold runK
  rw [← hc]
  simp only [hs, if_true]
theorem runK_go {M : Type} (F : MemF M) (c : Cp) {j : Nat} (hj : j < 20) (k k2 : Ks) (b : Bu) (m m2 : M) (L : List Bu) (hc : (k2, b, m2) = cycK F c k false m) (hs : stopB k2 = false) :
    ((runK F c (20 - j) k m).1, L ++ (runK F c (20 - j) k m).2.1, (runK F c (20 - j) k m).2.2) =
      ((runK F c (20 - (j + 1)) k2 m2).1, (L ++ [b]) ++ (runK F c (20 - (j + 1)) k2 m2).2.1, (runK F c (20 - (j + 1)) k2 m2).2.2) := by
  have hn : 20 - j = (20 - (j + 1)) + 1 := by omega
  rw [hn]
  rw [runK, ← hc]
  simp [hs]
/-- What Run gives. -/
def runEnd (G : Nat → Prop) {M : Type} (inv : World → M → Prop) (w : World) (R : Ks × List Bu × M) (e : Ending) (w' : World) : Prop :=
  ∃ (a : Option Addr) (n c : Nat), e = .returned (.tuple #[.agg R.1.row, .slice a n c]) ∧ busO (w.heap.size + 3) w' (.slice a n c) R.2.1 ∧ inv w' R.2.2 ∧ Off G w w'

set_option maxHeartbeats 4000000 in
theorem run_any {T : TypeId} {v : Value} {fr fw : Nat} {G : Nat → Prop} {M : Type} {F : MemF M} {inv : World → M → Prop} (hC : memC T v fr fw G F inv)
    (c : Cp) (v0 v1 v2 v3 : Value) (k : Ks) (m : M) (w : World) (hm : inv w m) (hst : ∀ w', Off G w w' → cpuArg w' v0 v1 v2 v3 c) :
    Calls Try.prog 19 #[.agg (cpu5 c.name v0 v1 v2 v3), .agg k.row, .iface T v] w (runEnd G inv w (runK F c 20 k m)) := by
  have hG : ∀ g, G g → g < w.heap.size := fun g hg => hC.low w m g hm hg
  have hW := runW.start hC w hm (cpu5 c.name v0 v1 v2 v3) k.row
  obtain ⟨R, hR⟩ : ∃ R, R = runK F c 20 k m := ⟨_, rfl⟩
  rw [← hR]
  have HR := Lib.hid hR
  have HCYC := Lib.hid (fun (k : Ks) (m : M) w' (ho : Off G w w') (hm' : inv w' m) => cycle_any hC c v0 v1 v2 v3 k false m w' hm' (fun w'' h'' => hst w'' (ho.trans h'')))
  clear hR hm hst
  have hl0 : busO (w.heap.size + 3) (((w.alloc (.cells (cpu5 c.name v0 v1 v2 v3) 25)).alloc (.cells k.row 29)).alloc (.cells (core12 (fun _ => 0) 0 0 false) 29)) (.slice none 0 0) [] := ownArr_nil _ _ _ _ _
  go_enter Try.func19, Try.ntmps19
  go_upto_region 2 with (fail)
  change Code.wp _ _ _ _ (((w.alloc (.cells (cpu5 c.name v0 v1 v2 v3) 25)).alloc (.cells k.row 29)).alloc (.cells (core12 (fun _ => 0) 0 0 false) 29))
  generalize ((w.alloc (.cells (cpu5 c.name v0 v1 v2 v3) 25)).alloc (.cells k.row 29)).alloc (.cells (core12 (fun _ => 0) 0 0 false) 29) = w1 at *
  go_wp2_with fail
  go_loopw [8, 10] (fun l i wr => ∃ (j : Nat) (k' : Ks) (m' : M) (L : List Bu) (a : Option Addr) (n cp : Nat), j ≤ 20 ∧ i = .int .i64 j ∧ l = .slice a n cp ∧ L.length = j ∧ runW G inv w wr (cpu5 c.name v0 v1 v2 v3) k'.row (core12 (fun _ => 0) 0 0 false) m' ∧ busO (w.heap.size + 3) wr (.slice a n cp) L ∧
      R = ((runK F c (20 - j) k' m').1, L ++ (runK F c (20 - j) k' m').2.1, (runK F c (20 - j) k' m').2.2)) (fun _ i _ => 20 - (intOf i).toNat)
  case atStart => exact ⟨0, k, m, [], none, 0, 0, by decide, rfl, rfl, rfl, hW, hl0, HR.out⟩
  case round =>
    clear hW hl0
    obtain ⟨j, k', m', L, sa, sn, sc, hj, rfl, rfl, hL, hW, hl, hRR⟩ := hrel
    have HRR := Lib.hid hRR
    have HL := Lib.hid hL
    clear hRR hL
    by_cases hlt : j < 20
    · obtain ⟨⟨k2, b2, m2⟩, hc⟩ : ∃ x, x = cycK F c k' false m' := ⟨_, rfl⟩
      have hcy := HCYC.out k' m'
      rw [← hc] at hcy
      have HCY := Lib.hid hcy
      have Hc := Lib.hid hc
      clear hcy hc HCYC
      obtain ⟨b0, b1, bx⟩ := b2
      simp only [Ks.row, Bu.row] at HCY hW
      go_upto_region 5 with (fail)
      have hW1 := hW.alloc hC (.cells (bus3 0 0 0) 34)
      have nz := rowB_new wr 34 (bus3 0 0 0)
      have hl1 := ownArr_offG hl ((Off.refl G wr).alloc (.cells (bus3 0 0 0) 34)) (fun g hg => by have := hG g hg; omega)
      have hy := hW.size
      have hne := own_lt hl
      change Code.wp _ _ _ _ (wr.alloc (.cells (bus3 0 0 0) 34))
      generalize wr.alloc (.cells (bus3 0 0 0) 34) = wa at *
      generalize wr.heap.size = y at *
      clear hW hl
      go_upto_region 6 with (first
        | (refine wpList_loadR rfl 25 _ rfl (w.heap.size) rfl 25 (cpu5 c.name v0 v1 v2 v3) ?_ agP ?_; with_reducible exact hW1.hp)
        | (refine wpList_loadR rfl 29 _ rfl (w.heap.size + 1) rfl 29 (core12 k'.f k'.op k'.pl k'.n) ?_ agK ?_; with_reducible exact hW1.hk)
        | (go_at_call 18; refine (HCY.out _ hW1.off hW1.mem).mono ?_; rintro e wb ⟨rfl, hi, ho⟩; have hW2 := hW1.wrote hG ho hi; have nz2 := rowB_off nz ho (fun hg => by have := hG _ hg; omega); have hl2 := ownArr_offG hl1 ho (fun g hg => by have := hG g hg; omega))
        | (refine wpList_storeR rfl 29 _ _ rfl (w.heap.size + 1) rfl (core12 k2.f k2.op k2.pl k2.n) rfl (core12_one _ _ _ _) 29 (core12 k'.f k'.op k'.pl k'.n) rfl ?_ agK ?_; exact hW2.hk)
        | (refine wpList_storeR rfl 34 _ _ rfl (y) rfl (bus3 b0 b1 bx) rfl (bus3_one _ _ _) 34 (bus3 0 0 0) rfl ?_ agB ?_; exact rowB_row_other nz2 _ (by omega)))
      have hW3 := (hW2.state hC hG (core12 k2.f k2.op k2.pl k2.n)).far hC hG (g := y) (by omega) (bus3 b0 b1 bx)
      have nB := rowB_row (rowB_row_other nz2 (core12 k2.f k2.op k2.pl k2.n) (show w.heap.size + 1 ≠ y by omega)) (bus3 b0 b1 bx)
      have hl3 := ownArr_kept (ownArr_kept hl2 (row_grown wb (w.heap.size + 1) (core12 k2.f k2.op k2.pl k2.n)) (ownArr_off hl2 (by omega))) (row_grown _ y (bus3 b0 b1 bx)) hne
      change Code.wp _ _ _ _ ((wb.setRow (w.heap.size + 1) (core12 k2.f k2.op k2.pl k2.n)).setRow y (bus3 b0 b1 bx))
      generalize (wb.setRow (w.heap.size + 1) (core12 k2.f k2.op k2.pl k2.n)).setRow y (bus3 b0 b1 bx) = wc at *
      clear hW1 nz hl1 hW2 nz2 hl2 hi ho HCY hne
      have hL20 : L.length ≤ 20 := by have := HL.out; omega
      have ho1 := busO_one wc ⟨b0, b1, bx⟩
      have hW4 := hW3.alloc hC (.cells #[.int .i64 b0, .int .i64 b1, .int .i64 bx] 34)
      have hl4 := ownArr_offG hl3 ((Off.refl G wc).alloc (.cells #[.int .i64 b0, .int .i64 b1, .int .i64 bx] 34)) (fun g hg => by have := hG g hg; omega)
      have hs4 := hW4.size
      simp only at ho1
      have nB1 : rowB wc y 34 #[.int .i64 b0, .int .i64 b1, .int .i64 bx] := nB
      go_upto_region 7 with (first
        | (refine wpList_loadR rfl 34 _ rfl y rfl 34 #[.int .i64 b0, .int .i64 b1, .int .i64 bx] ?_ agB ?_; with_reducible exact nB1)
        | (refine wpList_bus rfl _ _ rfl (w.heap.size + 3) wc.heap.size _ _ rfl rfl L [⟨b0, b1, bx⟩] hl4 ho1 (by simp; omega) (by omega) ?_; intro a' n' c' wd hl5 hg5; have hW5 := hW4.grown hC hG hl4 (Nat.le_refl _) hg5))
      clear hW3 hl3 hL20 ho1 hW4 hl4 hs4 nB nB1 hg5
      have hop := coreB_op hW5.hk
      obtain ⟨k2f, k2o, k2p, k2n⟩ := k2
      simp only at hop hW5
      by_cases hs : stopB ⟨k2f, k2o, k2p, k2n⟩ = true
      · have HS := Lib.hid (HRR.out.trans (runK_stop F c hlt k' _ _ m' m2 L Hc.out hs))
        by_cases h1 : k2o = -1
        · subst h1
          go_wp2_with (first
            | (refine wpList_loadR rfl 29 _ rfl (w.heap.size + 1) rfl 29 (core12 k2f (-1) k2p k2n) ?_ agK ?_; with_reducible exact hW5.hk)
            | (refine wpList_storeR rfl 29 _ _ rfl (w.heap.size + 2) rfl (core12 k2f (-1) k2p k2n) rfl (core12_one _ _ _ _) 29 (core12 (fun _ => 0) 0 0 false) rfl ?_ agK ?_; with_reducible exact hW5.hr))
          have hW6 := hW5.outR hC hG (core12 k2f (-1) k2p k2n)
          have hl6 := ownArr_kept hl5 (row_grown wd (w.heap.size + 2) (core12 k2f (-1) k2p k2n)) (ownArr_off hl5 (by omega))
          refine bodyPost_ret (resultsRS rfl (w.heap.size + 2) _ rfl hW6.hr agK _ rfl) rfl ⟨a', n', c', ?_, ?_, ?_, hW6.off⟩
          · rw [HS.out]; rfl
          · rw [HS.out]; exact hl6
          · rw [HS.out]; exact hW6.mem
        · obtain rfl : k2o = 259 := by unfold stopB at hs; simp at hs; omega
          go_wp2_with (first
            | (refine wpList_loadR rfl 29 _ rfl (w.heap.size + 1) rfl 29 (core12 k2f 259 k2p k2n) ?_ agK ?_; with_reducible exact hW5.hk)
            | (refine wpList_storeR rfl 29 _ _ rfl (w.heap.size + 2) rfl (core12 k2f 259 k2p k2n) rfl (core12_one _ _ _ _) 29 (core12 (fun _ => 0) 0 0 false) rfl ?_ agK ?_; with_reducible exact hW5.hr))
          have hW6 := hW5.outR hC hG (core12 k2f 259 k2p k2n)
          have hl6 := ownArr_kept hl5 (row_grown wd (w.heap.size + 2) (core12 k2f 259 k2p k2n)) (ownArr_off hl5 (by omega))
          refine bodyPost_ret (resultsRS rfl (w.heap.size + 2) _ rfl hW6.hr agK _ rfl) rfl ⟨a', n', c', ?_, ?_, ?_, hW6.off⟩
          · rw [HS.out]; rfl
          · rw [HS.out]; exact hl6
          · rw [HS.out]; exact hW6.mem
      · have hs' : stopB ⟨k2f, k2o, k2p, k2n⟩ = false := by simpa using hs
        have t1 : (k2o == -1) = false := by unfold stopB at hs'; simp at hs'; simpa using hs'.1
        have t2 : (k2o == 259) = false := by unfold stopB at hs'; simp at hs'; simpa using hs'.2
        have HS := Lib.hid (HRR.out.trans (runK_go F c hlt k' _ _ m' m2 L Hc.out hs'))
        clear hs hs'
        go_wp2_with fail
        go_roundw
        case measure => simp [intOf]; omega
        case rel => exact ⟨j + 1, ⟨k2f, k2o, k2p, k2n⟩, m2, L ++ [⟨b0, b1, bx⟩], a', n', c', by omega, by go_num, rfl, by rw [List.length_append, HL.out]; rfl, hW5, hl5, HS.out⟩
    · obtain rfl : j = 20 := by omega
      have HS : R = (k', L, m') := by rw [HRR.out]; simp [runK]
      have HS := Lib.hid HS
      obtain ⟨kf, ko, kp, kn⟩ := k'
      simp only [Ks.row] at hW
      clear HRR HCYC
      go_wp2_with (first
        | (refine wpList_loadR rfl 29 _ rfl (w.heap.size + 1) rfl 29 (core12 kf ko kp kn) ?_ agK ?_; with_reducible exact hW.hk)
        | (refine wpList_storeR rfl 29 _ _ rfl (w.heap.size + 2) rfl (core12 kf ko kp kn) rfl (core12_one _ _ _ _) 29 (core12 (fun _ => 0) 0 0 false) rfl ?_ agK ?_; with_reducible exact hW.hr))
      have hW6 := hW.outR hC hG (core12 kf ko kp kn)
      have hl6 := ownArr_kept hl (row_grown wr (w.heap.size + 2) (core12 kf ko kp kn)) (ownArr_off hl (by omega))
      refine bodyPost_ret (resultsRS rfl (w.heap.size + 2) _ rfl hW6.hr agK _ rfl) rfl ⟨sa, sn, sc, ?_, ?_, ?_, hW6.off⟩
      · rw [HS.out]; rfl
      · rw [HS.out]; exact hl6
      · rw [HS.out]; exact hW6.mem
end Go.Proofs.Ythhihmggaddlmaa
