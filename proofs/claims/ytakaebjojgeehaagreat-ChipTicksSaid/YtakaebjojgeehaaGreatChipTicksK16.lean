/- A part of the proof of ChipTicks: DrvD, Shape, VidD, VidShade. -/
import Derived.Test.YtakaebjojgeehaaGreatChipTicksK01
import Derived.Test.YtakaebjojgeehaaGreatChipTicksK02
import Derived.Test.YtakaebjojgeehaaGreatChipTicksK04
import Derived.Test.YtakaebjojgeehaaGreatChipTicksK05
import Derived.Test.YtakaebjojgeehaaGreatChipTicksK06
import Derived.Test.YtakaebjojgeehaaGreatChipTicksK09
import Derived.Test.YtakaebjojgeehaaGreatChipTicksK12
import Derived.Below
import Derived.BigQuiet
import Derived.ChangeMaps5
import Derived.Deep.DeepCutAuto
import Derived.Deep.Draws
import Derived.Deep.MidRow
import Derived.Deep.OwnRows
import Derived.Deep.QuietTactic
import Derived.Deep.RegionHeld3
import Derived.Deep.RegionWith
import Derived.Deep.Slices
import Derived.Deep.WholeRow
import Derived.Laws.CopyOwn
import Derived.Lib.Hide
import Derived.Lib.SmallJoins
import Derived.OpenShut
import Derived.OrdersHeld
import Derived.OwnWalk
import Derived.RowKit3
import Derived.StillTactics
import Derived.StillTail
import Derived.StillTailTactics
import Derived.Test.YtakaebjojgeehaaGreatChecked
import Derived.WalkKit
namespace Go.Proofs.YtakaebjojgeehaaGreat
open Go.RowKit
set_option maxRecDepth 100000
/-- Bytes that a call has made: none, or a row of their own. -/
def bytO (lo : Nat) (w : World) (a : Option Addr) (m : List Int) (g : Nat) : Prop := (m = [] ∧ a = none) ∨ ∃ q, a = some ⟨q, 0, none⟩ ∧ lo ≤ q ∧ q ≠ g ∧ rowB w q 5 (byts m)
theorem bytO.below {lo g : Nat} {w w' : World} {a : Option Addr} {m : List Int} (h : bytO lo w a m g) (hb : Below w.heap.size w w') : bytO lo w' a m g := by
  rcases h with h | ⟨q, e, h1, h2, h3⟩
  · exact .inl h
  · exact .inr ⟨q, e, h1, h2, rowB_below h3 hb (rowB_lt h3)⟩
theorem bytO.row {lo g B : Nat} {w : World} {a : Option Addr} {m : List Int} (h : bytO lo w a m g) (hB : B < lo) (c : Array Value) : bytO lo (w.setRow B c) a m g := by
  rcases h with h | ⟨q, e, h1, h2, h3⟩
  · exact .inl h
  · exact .inr ⟨q, e, h1, h2, rowB_row_other h3 _ (by omega)⟩
theorem bytO.other {lo g : Nat} {w : World} {a : Option Addr} {m : List Int} (h : bytO lo w a m g) (p : Addr) (v : Value) (hp : p.block < lo ∨ p.block = g) : bytO lo (w.setCell p v) a m g := by
  rcases h with h | ⟨q, e, h1, h2, h3⟩
  · exact .inl h
  · exact .inr ⟨q, e, h1, h2, rowB_other h3 _ _ (by omega)⟩
theorem bytO.alloc {lo g : Nat} {w : World} {a : Option Addr} {m : List Int} (h : bytO lo w a m g) (o : Obj) : bytO lo (w.alloc o) a m g := by
  rcases h with h | ⟨q, e, h1, h2, h3⟩
  · exact .inl h
  · exact .inr ⟨q, e, h1, h2, rowB_alloc h3 _⟩
theorem bytO.mono {lo hi g : Nat} {w : World} {a : Option Addr} {m : List Int} (h : bytO lo w a m g) (hl : hi ≤ lo) : bytO hi w a m g := by
  rcases h with h | ⟨q, e, h1, h2, h3⟩
  · exact .inl h
  · exact .inr ⟨q, e, Nat.le_trans hl h1, h2, h3⟩
theorem bytO.arg {lo g : Nat} {w : World} {a : Option Addr} {m : List Int} (h : bytO lo w a m g) (hm : m.length ≤ 9223372036854775807) : isByt w (.slice a m.length m.length) m := by
  rcases h with ⟨rfl, rfl⟩ | ⟨q, rfl, _, _, h3⟩
  · exact .inl ⟨_, _, rfl, rfl⟩
  · exact bytB_arg h3 hm
/-- A state of a drive in rows of its own. -/
def devD (lo : Nat) (w : World) (v : Value) (s : Dr) : Prop :=
  ∃ g a, v = .agg #[.slice (some ⟨g, 0, none⟩) 10 10, .slice a s.m.length s.m.length] ∧ lo ≤ g ∧ rowB w g 3 (nums s.ns) ∧ bytO lo w a s.m g
theorem devD.below {lo : Nat} {w w' : World} {v : Value} {s : Dr} (h : devD lo w v s) (hb : Below w.heap.size w w') : devD lo w' v s := by
  obtain ⟨g, a, e, h1, h2, h3⟩ := h
  exact ⟨g, a, e, h1, rowB_below h2 hb (rowB_lt h2), h3.below hb⟩
theorem devD.arg {lo : Nat} {w : World} {v : Value} {s : Dr} (h : devD lo w v s) (hm : s.m.length ≤ 9223372036854775807) : ∃ vx vm, v = .agg #[vx, vm] ∧ isArg w vx s.ns ∧ isByt w vm s.m := by
  obtain ⟨g, a, rfl, _, hr, hq⟩ := h
  exact ⟨_, _, rfl, numB_arg (l := s.ns) hr (by show 10 ≤ _; decide), hq.arg hm⟩
theorem drCells {w : World} {g : Nat} {ty : TypeId} {k t c e n l d r o b : Int} (h : rowB w g ty (nums [k, t, c, e, n, l, d, r, o, b])) :
    (w.cell? ⟨g, 0, none⟩ = some (.int .i64 k) ∧ w.cell? ⟨g, 1, none⟩ = some (.int .i64 t) ∧ w.cell? ⟨g, 2, none⟩ = some (.int .i64 c) ∧ w.cell? ⟨g, 3, none⟩ = some (.int .i64 e) ∧ w.cell? ⟨g, 4, none⟩ = some (.int .i64 n) ∧ w.cell? ⟨g, 5, none⟩ = some (.int .i64 l) ∧ w.cell? ⟨g, 6, none⟩ = some (.int .i64 d) ∧ w.cell? ⟨g, 7, none⟩ = some (.int .i64 r) ∧ w.cell? ⟨g, 8, none⟩ = some (.int .i64 o) ∧ w.cell? ⟨g, 9, none⟩ = some (.int .i64 b)) ∧
    (w.frozen? ⟨g, 0, none⟩ = false ∧ w.frozen? ⟨g, 1, none⟩ = false ∧ w.frozen? ⟨g, 2, none⟩ = false ∧ w.frozen? ⟨g, 3, none⟩ = false ∧ w.frozen? ⟨g, 4, none⟩ = false ∧ w.frozen? ⟨g, 5, none⟩ = false ∧ w.frozen? ⟨g, 6, none⟩ = false ∧ w.frozen? ⟨g, 7, none⟩ = false ∧ w.frozen? ⟨g, 8, none⟩ = false ∧ w.frozen? ⟨g, 9, none⟩ = false) :=
  ⟨⟨rowB_cell h 0 rfl, rowB_cell h 1 rfl, rowB_cell h 2 rfl, rowB_cell h 3 rfl, rowB_cell h 4 rfl, rowB_cell h 5 rfl, rowB_cell h 6 rfl, rowB_cell h 7 rfl, rowB_cell h 8 rfl, rowB_cell h 9 rfl⟩,
    ⟨rowB_free h 0, rowB_free h 1, rowB_free h 2, rowB_free h 3, rowB_free h 4, rowB_free h 5, rowB_free h 6, rowB_free h 7, rowB_free h 8, rowB_free h 9⟩⟩
theorem splice_take (B : Nat) (lb : List Int) (h : B ≤ lb.length) : (splice ((List.replicate B (0 : Int)).map (Value.int .u8)) 0 ((lb.take B).map (Value.int .u8))).toArray = byts (lb.take B) := by
  rw [splice_pad]
  congr 1
  refine List.ext_getElem? fun i => ?_
  unfold pad
  rw [List.getElem?_map, List.getElem?_take]
  by_cases hi : i < B
  · rw [List.getElem?_range hi, if_pos hi, Option.map_some, List.getD_eq_getElem?_getD, List.getElem?_eq_getElem (show i < lb.length by omega)]
    rfl
  · rw [List.getElem?_eq_none (by simpa using hi), if_neg hi]; rfl
end Go.Proofs.YtakaebjojgeehaaGreat
namespace Go.Proofs.YtakaebjojgeehaaGreat
open Go.RowKit Go.ChangeShapes Go.WideShapes
/-- The slice v reads as the list l: R tells what the k cells of an element are. -/
def isArr {α : Type} (k : Nat) (R : World → List Value → α → Prop) (w : World) (v : Value) (l : List α) : Prop :=
  (∃ a cap, v = .slice a 0 cap ∧ l = []) ∨
  ∃ b off cap, v = .slice (some ⟨b, off, none⟩) l.length cap ∧ b < w.heap.size ∧ l.length ≤ cap ∧ cap ≤ 9223372036854775807 ∧
    ∀ i x, l[i]? = some x → ∃ cs, cs.length = k ∧ (∀ j, j < k → w.cell? ⟨b, off + i * k + j, none⟩ = cs[j]?) ∧ R w cs x

theorem open_arr {H : Type} {enc : TypeId × Value → H} {P : Program} {w : World} {base : Nat} {held : Bool} {t e : TypeId} {α : Type} [Inhabited α] {k : Nat} {R : World → List Value → α → Prop}
    (ht : P.underlying t = some (.slice e)) (ce : P.cellsOf e = k) (hk : 0 < k)
    (hR : ∀ fuel cs x, DataW.trod enc P w base (fun _ => true) held fuel e cs = some x → ∃ y, R w cs y)
    {fuel : Nat} {cs : List Value} {x : DataW H × List MemPlace} (h : DataW.trod enc P w base (fun _ => true) held fuel t cs = some x) :
    ∃ a len cap l, cs = [.slice a len cap] ∧ isArr k R w (.slice a len cap) l ∧ l.length = len ∧ len ≤ cap ∧ (cap = 0 ∨ ∃ elems spare, x.1 = .slice elems spare ∧ elems.length + spare.length = cap) := by
  rcases Go.Deep.open_slice ht h with ⟨rfl, _⟩ | ⟨y, l, c, m, n, D, Pl, rfl, _, hl, hm, hmm, hx, hi⟩
  · exact ⟨none, 0, 0, [], rfl, .inl ⟨_, _, rfl, rfl⟩, rfl, Nat.le_refl _, .inl rfl⟩
  · have hm2 : m = c := by simpa using hmm
    subst hm2
    have hfacts : ∀ i, i < l → ∃ q : α, ∃ cs, cs.length = k ∧ (∀ j, j < k → w.cell? ((y.add (i * k)).add j) = cs[j]?) ∧ R w cs q := fun i hi2 => by
      obtain ⟨cs, h1, h2⟩ := hi i (by omega)
      rw [ce] at h1
      obtain ⟨_, h4, h5⟩ := World.cells?_some h1
      obtain ⟨q, hq⟩ := hR n cs _ h2
      exact ⟨q, cs, h4, h5, hq⟩
    obtain ⟨Y, hY⟩ := Go.Deep.choose_lt hfacts
    refine ⟨some y, l, m, (List.range l).map Y, rfl, ?_, by simp, hl, .inr ⟨(List.range l).map D, (List.range (m - l)).map fun j => D (l + j), by rw [hx], by simp; omega⟩⟩
    by_cases h0 : l = 0
    · subst h0; exact .inl ⟨_, _, rfl, rfl⟩
    · obtain ⟨cs0, a1, a2, _⟩ := hY 0 (by omega)
      have e0 : (y.add (0 * k)).add 0 = y := by simp [Addr.add]
      have hv0 := a2 0 hk
      rw [e0, List.getElem?_eq_getElem (by omega)] at hv0
      obtain ⟨hb, hs⟩ := cell_block hv0
      obtain ⟨b, off, sp⟩ := y
      have hs' : sp = none := hs
      subst hs'
      refine .inr ⟨b, off, m, by simp, hb, by simpa using hl, by simpa [maxLen] using hm, fun i x hx => ?_⟩
      have hil : i < l := by
        have := (List.getElem?_eq_some_iff.1 hx).1
        simpa using this
      have hxe : Y i = x := by
        rw [List.getElem?_map, List.getElem?_range hil] at hx
        simpa using hx
      obtain ⟨cs, b1, b2, b3⟩ := hY i hil
      refine ⟨cs, b1, fun j hj => ?_, hxe ▸ b3⟩
      have e1 : ((⟨b, off, none⟩ : Addr).add (i * k)).add j = ⟨b, off + i * k + j, none⟩ := by rw [Addr.add_lit, Addr.add_lit]
      rw [← e1]
      exact b2 j hj
end Go.Proofs.YtakaebjojgeehaaGreat
namespace Go.Proofs.YtakaebjojgeehaaGreat
open Go.RowKit
set_option maxRecDepth 100000
/-- The numbers of a video chip as they are read: the position is the last one if it is missing. -/
def vidL (l : List Int) : List Int := if l = [] then [2559] else l
/-- A video chip as its numbers and bytes are read. -/
def Vd.ofN (l lb : List Int) : Vd := ⟨(vidL l).getD 0 0 % 2560, (vidL l).getD 1 0 % 2, pad 32 lb⟩
theorem Vd.ofN_fit (l lb : List Int) (hb : ∀ x ∈ lb, 0 ≤ x ∧ x < 256) : (Vd.ofN l lb).fit := by
  refine ⟨⟨Int.emod_nonneg _ (by decide), Int.emod_lt_of_pos _ (by decide)⟩, ⟨Int.emod_nonneg _ (by decide), Int.emod_lt_of_pos _ (by decide)⟩, pad_len _ _, fun i => ?_⟩
  show 0 ≤ (pad 32 lb).getD i 0 ∧ (pad 32 lb).getD i 0 < 256
  rw [pad_get]
  split
  · exact Vd.reg_bd hb i
  · exact ⟨by decide, by decide⟩
/-- A state of a video chip in rows of its own. -/
def devV (lo : Nat) (w : World) (v : Value) (s : Vd) : Prop :=
  ∃ g q, v = .agg #[.slice (some ⟨g, 0, none⟩) 2 2, .slice (some ⟨q, 0, none⟩) 32 32] ∧ lo ≤ g ∧ lo ≤ q ∧ g ≠ q ∧ rowB w g 3 #[.int .i64 s.p, .int .i64 s.h] ∧ rowB w q 5 (byts s.m)
theorem devV.below {lo : Nat} {w w' : World} {v : Value} {s : Vd} (h : devV lo w v s) (hb : Below w.heap.size w w') : devV lo w' v s := by
  obtain ⟨g, q, e, h1, h2, h3, h4, h5⟩ := h
  exact ⟨g, q, e, h1, h2, h3, rowB_below h4 hb (rowB_lt h4), rowB_below h5 hb (rowB_lt h5)⟩
/-- The bytes of a row as an argument. -/
theorem byt32 {w : World} {q : Nat} {m : List Int} (h : rowB w q 5 (byts m)) (hl : m.length = 32) : isByt w (.slice (some ⟨q, 0, none⟩) 32 32) m := by
  have := bytB_arg h (by omega)
  rw [hl] at this
  exact this
end Go.Proofs.YtakaebjojgeehaaGreat
namespace Go.Proofs.YtakaebjojgeehaaGreat
open Go.RowKit
set_option maxRecDepth 100000
theorem no_next {m : List Int} {p : Int} {k : Nat} (h : ∀ j < k, vmet m p j = false) (hk : vmet m p k = false) : ∀ j < k + 1, vmet m p j = false := fun j hj => by
  by_cases e : j = k
  · rw [e]; exact hk
  · exact h j (by omega)
set_option maxHeartbeats 1000000 in
theorem shade_any (v : Value) (m : List Int) (p : Int) (w : World) (h : isByt w v m) (hl : m.length = 32) (hb : ∀ i, 0 ≤ vreg m i ∧ vreg m i < 256) (hp : 0 ≤ p ∧ p < 2560) :
    Calls Tryz.prog 22 #[v, .int .i64 p] w fun e w' => e = .returned (.tuple #[.int .i64 (vcol m p), .bool (vhit m p)]) ∧ w = w' := by
  obtain ⟨a, cap, rfl, hf⟩ := isByt_form h
  obtain ⟨b, off, rfl, hbl, hc1, hc2, c0⟩ := hf 0 (by omega)
  have hcell : ∀ i, i < 32 → w.cell? ⟨b, off + i, none⟩ = some (.int .u8 (vreg m i)) := fun i hi => by
    obtain ⟨b', off', e, _, _, _, c⟩ := hf i (by omega)
    cases e
    exact c
  have c1 := hcell 1 (by omega)
  have c2 := hcell 2 (by omega)
  have c3 := hcell 3 (by omega)
  have c4 := hcell 4 (by omega)
  rw [Nat.add_zero] at c0
  obtain ⟨L, hL⟩ : ∃ L, p / 64 = L := ⟨_, rfl⟩
  obtain ⟨D, hD⟩ : ∃ D, p % 64 = D := ⟨_, rfl⟩
  have t1 : p.tdiv 64 = L := (Int.tdiv_eq_ediv_of_nonneg hp.1).trans hL
  have t2 : p.tmod 64 = D := (Int.tmod_eq_emod_of_nonneg hp.1).trans hD
  have b0 := hb 0
  have b1 := hb 1
  have b2 := hb 2
  have b3 := hb 3
  have b4 := hb 4
  have hL2 : 0 ≤ L ∧ L < 40 := by omega
  have hD2 : 0 ≤ D ∧ D < 64 := by omega
  rw [hl]
  obtain ⟨M0, hM0⟩ : ∃ M0, vreg m 0 = M0 := ⟨_, rfl⟩
  have e0 : m.getD 0 0 = M0 := hM0
  rw [e0] at c0
  have u0 : M0.tmod 16 = M0 % 16 := Int.tmod_eq_emod_of_nonneg (by omega)
  by_cases hv : D < 48 ∧ L < 32
  · obtain ⟨hv1, hv2⟩ := hv
    have hvis : vvis p = true := by unfold vvis; rw [hD, hL, decide_eq_true hv1, decide_eq_true hv2]; rfl
    have hJ2 : (8 + L / 8 * 6 + D / 8).toNat < 32 := by omega
    have hcl : vcell m p = vreg m (8 + L / 8 * 6 + D / 8).toNat % 16 := by
      unfold vcell vcellAt
      rw [hL, hD]
    have cJ := hcell _ hJ2
    have bJ := hb (8 + L / 8 * 6 + D / 8).toNat
    obtain ⟨MJ, hMJ⟩ : ∃ MJ, vreg m (8 + L / 8 * 6 + D / 8).toNat = MJ := ⟨_, rfl⟩
    rw [hMJ] at cJ bJ hcl
    clear hMJ
    have uJ : MJ.tmod 16 = MJ % 16 := Int.tmod_eq_emod_of_nonneg bJ.1
    have k1 : L.tdiv 8 = L / 8 := Int.tdiv_eq_ediv_of_nonneg hL2.1
    have k2 : D.tdiv 8 = D / 8 := Int.tdiv_eq_ediv_of_nonneg hD2.1
    have w1 : wrap64 (L / 8 * 6) = L / 8 * 6 := IntWalk.wrap64_in _ (by omega)
    have w2 : wrap64 (8 + L / 8 * 6) = 8 + L / 8 * 6 := IntWalk.wrap64_in _ (by omega)
    have w3 : wrap64 (8 + L / 8 * 6 + D / 8) = 8 + L / 8 * 6 + D / 8 := IntWalk.wrap64_in _ (by omega)
    have hd1 : decide (48 ≤ D) = false := decide_eq_false (by omega)
    have hd2 : decide (32 ≤ L) = false := decide_eq_false (by omega)
    clear hcell hf h
    go_enter Tryz.func22, Tryz.ntmps22
    go_upto_region 6 with fail
    clear w1 w2 w3 k1 k2 cJ c0 hd1 hd2
    obtain ⟨X, hX⟩ : ∃ X, vreg m 1 = X := ⟨_, rfl⟩
    obtain ⟨Y, hY⟩ : ∃ Y, vreg m 2 = Y := ⟨_, rfl⟩
    obtain ⟨C, hC⟩ : ∃ C, vreg m 3 = C := ⟨_, rfl⟩
    obtain ⟨F, hF⟩ : ∃ F, vreg m 4 = F := ⟨_, rfl⟩
    have hmet : ∀ k : Nat, vmet m p k = (decide (D = X + k) && ((decide (Y ≤ L) && decide (L < Y + 8)) && decide (128 ≤ F * 2 ^ k % 256))) := fun k => by
      unfold vmet vrow vbit
      rw [hD, hL, hX, hY, hF]
    have hcol : vcol m p = if vcov m p = true then C % 16 else MJ % 16 := by unfold vcol; rw [if_pos hvis, hC, hcl]
    have hhit : vhit m p = (vcov m p && decide (0 < MJ % 16)) := by unfold vhit; rw [hvis, hcl]; rfl
    rw [hX] at b1 c1
    rw [hY] at b2 c2
    rw [hC] at b3 c3
    rw [hF] at b4 c4
    have uC : C.tmod 16 = C % 16 := Int.tmod_eq_emod_of_nonneg b3.1
    have HM := Lib.hid hmet
    have HC := Lib.hid hcol
    have HH := Lib.hid hhit
    clear hmet hcol hhit hX hY hC hF hM0 e0 hvis hcl
    go_loopw [9, 37] (fun x i wr => ∃ k : Nat, k ≤ 8 ∧ i = .int .i64 k ∧ wr = w ∧ ∀ j < k, vmet m p j = false) (fun _ i _ => 8 - (intOf i).toNat)
    case atStart => exact ⟨0, by decide, rfl, rfl, fun j hj => absurd hj (Nat.not_lt_zero j)⟩
    case round =>
      obtain ⟨k, hk, rfl, rfl, hno⟩ := hrel
      have HN := Lib.hid hno
      clear hno
      by_cases hlt : k < 8
      · have hd : decide ((k : Int) < 8) = true := decide_eq_true (by omega)
        have wk : wrap64 (X + k) = X + k := IntWalk.wrap64_in _ (by omega)
        have wy : wrap64 (Y + 8) = Y + 8 := IntWalk.wrap64_in _ (by omega)
        by_cases hA : D = X + k
        · have dA : (D == X + k) = true := by simpa using hA
          by_cases hB : Y ≤ L
          · have dB : decide (Y ≤ L) = true := decide_eq_true hB
            by_cases hC : L < Y + 8
            · have dC : decide (L < Y + 8) = true := decide_eq_true hC
              by_cases hE : 128 ≤ F * 2 ^ k % 256
              · have dE : decide (128 ≤ F * 2 ^ k % 256) = true := decide_eq_true hE
                have hz : vcov m p = true := vcov_met.2 ⟨k, hlt, by rw [HM.out, decide_eq_true hA, dB, dC, dE]; rfl⟩
                have q1 : vcol m p = C % 16 := by rw [HC.out, hz]; rfl
                have q2 : vhit m p = decide (0 < MJ % 16) := by rw [HH.out, hz]; rfl
                go_wp2_with fail
                go_ret2
                exact ⟨by rw [q1, q2]; rfl, rfl⟩
              · have dE : decide (128 ≤ F * 2 ^ k % 256) = false := decide_eq_false hE
                have hz : vmet m p k = false := by rw [HM.out, dE, Bool.and_false, Bool.and_false]
                go_wp2_with fail
                go_roundw
                case rel => exact ⟨k + 1, by omega, by go_num, trivial, no_next HN.out hz⟩
                case measure => simp [intOf]; omega
            · have dC : decide (L < Y + 8) = false := decide_eq_false hC
              have hz : vmet m p k = false := by rw [HM.out, dC, Bool.and_false, Bool.false_and, Bool.and_false]
              go_wp2_with fail
              go_roundw
              case rel => exact ⟨k + 1, by omega, by go_num, trivial, no_next HN.out hz⟩
              case measure => simp [intOf]; omega
          · have dB : decide (Y ≤ L) = false := decide_eq_false hB
            have hz : vmet m p k = false := by rw [HM.out, dB, Bool.false_and, Bool.false_and, Bool.and_false]
            go_wp2_with fail
            go_roundw
            case rel => exact ⟨k + 1, by omega, by go_num, trivial, no_next HN.out hz⟩
            case measure => simp [intOf]; omega
        · have dA : (D == X + k) = false := by simpa using hA
          have hz : vmet m p k = false := by rw [HM.out, decide_eq_false hA, Bool.false_and]
          go_wp2_with fail
          go_roundw
          case rel => exact ⟨k + 1, by omega, by go_num, trivial, no_next HN.out hz⟩
          case measure => simp [intOf]; omega
      · obtain rfl : k = 8 := by omega
        have hv : vcov m p = false := by
          cases hh : vcov m p with
          | false => rfl
          | true =>
            obtain ⟨i, hi, hm⟩ := vcov_met.1 hh
            rw [HN.out i hi] at hm
            cases hm
        have q1 : vcol m p = MJ % 16 := by rw [HC.out, hv]; rfl
        have q2 : vhit m p = false := by rw [HH.out, hv]; rfl
        go_wp2_with fail
        go_ret2
        exact ⟨by rw [q1, q2]; rfl, rfl⟩
  · have hvis : vvis p = false := by unfold vvis; rw [hD, hL]; simp; omega
    have q1 : vcol m p = M0 % 16 := by unfold vcol; rw [if_neg (by rw [hvis]; decide), hM0]
    have q2 : vhit m p = false := by unfold vhit; rw [hvis]; rfl
    rw [q1, q2]
    by_cases hd : 48 ≤ D
    · have hd1 : decide (48 ≤ D) = true := decide_eq_true hd
      clear hcell hf h
      go_enter Tryz.func22, Tryz.ntmps22
      go_wp2_with fail
      go_ret2
      exact ⟨rfl, rfl⟩
    · have hd1 : decide (48 ≤ D) = false := decide_eq_false hd
      have hd2 : decide (32 ≤ L) = true := decide_eq_true (by omega)
      clear hcell hf h
      go_enter Tryz.func22, Tryz.ntmps22
      go_wp2_with fail
      go_ret2
      exact ⟨rfl, rfl⟩
end Go.Proofs.YtakaebjojgeehaaGreat
