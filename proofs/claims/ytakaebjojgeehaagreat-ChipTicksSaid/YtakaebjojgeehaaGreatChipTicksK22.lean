/- A part of the proof of ChipTicks: DrvSk, DrvCb. -/
import Derived.Test.YtakaebjojgeehaaGreatChipTicksK01
import Derived.Test.YtakaebjojgeehaaGreatChipTicksK02
import Derived.Test.YtakaebjojgeehaaGreatChipTicksK03
import Derived.Test.YtakaebjojgeehaaGreatChipTicksK04
import Derived.Test.YtakaebjojgeehaaGreatChipTicksK05
import Derived.Test.YtakaebjojgeehaaGreatChipTicksK06
import Derived.Test.YtakaebjojgeehaaGreatChipTicksK09
import Derived.Test.YtakaebjojgeehaaGreatChipTicksK12
import Derived.Test.YtakaebjojgeehaaGreatChipTicksK16
import Derived.Test.YtakaebjojgeehaaGreatChipTicksK17
import Derived.Test.YtakaebjojgeehaaGreatChipTicksK18
import Derived.Test.YtakaebjojgeehaaGreatChipTicksK19
import Derived.Test.YtakaebjojgeehaaGreatChipTicksK20
import Derived.Test.YtakaebjojgeehaaGreatChipTicksK21
import Derived.Below
import Derived.BigQuiet
import Derived.ChangeMaps5
import Derived.Deep.AppendSrc
import Derived.Deep.DeepAppendWide
import Derived.Deep.DeepCutAuto
import Derived.Deep.Draws
import Derived.Deep.MidRow
import Derived.Deep.OwnRows
import Derived.Deep.QuietTactic
import Derived.Deep.RegionHeld3
import Derived.Deep.RegionWith
import Derived.Deep.Slices
import Derived.Deep.WholeRow
import Derived.Laws.CopyOwn
import Derived.Laws.OwnMore
import Derived.Lib.Hide
import Derived.Lib.SmallJoins
import Derived.Maps.AppendAt
import Derived.OpenShut
import Derived.OrdersHeld
import Derived.OwnWalk
import Derived.RowKit3
import Derived.StillTactics
import Derived.StillTail
import Derived.StillTailTactics
import Derived.Test.YtakaebjojgeehaaGreatChecked
import Derived.WalkKit
namespace Go.Proofs.YtakaebjojgeehaaGreat
open Go.RowKit
set_option maxRecDepth 100000
/-- What a command does when its cycles have passed. -/
def Dr.act (s : Dr) : Dr := if s.c < 3 then s.move else s.byte.done
theorem Dr.act_fit {s : Dr} (h : s.fit) : s.act.fit := by
  unfold Dr.act
  split
  · exact Dr.move_fit h
  · exact Dr.done_fit (Dr.byte_fit h)
theorem Dr.act_tick (s : Dr) (h1 : s.c ≠ 0) (h2 : ¬ (2 < s.c ∧ s.k = 0)) (h3 : ¬ 1 < s.l) : s.tick = s.act := by
  unfold Dr.tick Dr.act
  rw [if_neg h1, if_neg h2, if_neg h3]
theorem Dr.act_one (s : Dr) (x : Int) : ({ s with l := x } : Dr).act = s.act := by
  unfold Dr.act
  dsimp only
  split
  · rfl
  · have e : ({ s with l := x } : Dr).byte = { s.byte with l := x } := by
      unfold Dr.byte
      dsimp only
      split <;> rfl
    rw [e]
    rfl
theorem Dr.ticks_act (s : Dr) (h1 : s.c ≠ 0) (h2 : ¬ (2 < s.c ∧ s.k = 0)) : s.ticks (max 1 s.l).toNat = s.act := by
  by_cases h : 1 < s.l
  · rw [show max 1 s.l = s.l by omega, Dr.ticks_end s h1 h2 (by omega)]
    rw [Dr.act_tick ({ s with l := 1 } : Dr) h1 h2 (by show ¬ (1 : Int) < 1; decide), Dr.act_one]
  · rw [show (max 1 s.l).toNat = 0 + 1 by omega]
    exact Dr.act_tick s h1 h2 h
/-- The ways of a round: no disk; too few cycles; an act. -/
theorem Dr.skip_lacks (s : Dr) (h1 : s.c ≠ 0) (h2 : 2 < s.c ∧ s.k = 0) (j : Nat) (hj : 0 < j) (i : Nat) : s.ticks j = ({ s with c := 0 } : Dr).ticks i := by
  obtain ⟨q, rfl⟩ : ∃ q, j = 1 + q := ⟨j - 1, by omega⟩
  rw [Dr.ticks_add]
  have e : s.ticks 1 = { s with c := 0 } := by
    show s.tick = _
    unfold Dr.tick
    rw [if_neg h1, if_pos h2]
  rw [e, Dr.ticks_idle _ rfl, Dr.ticks_idle _ rfl]
theorem Dr.skip_few (s : Dr) (h1 : s.c ≠ 0) (h2 : ¬ (2 < s.c ∧ s.k = 0)) (j : Int) (hj : 0 < j) (hl : j < max 1 s.l) : s.ticks j.toNat = { s with l := s.l - j } := by
  rw [Dr.ticks_down s h1 h2 j.toNat (by omega), show ((j.toNat : Nat) : Int) = j by omega]
theorem Dr.skip_act (s : Dr) (h1 : s.c ≠ 0) (h2 : ¬ (2 < s.c ∧ s.k = 0)) (j : Int) (hl : max 1 s.l ≤ j) : s.ticks j.toNat = s.act.ticks (j - max 1 s.l).toNat := by
  rw [← Dr.ticks_act s h1 h2, ← Dr.ticks_add]
  congr 1
  omega
theorem Dr.c0_fit {s : Dr} (h : s.fit) : ({ s with c := 0 } : Dr).fit := ⟨h.k, h.t, ⟨(by decide : (0 : Int) ≤ 0), (by decide : (0 : Int) < 5)⟩, h.e, h.n, h.l, h.d, h.r, h.o, h.b, h.m, h.y⟩
theorem Dr.few_fit {s : Dr} (h : s.fit) (j : Int) (hj : 0 < j) (hl : j < max 1 s.l) : ({ s with l := s.l - j } : Dr).fit := by
  have := h.l
  exact ⟨h.k, h.t, h.c, h.e, h.n, by dsimp only; omega, h.d, h.r, h.o, h.b, h.m, h.y⟩

/-- A state in the box y, and a box for the result; all that lies below w's end is as it was. -/
structure drvW (w : World) (B : Nat) (w' : World) (y : Nat) (s : Dr) (u : Value) : Prop where
  st : stD (B + 1) w' y s u
  box : rowB w' B 27 #[.slice none 0 0, .slice none 0 0]
  bel : Below w.heap.size w w'
  lo : w.heap.size ≤ B
theorem drvW.put {w w' : World} {B y : Nat} {s t : Dr} {u : Value} (h : drvW w B w' y s u) (i : Nat) (v : Value) (ht : (s.cs u).setIfInBounds i v = t.cs u) (hm : t.m = s.m) : drvW w B (w'.setCell ⟨y, i, none⟩ v) y t u := by
  have := h.st.lo
  have := h.lo
  exact ⟨h.st.put i v ht hm, rowB_other h.box ⟨y, i, none⟩ v (show y ≠ B by omega), Below.setCell h.bel (p := ⟨y, i, none⟩) (show w.heap.size ≤ y by omega) v, h.lo⟩
theorem drvW.calm {w w' w2 : World} {B y : Nat} {s : Dr} {u : Value} (h : drvW w B w' y s u) (hb : Below w'.heap.size w' w2) : drvW w B w2 y s u :=
  ⟨h.st.below hb, rowB_below h.box hb (rowB_lt h.box), h.bel.trans (hb.mono h.bel.size), h.lo⟩
theorem drvW.next {w w' w2 : World} {B y : Nat} {s t : Dr} {u : Value} (h : drvW w B w' y s u) (hs : stD (B + 1) w2 y t u) (hb : Below (B + 1) w' w2) : drvW w B w2 y t u :=
  ⟨hs, rowB_below h.box hb (Nat.lt_succ_self _), h.bel.trans (hb.mono (Nat.le_succ_of_le h.lo)), h.lo⟩
theorem drvW.start {w w1 : World} {B y : Nat} {s : Dr} {u : Value} (hB : w.heap.size ≤ B) (hu : own8 (B + 1) w1 u s.m) (hk : rowB w1 B 27 #[.slice none 0 0, .slice none 0 0]) (hb : Below w.heap.size w w1) (hy : w1.heap.size = y) :
    drvW w B (w1.alloc (.cells (s.cs u) 101)) y s u := by
  subst hy
  have := rowB_lt hk
  exact ⟨⟨rowB_new w1 _ _, World.ownsRow.alloc hu _, fun g hg e => by have := (own8_lt hu g hg).2; omega, by omega⟩, rowB_alloc hk _, hb.alloc hb.size _, hB⟩
/-- The result: a state in new blocks. -/
theorem drvW.fin {w w' w2 : World} {B y g : Nat} {s : Dr} {u : Value} (h : drvW w B w' y s u) (hr : rowB w2 g 3 (nums s.ns)) (hg : w'.heap.size ≤ g) (hb : Below w'.heap.size w' w2) (v vm : Value) :
    devF w.heap.size v vm (w2.setRow B #[.slice (some ⟨g, 0, none⟩) 10 10, u]) (.agg #[.slice (some ⟨g, 0, none⟩) 10 10, u]) s ∧ Below w.heap.size w (w2.setRow B #[.slice (some ⟨g, 0, none⟩) 10 10, u]) := by
  have h2 := h.calm hb
  have hlo := h.lo
  have hBw := rowB_lt h.box
  have ho : Off (· = B) w2 (w2.setRow B #[.slice (some ⟨g, 0, none⟩) 10 10, u]) := (Off.refl (· = B) w2).row (g := B) (.inl rfl) _
  refine ⟨⟨_, _, rfl, numB_arg (l := s.ns) (rowB_row_other hr _ (by omega)) (by show 10 ≤ _; decide), ?_, ?_⟩, below_rowR h2.bel _ hlo⟩
  · have hn : ∀ q, u.ownBlock = some q → q ≠ B := fun q hq => by have := (own8_lt h2.st.own q hq).1; omega
    have hgr : w2.grownBy (w2.setRow B #[.slice (some ⟨g, 0, none⟩) 10 10, u]) (some B) := ⟨rfl, rfl, rfl, by simp [World.setRow], fun k _ hk => setRow_other w2 B k _ (fun e => hk (by simp [e]))⟩
    have : own8 (B + 1) (w2.setRow B #[.slice (some ⟨g, 0, none⟩) 10 10, u]) u s.m := by
      refine World.ownsRow.kept h2.st.own hgr ?_
      cases e : u.ownBlock with
      | none => exact .inl rfl
      | some b => exact .inr (fun he => hn b e (by cases he; rfl))
    exact own8_byt this
  · intro b hb2
    refine .inl ?_
    rcases hb2 with hb2 | hb2
    · have : g = b := by simpa [Value.ownBlock] using hb2
      omega
    · have := (own8_lt h2.st.own b hb2).1
      omega
end Go.Proofs.YtakaebjojgeehaaGreat
namespace Go.Proofs.YtakaebjojgeehaaGreat
open Go.RowKit
set_option maxRecDepth 100000
theorem own8_box {B g : Nat} {w : World} {v : Value} {l : List Int} (h : own8 B w v l) (hg : ∀ b, v.ownBlock = some b → b ≠ g) (c : Array Value) : own8 B (w.setRow g c) v l := by
  have hgr : w.grownBy (w.setRow g c) (some g) := ⟨rfl, rfl, rfl, by simp [World.setRow], fun k _ hk => setRow_other w g k _ (fun e => hk (by simp [e]))⟩
  refine World.ownsRow.kept h hgr ?_
  cases e : v.ownBlock with
  | none => exact .inl rfl
  | some b => exact .inr (fun he => hg b e (by cases he; rfl))
theorem own8_put {B g : Nat} {w : World} {v : Value} {l : List Int} (h : own8 B w v l) (hg : ∀ b, v.ownBlock = some b → b ≠ g) (i : Nat) (x : Value) : own8 B (w.setCell ⟨g, i, none⟩ x) v l := by
  refine World.ownsRow.kept h (setCell_grown w _ x) ?_
  cases e : v.ownBlock with
  | none => exact .inl rfl
  | some b => exact .inr (fun he => hg b e (by cases he; rfl))
set_option maxHeartbeats 2000000 in
theorem drvLoad_any (v vm : Value) (ln lb : List Int) (w : World) (h : isArg w v ln) (hm : isByt w vm lb) (hL : lb.length ≤ 140737488351232) :
    Calls Tryz.prog 92 #[.agg #[v, vm]] w fun e w' => ∃ u, e = .returned (.agg ((Dr.of ln lb).cs u)) ∧ own8 w.heap.size w' u (Dr.of ln lb).m ∧ Below w.heap.size w w' := by
  obtain ⟨k0, k1, bW, sW⟩ := boxes2 w (.cells #[v, vm] 27) (.cells #[.int .i64 0, .int .i64 0, .int .i64 0, .int .i64 0, .int .i64 0, .int .i64 0, .int .i64 0, .int .i64 0, .int .i64 0, .int .i64 0, .slice none 0 0] 101)
  have k0 : rowB _ _ _ _ := k0
  have k1 : rowB _ _ _ _ := k1
  have hlook := drvLook_any v vm ln lb _ (isArg_below h bW (Nat.le_refl _)) (isByt_below hm bW (Nat.le_refl _)) hL
  have hmB : (drM lb).length ≤ 140737488351232 := by rw [drM_len]; omega
  obtain ⟨s, hs⟩ : ∃ s, Dr.of ln lb = s := ⟨_, rfl⟩
  have hsm : drM lb = s.m := by rw [← hs]; rfl
  rw [hs] at hlook
  rw [hs]
  rw [hsm] at hmB hlook
  clear hsm hs
  obtain ⟨k, t, c, e, n, l, d, r, o, b, m⟩ := s
  dsimp only [Dr.cs] at *
  obtain ⟨ii, i1, i2, i3, i4⟩ := infoBt
  have HII := Lib.hid i1
  clear h hm hL
  go_enter Tryz.func92, Tryz.ntmps92
  go_upto_region 2 with (first
      | (go_at_call 105; refine hlook.mono ?_; rintro e2 w2 ⟨u, rfl, hu, hb⟩; replace k1 := rowB_below k1 hb (rowB_lt k1); replace bW := bW.trans (hb.mono bW.size); have hs := hb.size; rw [sW] at hs; clear hb hlook; obtain ⟨a, cap, rfl, _⟩ := isByt_form hu)
)
  have nP := rowB_new w2 101 #[.int .i64 k, .int .i64 t, .int .i64 c, .int .i64 e, .int .i64 n, .int .i64 l, .int .i64 d, .int .i64 r, .int .i64 o, .int .i64 b, .slice a m.length cap]
  replace k1 := rowB_alloc k1 (.cells #[.int .i64 k, .int .i64 t, .int .i64 c, .int .i64 e, .int .i64 n, .int .i64 l, .int .i64 d, .int .i64 r, .int .i64 o, .int .i64 b, .slice a m.length cap] 101)
  replace hu := isByt_below hu ((Below.refl w2.heap.size w2).alloc (Nat.le_refl _) (.cells #[.int .i64 k, .int .i64 t, .int .i64 c, .int .i64 e, .int .i64 n, .int .i64 l, .int .i64 d, .int .i64 r, .int .i64 o, .int .i64 b, .slice a m.length cap] 101)) (Nat.le_refl _)
  replace bW := bW.alloc (by omega) (.cells #[.int .i64 k, .int .i64 t, .int .i64 c, .int .i64 e, .int .i64 n, .int .i64 l, .int .i64 d, .int .i64 r, .int .i64 o, .int .i64 b, .slice a m.length cap] 101)
  have hlt := rowB_lt nP
  generalize w2.alloc (.cells #[.int .i64 k, .int .i64 t, .int .i64 c, .int .i64 e, .int .i64 n, .int .i64 l, .int .i64 d, .int .i64 r, .int .i64 o, .int .i64 b, .slice a m.length cap] 101) = w3 at *
  obtain ⟨y, hy⟩ : ∃ y, w2.heap.size = y := ⟨_, rfl⟩
  rw [hy] at nP hs hlt
  rw [hy]
  clear hy
  have hown := ownArr_made 1 isU8 w3.heap.size 5 w3 (Nat.le_refl _)
  replace nP := rowB_alloc nP (.cells #[] 5)
  replace k1 := rowB_alloc k1 (.cells #[] 5)
  replace hu := byt_arr (isByt_below hu ((Below.refl w3.heap.size w3).alloc (Nat.le_refl _) (.cells #[] 5)) (Nat.le_refl _))
  replace bW := bW.alloc (by omega) (.cells #[] 5)
  have sz4 : w3.heap.size ≤ (w3.alloc (.cells #[] 5)).heap.size := by simp
  have hone : ∀ (cs : List Value) (x : Int), isU8 cs x → ∀ q ∈ cs, q.oneCell' = true := fun cs x h q hq => by
    unfold isU8 at h
    subst h
    rw [List.mem_singleton.1 hq]
    rfl
  have hc1 : ([] : List Int).length + m.length ≤ maxLen := by simp only [List.length_nil, maxLen]; omega
  have hc2 : (([] : List Int).length + m.length + (([] : List Int).length + m.length) / 4 + 192) * 1 ≤ 281474976710656 := by simp only [List.length_nil]; omega
  have HON := Lib.hid hone
  have HC1 := Lib.hid hc1
  have HC2 := Lib.hid hc2
  clear hone hc1 hc2 HII
  obtain ⟨q0, q1, q2, q3, q4, q5, q6, q7, q8, q9, q10⟩ := (elCells nP).1
  go_upto_region 3 with (at_builtin; refine wpList_append_arr2 rfl _ _ 22 rfl 5 1 1 ii (.int .u8 0) Tryz.underlying22 i1 i2 i3 i4 rfl (by decide) HON.out w3.heap.size _ _ rfl rfl [] m hown hu HC1.out HC2.out sz4 ?_; intro v5 w5 ho5 hg5; have hB5 := own_grown hown hg5 sz4; rw [List.nil_append] at ho5; replace ho5 := own8_of ho5; obtain ⟨a5, cap5, rfl, _⟩ := isByt_form (own8_byt ho5); replace nP := rowB_below nP hB5 hlt; replace k1 := rowB_below k1 hB5 (by omega); replace bW := bW.trans (hB5.mono (by omega)); clear hg5 hB5 hown hu q0 q1 q2 q3 q4 q5 q6 q7 q8 q9 q10; obtain ⟨⟨q0, q1, q2, q3, q4, q5, q6, q7, q8, q9, q10⟩, ⟨p0, p1, p2, p3, p4, p5, p6, p7, p8, p9, p10⟩⟩ := elCells nP)
  have hne : ∀ z, (Value.slice a5 m.length cap5).ownBlock = some z → z ≠ y := fun z hz => by have := (own8_lt ho5 z hz).1; omega
  have hne1 : ∀ z, (Value.slice a5 m.length cap5).ownBlock = some z → z ≠ w.heap.size + 1 := fun z hz => by have := (own8_lt ho5 z hz).1; omega
  replace ho5 := own8_put ho5 hne 10 (.slice a5 m.length cap5)
  replace nP : rowB _ y 101 #[.int .i64 k, .int .i64 t, .int .i64 c, .int .i64 e, .int .i64 n, .int .i64 l, .int .i64 d, .int .i64 r, .int .i64 o, .int .i64 b, .slice a5 m.length cap5] := rowB_set nP 10 (.slice a5 m.length cap5)
  replace k1 := rowB_other k1 ⟨y, 10, none⟩ (.slice a5 m.length cap5) (show y ≠ w.heap.size + 1 by omega)
  replace bW := Below.setCell bW (p := ⟨y, 10, none⟩) (show w.heap.size ≤ y by omega) (.slice a5 m.length cap5)
  clear q0 q1 q2 q3 q4 q5 q6 q7 q8 q9 q10 p0 p1 p2 p3 p4 p5 p6 p7 p8 p9 p10
  change Code.wp _ _ _ _ (w5.setCell ⟨y, 10, none⟩ (.slice a5 m.length cap5))
  generalize w5.setCell ⟨y, 10, none⟩ (.slice a5 m.length cap5) = w6 at *
  go_wp2_with (first
    | (refine wpList_loadR rfl 101 _ rfl y rfl 101 #[.int .i64 k, .int .i64 t, .int .i64 c, .int .i64 e, .int .i64 n, .int .i64 l, .int .i64 d, .int .i64 r, .int .i64 o, .int .i64 b, .slice a5 m.length cap5] ?_ agDr ?_; with_reducible exact nP)
    | (refine wpList_storeR rfl 101 _ _ rfl (w.heap.size + 1) rfl #[.int .i64 k, .int .i64 t, .int .i64 c, .int .i64 e, .int .i64 n, .int .i64 l, .int .i64 d, .int .i64 r, .int .i64 o, .int .i64 b, .slice a5 m.length cap5] rfl (Dr.one rfl) 101 #[.int .i64 0, .int .i64 0, .int .i64 0, .int .i64 0, .int .i64 0, .int .i64 0, .int .i64 0, .int .i64 0, .int .i64 0, .int .i64 0, .slice none 0 0] rfl ?_ agDr ?_; with_reducible exact k1))
  refine bodyPost_ret (resultsR rfl (w.heap.size + 1) _ rfl (rowB_row k1 _) agDr) rfl ?_
  exact ⟨_, rfl, own8_box (own8_mono ho5 (by omega)) hne1 _, below_rowR bW _ (by omega)⟩
end Go.Proofs.YtakaebjojgeehaaGreat
