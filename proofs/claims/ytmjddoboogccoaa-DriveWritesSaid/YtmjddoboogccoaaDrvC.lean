/- Contracts of package drive: Skip, Tick, Out, Irq, Next between states as they come in. -/
import Derived.Test.YtmjddoboogccoaaArrOwn2
import Derived.Test.YtmjddoboogccoaaChecked
import Derived.Test.YtmjddoboogccoaaDrvCa
import Derived.Below
import Derived.BigQuiet
import Derived.ChangeMaps5
import Derived.Deep.AppendSrc
import Derived.Deep.DeepAppendWide
import Derived.Deep.DeepCutAuto
import Derived.Deep.Draws
import Derived.Deep.MidRow
import Derived.Deep.OwnRows
import Derived.Deep.QuietTactic
import Derived.Deep.RegionHeld3
import Derived.Deep.RegionWith
import Derived.Deep.Slices
import Derived.Deep.WholeRow
import Derived.Laws.CopyOwn
import Derived.Laws.OwnMore
import Derived.Lib.Hide
import Derived.Lib.SmallJoins
import Derived.Maps.AppendAt
import Derived.OpenShut
import Derived.OrdersHeld
import Derived.OwnWalk
import Derived.RowKit3
import Derived.StillTactics
import Derived.StillTail
import Derived.StillTailTactics
import Derived.WalkKit
import Derived.Test.YtmjddoboogccoaaDrvOwn
import Derived.Test.YtmjddoboogccoaaDrvTk
import Derived.Test.YtmjddoboogccoaaRegs
import Derived.Test.YtmjddoboogccoaaDevPick
import Derived.Test.YtmjddoboogccoaaDrvMb
namespace Go.Proofs.Ytmjddoboogccoaa
open Go.RowKit
set_option maxRecDepth 100000
theorem own8_box {B g : Nat} {w : World} {v : Value} {l : List Int} (h : own8 B w v l) (hg : ∀ b, v.ownBlock = some b → b ≠ g) (c : Array Value) : own8 B (w.setRow g c) v l := by
  have hgr : w.grownBy (w.setRow g c) (some g) := ⟨rfl, rfl, rfl, by simp [World.setRow], fun k _ hk => setRow_other w g k _ (fun e => hk (by simp [e]))⟩
  refine World.ownsRow.kept h hgr ?_
  cases e : v.ownBlock with
  | none => exact .inl rfl
  | some b => exact .inr (fun he => hg b e (by cases he; rfl))
theorem own8_put {B g : Nat} {w : World} {v : Value} {l : List Int} (h : own8 B w v l) (hg : ∀ b, v.ownBlock = some b → b ≠ g) (i : Nat) (x : Value) : own8 B (w.setCell ⟨g, i, none⟩ x) v l := by
  refine World.ownsRow.kept h (grown_set w _ x) ?_
  cases e : v.ownBlock with
  | none => exact .inl rfl
  | some b => exact .inr (fun he => hg b e (by cases he; rfl))
set_option maxHeartbeats 2000000 in
theorem drvLoad_any (v vm : Value) (ln lb : List Int) (w : World) (h : isArg w v ln) (hm : isByt w vm lb) (hL : lb.length ≤ 140737488351232) :
    Calls Try.prog 35 #[.agg #[v, vm]] w fun e w' => ∃ u, e = .returned (.agg ((Dr.of ln lb).cs u)) ∧ own8 w.heap.size w' u (Dr.of ln lb).m ∧ Below w.heap.size w w' := by
  obtain ⟨k0, k1, bW, sW⟩ := boxes2 w (.cells #[v, vm] 25) (.cells #[.int .i64 0, .int .i64 0, .int .i64 0, .int .i64 0, .int .i64 0, .int .i64 0, .int .i64 0, .int .i64 0, .int .i64 0, .int .i64 0, .slice none 0 0] 58)
  have k0 : rowB _ _ _ _ := k0
  have k1 : rowB _ _ _ _ := k1
  have hlook := drvLook_any v vm ln lb _ (isArg_below h bW (Nat.le_refl _)) (isByt_below hm bW (Nat.le_refl _)) hL
  have hmB : (drM lb).length ≤ 140737488351232 := by rw [drM_len]; omega
  obtain ⟨s, hs⟩ : ∃ s, Dr.of ln lb = s := ⟨_, rfl⟩
  have hsm : drM lb = s.m := by rw [← hs]; rfl
  rw [hs] at hlook
  rw [hs]
  rw [hsm] at hmB hlook
  clear hsm hs
  obtain ⟨k, t, c, e, n, l, d, r, o, b, m⟩ := s
  dsimp only [Dr.cs] at *
  obtain ⟨ii, i1, i2, i3, i4⟩ := infoBt
  have HII := Lib.hid i1
  clear h hm hL
  go_enter Try.func35, Try.ntmps35
  go_upto_region 2 with (first
      | (go_at_call 47; refine hlook.mono ?_; rintro e2 w2 ⟨u, rfl, hu, hb⟩; replace k1 := rowB_below k1 hb (rowB_lt k1); replace bW := bW.trans (hb.mono bW.size); have hs := hb.size; rw [sW] at hs; clear hb hlook; obtain ⟨a, cap, rfl, _⟩ := isByt_form hu)
)
  have nP := rowB_new w2 58 #[.int .i64 k, .int .i64 t, .int .i64 c, .int .i64 e, .int .i64 n, .int .i64 l, .int .i64 d, .int .i64 r, .int .i64 o, .int .i64 b, .slice a m.length cap]
  replace k1 := rowB_alloc k1 (.cells #[.int .i64 k, .int .i64 t, .int .i64 c, .int .i64 e, .int .i64 n, .int .i64 l, .int .i64 d, .int .i64 r, .int .i64 o, .int .i64 b, .slice a m.length cap] 58)
  replace hu := isByt_below hu ((Below.refl w2.heap.size w2).alloc (Nat.le_refl _) (.cells #[.int .i64 k, .int .i64 t, .int .i64 c, .int .i64 e, .int .i64 n, .int .i64 l, .int .i64 d, .int .i64 r, .int .i64 o, .int .i64 b, .slice a m.length cap] 58)) (Nat.le_refl _)
  replace bW := bW.alloc (by omega) (.cells #[.int .i64 k, .int .i64 t, .int .i64 c, .int .i64 e, .int .i64 n, .int .i64 l, .int .i64 d, .int .i64 r, .int .i64 o, .int .i64 b, .slice a m.length cap] 58)
  have hlt := rowB_lt nP
  generalize w2.alloc (.cells #[.int .i64 k, .int .i64 t, .int .i64 c, .int .i64 e, .int .i64 n, .int .i64 l, .int .i64 d, .int .i64 r, .int .i64 o, .int .i64 b, .slice a m.length cap] 58) = w3 at *
  obtain ⟨y, hy⟩ : ∃ y, w2.heap.size = y := ⟨_, rfl⟩
  rw [hy] at nP hs hlt
  rw [hy]
  clear hy
  have hown := ownArr_made 1 isU8 w3.heap.size 5 w3 (Nat.le_refl _)
  replace nP := rowB_alloc nP (.cells #[] 5)
  replace k1 := rowB_alloc k1 (.cells #[] 5)
  replace hu := byt_arr (isByt_below hu ((Below.refl w3.heap.size w3).alloc (Nat.le_refl _) (.cells #[] 5)) (Nat.le_refl _))
  replace bW := bW.alloc (by omega) (.cells #[] 5)
  have sz4 : w3.heap.size ≤ (w3.alloc (.cells #[] 5)).heap.size := by simp
  have hone : ∀ (cs : List Value) (x : Int), isU8 cs x → ∀ q ∈ cs, q.oneCell' = true := fun cs x h q hq => by
    unfold isU8 at h
    subst h
    rw [List.mem_singleton.1 hq]
    rfl
  have hc1 : ([] : List Int).length + m.length ≤ maxLen := by simp only [List.length_nil, maxLen]; omega
  have hc2 : (([] : List Int).length + m.length + (([] : List Int).length + m.length) / 4 + 192) * 1 ≤ 281474976710656 := by simp only [List.length_nil]; omega
  have HON := Lib.hid hone
  have HC1 := Lib.hid hc1
  have HC2 := Lib.hid hc2
  clear hone hc1 hc2 HII
  obtain ⟨q0, q1, q2, q3, q4, q5, q6, q7, q8, q9, q10⟩ := (elCells nP).1
  go_upto_region 3 with (at_builtin; refine wpList_append_arr2 rfl _ _ 23 rfl 5 1 1 ii (.int .u8 0) Try.underlying23 i1 i2 i3 i4 rfl (by decide) HON.out w3.heap.size _ _ rfl rfl [] m hown hu HC1.out HC2.out sz4 ?_; intro v5 w5 ho5 hg5; have hB5 := own_grown hown hg5 sz4; rw [List.nil_append] at ho5; replace ho5 := own8_of ho5; obtain ⟨a5, cap5, rfl, _⟩ := isByt_form (own8_byt ho5); replace nP := rowB_below nP hB5 hlt; replace k1 := rowB_below k1 hB5 (by omega); replace bW := bW.trans (hB5.mono (by omega)); clear hg5 hB5 hown hu q0 q1 q2 q3 q4 q5 q6 q7 q8 q9 q10; obtain ⟨⟨q0, q1, q2, q3, q4, q5, q6, q7, q8, q9, q10⟩, ⟨p0, p1, p2, p3, p4, p5, p6, p7, p8, p9, p10⟩⟩ := elCells nP)
  have hne : ∀ z, (Value.slice a5 m.length cap5).ownBlock = some z → z ≠ y := fun z hz => by have := (own8_lt ho5 z hz).1; omega
  have hne1 : ∀ z, (Value.slice a5 m.length cap5).ownBlock = some z → z ≠ w.heap.size + 1 := fun z hz => by have := (own8_lt ho5 z hz).1; omega
  replace ho5 := own8_put ho5 hne 10 (.slice a5 m.length cap5)
  replace nP : rowB _ y 58 #[.int .i64 k, .int .i64 t, .int .i64 c, .int .i64 e, .int .i64 n, .int .i64 l, .int .i64 d, .int .i64 r, .int .i64 o, .int .i64 b, .slice a5 m.length cap5] := rowB_set nP 10 (.slice a5 m.length cap5)
  replace k1 := rowB_other k1 ⟨y, 10, none⟩ (.slice a5 m.length cap5) (show y ≠ w.heap.size + 1 by omega)
  replace bW := Below.setCell bW (p := ⟨y, 10, none⟩) (show w.heap.size ≤ y by omega) (.slice a5 m.length cap5)
  clear q0 q1 q2 q3 q4 q5 q6 q7 q8 q9 q10 p0 p1 p2 p3 p4 p5 p6 p7 p8 p9 p10
  change Code.wp _ _ _ _ (w5.setCell ⟨y, 10, none⟩ (.slice a5 m.length cap5))
  generalize w5.setCell ⟨y, 10, none⟩ (.slice a5 m.length cap5) = w6 at *
  go_wp2_with (first
    | (refine wpList_loadR rfl 58 _ rfl y rfl 58 #[.int .i64 k, .int .i64 t, .int .i64 c, .int .i64 e, .int .i64 n, .int .i64 l, .int .i64 d, .int .i64 r, .int .i64 o, .int .i64 b, .slice a5 m.length cap5] ?_ agDr ?_; with_reducible exact nP)
    | (refine wpList_storeR rfl 58 _ _ rfl (w.heap.size + 1) rfl #[.int .i64 k, .int .i64 t, .int .i64 c, .int .i64 e, .int .i64 n, .int .i64 l, .int .i64 d, .int .i64 r, .int .i64 o, .int .i64 b, .slice a5 m.length cap5] rfl (Dr.one rfl) 58 #[.int .i64 0, .int .i64 0, .int .i64 0, .int .i64 0, .int .i64 0, .int .i64 0, .int .i64 0, .int .i64 0, .int .i64 0, .int .i64 0, .slice none 0 0] rfl ?_ agDr ?_; with_reducible exact k1))
  refine bodyPost_ret (resultsR rfl (w.heap.size + 1) _ rfl (rowB_row k1 _) agDr) rfl ?_
  exact ⟨_, rfl, own8_box (own8_mono ho5 (by omega)) hne1 _, below_rowR bW _ (by omega)⟩
end Go.Proofs.Ytmjddoboogccoaa
namespace Go.Proofs.Ytmjddoboogccoaa
open Go.RowKit
set_option maxRecDepth 100000

/-- What a command does when its cycles have passed. -/
def Dr.act (s : Dr) : Dr := if s.c < 3 then s.move else s.byte.done
theorem Dr.act_fit {s : Dr} (h : s.fit) : s.act.fit := by
  unfold Dr.act
  split
  · exact Dr.move_fit h
  · exact Dr.done_fit (Dr.byte_fit h)
theorem Dr.act_len (s : Dr) : s.act.m.length = s.m.length := by
  unfold Dr.act
  split
  · rfl
  · rw [Dr.done_m, Dr.byte_len]
theorem Dr.act_tick (s : Dr) (h1 : s.c ≠ 0) (h2 : ¬ (2 < s.c ∧ s.k = 0)) (h3 : ¬ 1 < s.l) : s.tick = s.act := by
  unfold Dr.tick Dr.act
  rw [if_neg h1, if_neg h2, if_neg h3]
theorem Dr.act_one (s : Dr) (x : Int) : ({ s with l := x } : Dr).act = s.act := by
  unfold Dr.act
  dsimp only
  split
  · rfl
  · have e : ({ s with l := x } : Dr).byte = { s.byte with l := x } := by
      unfold Dr.byte
      dsimp only
      split <;> rfl
    rw [e]
    rfl
theorem Dr.ticks_act (s : Dr) (h1 : s.c ≠ 0) (h2 : ¬ (2 < s.c ∧ s.k = 0)) : s.ticks (max 1 s.l).toNat = s.act := by
  by_cases h : 1 < s.l
  · rw [show max 1 s.l = s.l by omega, Dr.ticks_end s h1 h2 (by omega)]
    rw [Dr.act_tick ({ s with l := 1 } : Dr) h1 h2 (by show ¬ (1 : Int) < 1; decide), Dr.act_one]
  · rw [show (max 1 s.l).toNat = 0 + 1 by omega]
    exact Dr.act_tick s h1 h2 h
/-- The ways of a round: no disk; too few cycles; an act. -/
theorem Dr.skip_lacks (s : Dr) (h1 : s.c ≠ 0) (h2 : 2 < s.c ∧ s.k = 0) (j : Nat) (hj : 0 < j) (i : Nat) : s.ticks j = ({ s with c := 0 } : Dr).ticks i := by
  obtain ⟨q, rfl⟩ : ∃ q, j = 1 + q := ⟨j - 1, by omega⟩
  rw [Dr.ticks_add]
  have e : s.ticks 1 = { s with c := 0 } := by
    show s.tick = _
    unfold Dr.tick
    rw [if_neg h1, if_pos h2]
  rw [e, Dr.ticks_idle _ rfl, Dr.ticks_idle _ rfl]
theorem Dr.skip_few (s : Dr) (h1 : s.c ≠ 0) (h2 : ¬ (2 < s.c ∧ s.k = 0)) (j : Int) (hj : 0 < j) (hl : j < max 1 s.l) : s.ticks j.toNat = { s with l := s.l - j } := by
  rw [Dr.ticks_down s h1 h2 j.toNat (by omega), show ((j.toNat : Nat) : Int) = j by omega]
theorem Dr.skip_act (s : Dr) (h1 : s.c ≠ 0) (h2 : ¬ (2 < s.c ∧ s.k = 0)) (j : Int) (hl : max 1 s.l ≤ j) : s.ticks j.toNat = s.act.ticks (j - max 1 s.l).toNat := by
  rw [← Dr.ticks_act s h1 h2, ← Dr.ticks_add]
  congr 1
  omega
theorem Dr.c0_fit {s : Dr} (h : s.fit) : ({ s with c := 0 } : Dr).fit := ⟨h.k, h.t, ⟨(by decide : (0 : Int) ≤ 0), (by decide : (0 : Int) < 5)⟩, h.e, h.n, h.l, h.d, h.r, h.o, h.b, h.m, h.y⟩
theorem Dr.few_fit {s : Dr} (h : s.fit) (j : Int) (hj : 0 < j) (hl : j < max 1 s.l) : ({ s with l := s.l - j } : Dr).fit := by
  have := h.l
  exact ⟨h.k, h.t, h.c, h.e, h.n, by dsimp only; omega, h.d, h.r, h.o, h.b, h.m, h.y⟩

/-- A state in the box y, and a box for the result; all that lies below w's end is as it was. -/
structure drvW (w : World) (B : Nat) (w' : World) (y : Nat) (s : Dr) (u : Value) : Prop where
  st : stD (B + 1) w' y s u
  box : rowB w' B 25 #[.slice none 0 0, .slice none 0 0]
  bel : Below w.heap.size w w'
  lo : w.heap.size ≤ B
theorem drvW.put {w w' : World} {B y : Nat} {s t : Dr} {u : Value} (h : drvW w B w' y s u) (i : Nat) (v : Value) (ht : (s.cs u).setIfInBounds i v = t.cs u) (hm : t.m = s.m) : drvW w B (w'.setCell ⟨y, i, none⟩ v) y t u := by
  have := h.st.lo
  have := h.lo
  exact ⟨h.st.put i v ht hm, rowB_other h.box ⟨y, i, none⟩ v (show y ≠ B by omega), Below.setCell h.bel (p := ⟨y, i, none⟩) (show w.heap.size ≤ y by omega) v, h.lo⟩
theorem drvW.calm {w w' w2 : World} {B y : Nat} {s : Dr} {u : Value} (h : drvW w B w' y s u) (hb : Below w'.heap.size w' w2) : drvW w B w2 y s u :=
  ⟨h.st.below hb, rowB_below h.box hb (rowB_lt h.box), h.bel.trans (hb.mono h.bel.size), h.lo⟩
theorem drvW.next {w w' w2 : World} {B y : Nat} {s t : Dr} {u : Value} (h : drvW w B w' y s u) (hs : stD (B + 1) w2 y t u) (hb : Below (B + 1) w' w2) : drvW w B w2 y t u :=
  ⟨hs, rowB_below h.box hb (Nat.lt_succ_self _), h.bel.trans (hb.mono (Nat.le_succ_of_le h.lo)), h.lo⟩
theorem drvW.start {w w1 : World} {B y : Nat} {s : Dr} {u : Value} (hB : w.heap.size ≤ B) (hu : own8 (B + 1) w1 u s.m) (hk : rowB w1 B 25 #[.slice none 0 0, .slice none 0 0]) (hb : Below w.heap.size w w1) (hy : w1.heap.size = y) :
    drvW w B (w1.alloc (.cells (s.cs u) 58)) y s u := by
  subst hy
  have := rowB_lt hk
  exact ⟨⟨rowB_new w1 _ _, World.ownsRow.alloc hu _, fun g hg e => by have := (own8_lt hu g hg).2; omega, by omega⟩, rowB_alloc hk _, hb.alloc hb.size _, hB⟩
/-- The result: a state in new blocks. -/
theorem drvW.fin {w w' w2 : World} {B y g : Nat} {s : Dr} {u : Value} (h : drvW w B w' y s u) (hr : rowB w2 g 3 (nums s.ns)) (hg : w'.heap.size ≤ g) (hb : Below w'.heap.size w' w2) (v vm : Value) :
    devF w.heap.size v vm (w2.setRow B #[.slice (some ⟨g, 0, none⟩) 10 10, u]) (.agg #[.slice (some ⟨g, 0, none⟩) 10 10, u]) s ∧ Below w.heap.size w (w2.setRow B #[.slice (some ⟨g, 0, none⟩) 10 10, u]) := by
  have h2 := h.calm hb
  have hlo := h.lo
  have hBw := rowB_lt h.box
  have ho : Off (· = B) w2 (w2.setRow B #[.slice (some ⟨g, 0, none⟩) 10 10, u]) := (Off.refl (· = B) w2).row (g := B) (.inl rfl) _
  refine ⟨⟨_, _, rfl, numB_arg (l := s.ns) (rowB_row_other hr _ (by omega)) (by show 10 ≤ _; decide), ?_, ?_⟩, below_rowR h2.bel _ hlo⟩
  · have hn : ∀ q, u.ownBlock = some q → q ≠ B := fun q hq => by have := (own8_lt h2.st.own q hq).1; omega
    have hgr : w2.grownBy (w2.setRow B #[.slice (some ⟨g, 0, none⟩) 10 10, u]) (some B) := ⟨rfl, rfl, rfl, by simp [World.setRow], fun k _ hk => setRow_other w2 B k _ (fun e => hk (by simp [e]))⟩
    have : own8 (B + 1) (w2.setRow B #[.slice (some ⟨g, 0, none⟩) 10 10, u]) u s.m := by
      refine World.ownsRow.kept h2.st.own hgr ?_
      cases e : u.ownBlock with
      | none => exact .inl rfl
      | some b => exact .inr (fun he => hn b e (by cases he; rfl))
    exact own8_byt this
  · intro b hb2
    refine .inl ?_
    rcases hb2 with hb2 | hb2
    · have : g = b := by simpa [Value.ownBlock] using hb2
      omega
    · have := (own8_lt h2.st.own b hb2).1
      omega
end Go.Proofs.Ytmjddoboogccoaa
namespace Go.Proofs.Ytmjddoboogccoaa
open Go.RowKit
set_option maxRecDepth 100000
theorem drvChange_from (v vm : Value) (ln lb : List Int) (x : Int) (w : World) (h : isArg w v ln) (hm : isByt w vm lb) (hbb : ∀ x ∈ lb, 0 ≤ x ∧ x < 256) (hL : lb.length ≤ 140737488351232) (hx : 0 ≤ x ∧ x < 256) :
    Calls Try.prog 17 #[.agg #[v, vm], .int .i64 x] w fun e' w' => ∃ u, e' = .returned u ∧ devF w.heap.size v vm w' u ((Dr.of ln lb).change x) ∧ Below w.heap.size w w' := by
  obtain ⟨k0, k1, bW, sW⟩ := boxes2 w (.cells #[v, vm] 25) (.cells #[.slice none 0 0, .slice none 0 0] 25)
  have k0 : rowB _ _ _ _ := k0
  have k1 : rowB _ _ _ _ := k1
  have hload := drvLoad_any v vm ln lb _ (isArg_below h bW (Nat.le_refl _)) (isByt_below hm bW (Nat.le_refl _)) hL
  have hfit := Dr.of_fit ln lb hbb
  have hmB : (Dr.of ln lb).m.length ≤ 140737488351232 := by show (drM lb).length ≤ _; rw [drM_len]; omega
  rw [sW] at hload
  obtain ⟨s, hs⟩ : ∃ s, Dr.of ln lb = s := ⟨_, rfl⟩
  rw [hs] at hload hfit hmB
  rw [hs]
  clear hs h hm hbb hL
  obtain ⟨k, t, c, e, n, l, d, r, o, b, m⟩ := s
  dsimp only [Dr.cs] at hload hmB
  obtain ⟨K, hK⟩ : ∃ K, (if (m.length : Int) / 256 < x then 0 else x) = K := ⟨_, rfl⟩
  have hlo : lo x 8 = x := by show x % 256 = x; omega
  have hw8 : lo x (wd 8) = x := hlo
  by_cases hc : c = 0
  · subst hc
    have ev : (⟨k, t, 0, e, n, l, d, r, o, b, m⟩ : Dr).change x = ⟨K, t, 0, e, n, l, d, r, o, b, m⟩ := by
      unfold Dr.change
      rw [if_pos rfl, ← hK]
      dsimp only
      congr 1
      split <;> split <;> omega
    rw [ev]
    clear ev
    go_enter Try.func17, Try.ntmps17
    go_upto_region 2 with (go_at_call 35; refine hload.mono ?_; rintro e2 w1 ⟨u, rfl, hu, hb⟩; obtain ⟨a, cap, rfl, _⟩ := isByt_form (own8_byt hu); have hs := hb.size; rw [sW] at hs; replace k1 := rowB_below k1 hb (by omega); have bX := bW.trans (hb.mono (by omega)); clear hb hload)
    obtain ⟨y, hy⟩ : ∃ y, w1.heap.size = y := ⟨_, rfl⟩
    have hst := drvW.start (s := ⟨k, t, 0, e, n, l, d, r, o, b, m⟩) (by omega) hu k1 bX hy
    dsimp only [Dr.cs] at hst
    clear hu k1 bX bW k0
    change Code.wp _ _ _ _ (w1.alloc (.cells #[.int .i64 k, .int .i64 t, .int .i64 0, .int .i64 e, .int .i64 n, .int .i64 l, .int .i64 d, .int .i64 r, .int .i64 o, .int .i64 b, .slice a m.length cap] 58))
    rw [hy]
    clear hs sW hy
    generalize w1.alloc (.cells #[.int .i64 k, .int .i64 t, .int .i64 0, .int .i64 e, .int .i64 n, .int .i64 l, .int .i64 d, .int .i64 r, .int .i64 o, .int .i64 b, .slice a m.length cap] 58) = w2 at *
    obtain ⟨⟨e0, e1, e2, e3, e4, e5, e6, e7, e8, e9, e10⟩, ⟨z0, z1, z2, z3, z4, z5, z6, z7, z8, z9, z10⟩⟩ := elCells hst.st.row
    dsimp only at e0 e1 e2 e3 e4 e5 e6 e7 e8 e9 e10
    have HK := Lib.hid hK
    clear hK
    go_upto_region 4 with (first
        | (go_at_call 43; refine (low_any _ _ _).mono ?_; rintro e2 w' ⟨rfl, rfl⟩; rw [hw8])
        | (go_at_call 46; refine (drvSuch_any y a _ cap x _ e10 hmB).mono ?_; rintro e2 w' ⟨rfl, rfl⟩; rw [HK.out])
  )
    have hZ := (drvW.put hst 0 (.int .i64 K) (t := ⟨K, t, 0, e, n, l, d, r, o, b, m⟩) rfl rfl)
    have lZ := rowB_lt hZ.box
    go_wp2_with (first
        | (go_at_call 36; refine (drvDev_any ((w.heap.size + 1) + 1) y _ _ _ _ _ _ _ _ _ _ _ _ _ hZ.st).mono ?_; rintro e2 w8 ⟨g, rfl, hr, hg, hb⟩; have k8 := rowB_below hZ.box hb lZ)
        | (refine wpList_storeR rfl 25 _ _ rfl (w.heap.size + 1) rfl #[.slice (some ⟨g, 0, none⟩) 10 10, .slice a m.length cap] rfl (dev2_one _ _ _ _ _ _) 25 #[.slice none 0 0, .slice none 0 0] rfl ?_ agDv ?_; with_reducible exact k8)
  )
    refine bodyPost_ret (resultsR rfl (w.heap.size + 1) _ rfl (rowB_row k8 _) agDv) rfl ?_
    exact ⟨_, rfl, hZ.fin (s := ⟨K, t, 0, e, n, l, d, r, o, b, m⟩) hr hg hb v vm⟩
  · have q : (c == 0) = false := by simpa using hc
    have ev : (⟨k, t, c, e, n, l, d, r, o, b, m⟩ : Dr).change x = (⟨k, t, c, e, n, l, d, r, o, b, m⟩ : Dr) := by
      unfold Dr.change
      rw [if_neg hc]
    rw [ev]
    clear ev
    go_enter Try.func17, Try.ntmps17
    go_upto_region 2 with (go_at_call 35; refine hload.mono ?_; rintro e2 w1 ⟨u, rfl, hu, hb⟩; obtain ⟨a, cap, rfl, _⟩ := isByt_form (own8_byt hu); have hs := hb.size; rw [sW] at hs; replace k1 := rowB_below k1 hb (by omega); have bX := bW.trans (hb.mono (by omega)); clear hb hload)
    obtain ⟨y, hy⟩ : ∃ y, w1.heap.size = y := ⟨_, rfl⟩
    have hst := drvW.start (s := ⟨k, t, c, e, n, l, d, r, o, b, m⟩) (by omega) hu k1 bX hy
    dsimp only [Dr.cs] at hst
    clear hu k1 bX bW k0
    change Code.wp _ _ _ _ (w1.alloc (.cells #[.int .i64 k, .int .i64 t, .int .i64 c, .int .i64 e, .int .i64 n, .int .i64 l, .int .i64 d, .int .i64 r, .int .i64 o, .int .i64 b, .slice a m.length cap] 58))
    rw [hy]
    clear hs sW hy
    generalize w1.alloc (.cells #[.int .i64 k, .int .i64 t, .int .i64 c, .int .i64 e, .int .i64 n, .int .i64 l, .int .i64 d, .int .i64 r, .int .i64 o, .int .i64 b, .slice a m.length cap] 58) = w2 at *
    obtain ⟨⟨e0, e1, e2, e3, e4, e5, e6, e7, e8, e9, e10⟩, ⟨z0, z1, z2, z3, z4, z5, z6, z7, z8, z9, z10⟩⟩ := elCells hst.st.row
    dsimp only at e0 e1 e2 e3 e4 e5 e6 e7 e8 e9 e10
    go_upto_region 4 with (fail)
    clear e0 z0 e1 z1 e2 z2 e3 z3 e4 z4 e5 z5 e6 z6 e7 z7 e8 z8 e9 z9 e10 z10
    have hZ := hst
    have lZ := rowB_lt hZ.box
    go_wp2_with (first
        | (go_at_call 36; refine (drvDev_any ((w.heap.size + 1) + 1) y _ _ _ _ _ _ _ _ _ _ _ _ _ hZ.st).mono ?_; rintro e2 w8 ⟨g, rfl, hr, hg, hb⟩; have k8 := rowB_below hZ.box hb lZ)
        | (refine wpList_storeR rfl 25 _ _ rfl (w.heap.size + 1) rfl #[.slice (some ⟨g, 0, none⟩) 10 10, .slice a m.length cap] rfl (dev2_one _ _ _ _ _ _) 25 #[.slice none 0 0, .slice none 0 0] rfl ?_ agDv ?_; with_reducible exact k8)
  )
    refine bodyPost_ret (resultsR rfl (w.heap.size + 1) _ rfl (rowB_row k8 _) agDv) rfl ?_
    exact ⟨_, rfl, hZ.fin (s := ⟨k, t, c, e, n, l, d, r, o, b, m⟩) hr hg hb v vm⟩
theorem drvChange_any (v vm : Value) (ln lb : List Int) (x : Int) (w : World) (h : isArg w v ln) (hm : isByt w vm lb) (hbb : ∀ x ∈ lb, 0 ≤ x ∧ x < 256) (hL : lb.length ≤ 140737488351232) (hx : 0 ≤ x ∧ x < 256) :
    Calls Try.prog 17 #[.agg #[v, vm], .int .i64 x] w fun e w' => ∃ u, e = .returned u ∧ devA w' u ((Dr.of ln lb).change x) ∧ Below w.heap.size w w' := by
  refine (drvChange_from v vm ln lb x w h hm hbb hL hx).mono ?_
  rintro e w' ⟨u, e1, e2, e3⟩
  exact ⟨u, e1, e2.toA, e3⟩
set_option maxHeartbeats 1000000 in
theorem drvNew_any (vm : Value) (lb : List Int) (w : World) (hm : isByt w vm lb) (hL : lb.length ≤ 140737488351232) :
    Calls Try.prog 11 #[vm] w fun e w' => ∃ u, e = .returned u ∧ devA w' u (Dr.of [] lb) ∧ Below w.heap.size w w' := by
  obtain ⟨a0, c0, rfl, _⟩ := isByt_form hm
  obtain ⟨k1, bW, sW⟩ := boxes1 w (.cells #[.slice none 0 0, .slice none 0 0] 25)
  have k1 : rowB _ _ _ _ := k1
  have hload := drvLoad_any (.slice none 0 0) (.slice a0 lb.length c0) [] lb _ (isArg_none _) (isByt_below hm bW (Nat.le_refl _)) hL
  rw [sW] at hload
  obtain ⟨s, hs⟩ : ∃ s, Dr.of [] lb = s := ⟨_, rfl⟩
  rw [hs] at hload
  rw [hs]
  clear hs hm hL
  obtain ⟨k, t, c, e, n, l, d, r, o, b, m⟩ := s
  dsimp only [Dr.cs] at hload
  go_enter Try.func11, Try.ntmps11
  go_upto_region 2 with (go_at_call 35; refine hload.mono ?_; rintro e2 w1 ⟨u, rfl, hu, hb⟩; obtain ⟨a, cap, rfl, _⟩ := isByt_form (own8_byt hu); have hs := hb.size; rw [sW] at hs; replace k1 := rowB_below k1 hb (by omega); have bX := bW.trans (hb.mono (by omega)); clear hb hload)
  obtain ⟨y, hy⟩ : ∃ y, w1.heap.size = y := ⟨_, rfl⟩
  have hst := drvW.start (s := ⟨k, t, c, e, n, l, d, r, o, b, m⟩) (by omega) hu k1 bX hy
  dsimp only [Dr.cs] at hst
  clear hu k1 bX bW
  change Code.wp _ _ _ _ (w1.alloc (.cells #[.int .i64 k, .int .i64 t, .int .i64 c, .int .i64 e, .int .i64 n, .int .i64 l, .int .i64 d, .int .i64 r, .int .i64 o, .int .i64 b, .slice a m.length cap] 58))
  rw [hy]
  clear hs sW hy
  generalize w1.alloc (.cells #[.int .i64 k, .int .i64 t, .int .i64 c, .int .i64 e, .int .i64 n, .int .i64 l, .int .i64 d, .int .i64 r, .int .i64 o, .int .i64 b, .slice a m.length cap] 58) = w2 at *
  have hZ := hst
  have lZ := rowB_lt hZ.box
  go_wp2_with (first
      | (go_at_call 36; refine (drvDev_any (w.heap.size + 1) y _ _ _ _ _ _ _ _ _ _ _ _ _ hZ.st).mono ?_; rintro e2 w8 ⟨g, rfl, hr, hg, hb⟩; have k8 := rowB_below hZ.box hb lZ)
      | (refine wpList_storeR rfl 25 _ _ rfl w.heap.size rfl #[.slice (some ⟨g, 0, none⟩) 10 10, .slice a m.length cap] rfl (dev2_one _ _ _ _ _ _) 25 #[.slice none 0 0, .slice none 0 0] rfl ?_ agDv ?_; with_reducible exact k8)
)
  refine bodyPost_ret (resultsR rfl w.heap.size _ rfl (rowB_row k8 _) agDv) rfl ?_
  have hF := hZ.fin (s := ⟨k, t, c, e, n, l, d, r, o, b, m⟩) hr hg hb (.slice none 0 0) (.slice none 0 0)
  exact ⟨_, rfl, hF.1.toA, hF.2⟩
set_option maxHeartbeats 1000000 in
theorem drvRead_from (v vm : Value) (ln lb : List Int) (x : Int) (w : World) (h : isArg w v ln) (hm : isByt w vm lb) (hbb : ∀ x ∈ lb, 0 ≤ x ∧ x < 256) (hL : lb.length ≤ 140737488351232) :
    Calls Try.prog 13 #[.agg #[v, vm], .int .i64 x] w fun e' w' => ∃ u, e' = .returned (.tuple #[u, .int .i64 ((Dr.of ln lb).reg x)]) ∧ devF w.heap.size v vm w' u ((Dr.of ln lb).read x) ∧ Below w.heap.size w w' := by
  obtain ⟨k0, k1, bW, sW⟩ := boxes2 w (.cells #[v, vm] 25) (.cells #[.slice none 0 0, .slice none 0 0] 25)
  have k0 : rowB _ _ _ _ := k0
  have k1 : rowB _ _ _ _ := k1
  have hload := drvLoad_any v vm ln lb _ (isArg_below h bW (Nat.le_refl _)) (isByt_below hm bW (Nat.le_refl _)) hL
  have hfit := Dr.of_fit ln lb hbb
  have hmB : (Dr.of ln lb).m.length ≤ 140737488351232 := by show (drM lb).length ≤ _; rw [drM_len]; omega
  rw [sW] at hload
  obtain ⟨s, hs⟩ : ∃ s, Dr.of ln lb = s := ⟨_, rfl⟩
  rw [hs] at hload hfit hmB
  rw [hs]
  clear hs h hm hbb hL
  obtain ⟨k, t, c, e, n, l, d, r, o, b, m⟩ := s
  dsimp only [Dr.cs] at hload hmB
  rcases (by omega : x = 0 ∨ (x = 1 ∧ c = 4) ∨ (x = 1 ∧ c ≠ 4) ∨ x = 2 ∨ x = 3 ∨ (x ≠ 0 ∧ x ≠ 1 ∧ x ≠ 2 ∧ x ≠ 3)) with rfl | ⟨rfl, rfl⟩ | ⟨rfl, h4⟩ | rfl | rfl | ⟨n0, n1, n2, n3⟩
  · obtain ⟨X, hX⟩ : ∃ X, (⟨k, t, c, e, n, l, d, r, o, b, m⟩ : Dr).status = X := ⟨_, rfl⟩
    have hcb := hfit.c.1
    have hrb := hfit.r
    have hob := hfit.o
    dsimp only at hcb hrb hob
    have er : (⟨k, t, c, e, n, l, d, r, o, b, m⟩ : Dr).reg 0 = X := by unfold Dr.reg; rw [if_pos rfl, hX]
    have ev : (⟨k, t, c, e, n, l, d, r, o, b, m⟩ : Dr).read 0 = ⟨k, t, c, e, n, l, d, r, 0, b, m⟩ := by unfold Dr.read; rw [if_pos rfl]
    rw [er, ev]
    clear er ev
    have HX := Lib.hid hX
    clear hX
    go_enter Try.func13, Try.ntmps13
    go_upto_region 2 with (go_at_call 35; refine hload.mono ?_; rintro e2 w1 ⟨u, rfl, hu, hb⟩; obtain ⟨a, cap, rfl, _⟩ := isByt_form (own8_byt hu); have hs := hb.size; rw [sW] at hs; replace k1 := rowB_below k1 hb (by omega); have bX := bW.trans (hb.mono (by omega)); clear hb hload)
    obtain ⟨y, hy⟩ : ∃ y, w1.heap.size = y := ⟨_, rfl⟩
    have hst := drvW.start (s := ⟨k, t, c, e, n, l, d, r, o, b, m⟩) (by omega) hu k1 bX hy
    dsimp only [Dr.cs] at hst
    clear hu k1 bX bW k0
    change Code.wp _ _ _ _ (w1.alloc (.cells #[.int .i64 k, .int .i64 t, .int .i64 c, .int .i64 e, .int .i64 n, .int .i64 l, .int .i64 d, .int .i64 r, .int .i64 o, .int .i64 b, .slice a m.length cap] 58))
    rw [hy]
    clear hs sW hy
    generalize w1.alloc (.cells #[.int .i64 k, .int .i64 t, .int .i64 c, .int .i64 e, .int .i64 n, .int .i64 l, .int .i64 d, .int .i64 r, .int .i64 o, .int .i64 b, .slice a m.length cap] 58) = w2 at *
    obtain ⟨⟨e0, e1, e2, e3, e4, e5, e6, e7, e8, e9, e10⟩, ⟨z0, z1, z2, z3, z4, z5, z6, z7, z8, z9, z10⟩⟩ := elCells hst.st.row
    dsimp only at e0 e1 e2 e3 e4 e5 e6 e7 e8 e9 e10
    go_upto_region 14 with (go_at_call 37; refine (drvStatus_any ((w.heap.size + 1) + 1) y _ _ _ _ _ _ _ _ _ _ _ _ _ hst.st hcb hrb hob).mono ?_; rintro e2 w3 ⟨rfl, hb⟩; rw [HX.out]; replace hst := hst.calm hb; clear hb e0 z0 e1 z1 e2 z2 e3 z3 e4 z4 e5 z5 e6 z6 e7 z7 e8 z8 e9 z9 e10 z10; obtain ⟨⟨e0, e1, e2, e3, e4, e5, e6, e7, e8, e9, e10⟩, ⟨z0, z1, z2, z3, z4, z5, z6, z7, z8, z9, z10⟩⟩ := elCells hst.st.row)
    clear e0 z0 e1 z1 e2 z2 e3 z3 e4 z4 e5 z5 e6 z6 e7 z7 e8 z8 e9 z9 e10 z10
    have hZ := (drvW.put hst 8 (.int .i64 0) (t := ⟨k, t, c, e, n, l, d, r, 0, b, m⟩) rfl rfl)
    have lZ := rowB_lt hZ.box
    go_wp2_with (first
        | (go_at_call 36; refine (drvDev_any ((w.heap.size + 1) + 1) y _ _ _ _ _ _ _ _ _ _ _ _ _ hZ.st).mono ?_; rintro e2 w8 ⟨g, rfl, hr, hg, hb⟩; have k8 := rowB_below hZ.box hb lZ)
        | (refine wpList_storeR rfl 25 _ _ rfl (w.heap.size + 1) rfl #[.slice (some ⟨g, 0, none⟩) 10 10, .slice a m.length cap] rfl (dev2_one _ _ _ _ _ _) 25 #[.slice none 0 0, .slice none 0 0] rfl ?_ agDv ?_; with_reducible exact k8)
  )
    refine bodyPost_ret (resultsRT rfl (w.heap.size + 1) _ rfl (rowB_row k8 _) agDv rfl) rfl ?_
    exact ⟨_, rfl, hZ.fin (s := ⟨k, t, c, e, n, l, d, r, 0, b, m⟩) hr hg hb v vm⟩
  · have er : (⟨k, t, 4, e, n, l, d, r, o, b, m⟩ : Dr).reg 1 = d := by unfold Dr.reg; simp
    have ev : (⟨k, t, 4, e, n, l, d, r, o, b, m⟩ : Dr).read 1 = ⟨k, t, 4, e, n, l, d, r, o, b, m⟩ := by unfold Dr.read; rw [if_neg (by decide), if_neg (fun h => h.2 rfl)]
    rw [er, ev]
    clear er ev
    go_enter Try.func13, Try.ntmps13
    go_upto_region 2 with (go_at_call 35; refine hload.mono ?_; rintro e2 w1 ⟨u, rfl, hu, hb⟩; obtain ⟨a, cap, rfl, _⟩ := isByt_form (own8_byt hu); have hs := hb.size; rw [sW] at hs; replace k1 := rowB_below k1 hb (by omega); have bX := bW.trans (hb.mono (by omega)); clear hb hload)
    obtain ⟨y, hy⟩ : ∃ y, w1.heap.size = y := ⟨_, rfl⟩
    have hst := drvW.start (s := ⟨k, t, 4, e, n, l, d, r, o, b, m⟩) (by omega) hu k1 bX hy
    dsimp only [Dr.cs] at hst
    clear hu k1 bX bW k0
    change Code.wp _ _ _ _ (w1.alloc (.cells #[.int .i64 k, .int .i64 t, .int .i64 4, .int .i64 e, .int .i64 n, .int .i64 l, .int .i64 d, .int .i64 r, .int .i64 o, .int .i64 b, .slice a m.length cap] 58))
    rw [hy]
    clear hs sW hy
    generalize w1.alloc (.cells #[.int .i64 k, .int .i64 t, .int .i64 4, .int .i64 e, .int .i64 n, .int .i64 l, .int .i64 d, .int .i64 r, .int .i64 o, .int .i64 b, .slice a m.length cap] 58) = w2 at *
    obtain ⟨⟨e0, e1, e2, e3, e4, e5, e6, e7, e8, e9, e10⟩, ⟨z0, z1, z2, z3, z4, z5, z6, z7, z8, z9, z10⟩⟩ := elCells hst.st.row
    dsimp only at e0 e1 e2 e3 e4 e5 e6 e7 e8 e9 e10
    go_upto_region 14 with (fail)
    clear e0 z0 e1 z1 e2 z2 e3 z3 e4 z4 e5 z5 e6 z6 e7 z7 e8 z8 e9 z9 e10 z10
    have hZ := hst
    have lZ := rowB_lt hZ.box
    go_wp2_with (first
        | (go_at_call 36; refine (drvDev_any ((w.heap.size + 1) + 1) y _ _ _ _ _ _ _ _ _ _ _ _ _ hZ.st).mono ?_; rintro e2 w8 ⟨g, rfl, hr, hg, hb⟩; have k8 := rowB_below hZ.box hb lZ)
        | (refine wpList_storeR rfl 25 _ _ rfl (w.heap.size + 1) rfl #[.slice (some ⟨g, 0, none⟩) 10 10, .slice a m.length cap] rfl (dev2_one _ _ _ _ _ _) 25 #[.slice none 0 0, .slice none 0 0] rfl ?_ agDv ?_; with_reducible exact k8)
  )
    refine bodyPost_ret (resultsRT rfl (w.heap.size + 1) _ rfl (rowB_row k8 _) agDv rfl) rfl ?_
    exact ⟨_, rfl, hZ.fin (s := ⟨k, t, 4, e, n, l, d, r, o, b, m⟩) hr hg hb v vm⟩
  · have q4 : (c == 4) = false := by simpa using h4
    have er : (⟨k, t, c, e, n, l, d, r, o, b, m⟩ : Dr).reg 1 = d := by unfold Dr.reg; simp
    have ev : (⟨k, t, c, e, n, l, d, r, o, b, m⟩ : Dr).read 1 = ⟨k, t, c, e, n, l, d, 0, o, b, m⟩ := by unfold Dr.read; rw [if_neg (by decide), if_pos ⟨rfl, h4⟩]
    rw [er, ev]
    clear er ev
    go_enter Try.func13, Try.ntmps13
    go_upto_region 2 with (go_at_call 35; refine hload.mono ?_; rintro e2 w1 ⟨u, rfl, hu, hb⟩; obtain ⟨a, cap, rfl, _⟩ := isByt_form (own8_byt hu); have hs := hb.size; rw [sW] at hs; replace k1 := rowB_below k1 hb (by omega); have bX := bW.trans (hb.mono (by omega)); clear hb hload)
    obtain ⟨y, hy⟩ : ∃ y, w1.heap.size = y := ⟨_, rfl⟩
    have hst := drvW.start (s := ⟨k, t, c, e, n, l, d, r, o, b, m⟩) (by omega) hu k1 bX hy
    dsimp only [Dr.cs] at hst
    clear hu k1 bX bW k0
    change Code.wp _ _ _ _ (w1.alloc (.cells #[.int .i64 k, .int .i64 t, .int .i64 c, .int .i64 e, .int .i64 n, .int .i64 l, .int .i64 d, .int .i64 r, .int .i64 o, .int .i64 b, .slice a m.length cap] 58))
    rw [hy]
    clear hs sW hy
    generalize w1.alloc (.cells #[.int .i64 k, .int .i64 t, .int .i64 c, .int .i64 e, .int .i64 n, .int .i64 l, .int .i64 d, .int .i64 r, .int .i64 o, .int .i64 b, .slice a m.length cap] 58) = w2 at *
    obtain ⟨⟨e0, e1, e2, e3, e4, e5, e6, e7, e8, e9, e10⟩, ⟨z0, z1, z2, z3, z4, z5, z6, z7, z8, z9, z10⟩⟩ := elCells hst.st.row
    dsimp only at e0 e1 e2 e3 e4 e5 e6 e7 e8 e9 e10
    go_upto_region 14 with (fail)
    clear e0 z0 e1 z1 e2 z2 e3 z3 e4 z4 e5 z5 e6 z6 e7 z7 e8 z8 e9 z9 e10 z10
    have hZ := (drvW.put hst 7 (.int .i64 0) (t := ⟨k, t, c, e, n, l, d, 0, o, b, m⟩) rfl rfl)
    have lZ := rowB_lt hZ.box
    go_wp2_with (first
        | (go_at_call 36; refine (drvDev_any ((w.heap.size + 1) + 1) y _ _ _ _ _ _ _ _ _ _ _ _ _ hZ.st).mono ?_; rintro e2 w8 ⟨g, rfl, hr, hg, hb⟩; have k8 := rowB_below hZ.box hb lZ)
        | (refine wpList_storeR rfl 25 _ _ rfl (w.heap.size + 1) rfl #[.slice (some ⟨g, 0, none⟩) 10 10, .slice a m.length cap] rfl (dev2_one _ _ _ _ _ _) 25 #[.slice none 0 0, .slice none 0 0] rfl ?_ agDv ?_; with_reducible exact k8)
  )
    refine bodyPost_ret (resultsRT rfl (w.heap.size + 1) _ rfl (rowB_row k8 _) agDv rfl) rfl ?_
    exact ⟨_, rfl, hZ.fin (s := ⟨k, t, c, e, n, l, d, 0, o, b, m⟩) hr hg hb v vm⟩
  · have er : (⟨k, t, c, e, n, l, d, r, o, b, m⟩ : Dr).reg 2 = t := by unfold Dr.reg; simp
    have ev : (⟨k, t, c, e, n, l, d, r, o, b, m⟩ : Dr).read 2 = ⟨k, t, c, e, n, l, d, r, o, b, m⟩ := by unfold Dr.read; rw [if_neg (by decide), if_neg (by omega)]
    rw [er, ev]
    clear er ev
    go_enter Try.func13, Try.ntmps13
    go_upto_region 2 with (go_at_call 35; refine hload.mono ?_; rintro e2 w1 ⟨u, rfl, hu, hb⟩; obtain ⟨a, cap, rfl, _⟩ := isByt_form (own8_byt hu); have hs := hb.size; rw [sW] at hs; replace k1 := rowB_below k1 hb (by omega); have bX := bW.trans (hb.mono (by omega)); clear hb hload)
    obtain ⟨y, hy⟩ : ∃ y, w1.heap.size = y := ⟨_, rfl⟩
    have hst := drvW.start (s := ⟨k, t, c, e, n, l, d, r, o, b, m⟩) (by omega) hu k1 bX hy
    dsimp only [Dr.cs] at hst
    clear hu k1 bX bW k0
    change Code.wp _ _ _ _ (w1.alloc (.cells #[.int .i64 k, .int .i64 t, .int .i64 c, .int .i64 e, .int .i64 n, .int .i64 l, .int .i64 d, .int .i64 r, .int .i64 o, .int .i64 b, .slice a m.length cap] 58))
    rw [hy]
    clear hs sW hy
    generalize w1.alloc (.cells #[.int .i64 k, .int .i64 t, .int .i64 c, .int .i64 e, .int .i64 n, .int .i64 l, .int .i64 d, .int .i64 r, .int .i64 o, .int .i64 b, .slice a m.length cap] 58) = w2 at *
    obtain ⟨⟨e0, e1, e2, e3, e4, e5, e6, e7, e8, e9, e10⟩, ⟨z0, z1, z2, z3, z4, z5, z6, z7, z8, z9, z10⟩⟩ := elCells hst.st.row
    dsimp only at e0 e1 e2 e3 e4 e5 e6 e7 e8 e9 e10
    go_upto_region 14 with (fail)
    clear e0 z0 e1 z1 e2 z2 e3 z3 e4 z4 e5 z5 e6 z6 e7 z7 e8 z8 e9 z9 e10 z10
    have hZ := hst
    have lZ := rowB_lt hZ.box
    go_wp2_with (first
        | (go_at_call 36; refine (drvDev_any ((w.heap.size + 1) + 1) y _ _ _ _ _ _ _ _ _ _ _ _ _ hZ.st).mono ?_; rintro e2 w8 ⟨g, rfl, hr, hg, hb⟩; have k8 := rowB_below hZ.box hb lZ)
        | (refine wpList_storeR rfl 25 _ _ rfl (w.heap.size + 1) rfl #[.slice (some ⟨g, 0, none⟩) 10 10, .slice a m.length cap] rfl (dev2_one _ _ _ _ _ _) 25 #[.slice none 0 0, .slice none 0 0] rfl ?_ agDv ?_; with_reducible exact k8)
  )
    refine bodyPost_ret (resultsRT rfl (w.heap.size + 1) _ rfl (rowB_row k8 _) agDv rfl) rfl ?_
    exact ⟨_, rfl, hZ.fin (s := ⟨k, t, c, e, n, l, d, r, o, b, m⟩) hr hg hb v vm⟩
  · have er : (⟨k, t, c, e, n, l, d, r, o, b, m⟩ : Dr).reg 3 = b := by unfold Dr.reg; simp
    have ev : (⟨k, t, c, e, n, l, d, r, o, b, m⟩ : Dr).read 3 = ⟨k, t, c, e, n, l, d, r, o, b, m⟩ := by unfold Dr.read; rw [if_neg (by decide), if_neg (by omega)]
    rw [er, ev]
    clear er ev
    go_enter Try.func13, Try.ntmps13
    go_upto_region 2 with (go_at_call 35; refine hload.mono ?_; rintro e2 w1 ⟨u, rfl, hu, hb⟩; obtain ⟨a, cap, rfl, _⟩ := isByt_form (own8_byt hu); have hs := hb.size; rw [sW] at hs; replace k1 := rowB_below k1 hb (by omega); have bX := bW.trans (hb.mono (by omega)); clear hb hload)
    obtain ⟨y, hy⟩ : ∃ y, w1.heap.size = y := ⟨_, rfl⟩
    have hst := drvW.start (s := ⟨k, t, c, e, n, l, d, r, o, b, m⟩) (by omega) hu k1 bX hy
    dsimp only [Dr.cs] at hst
    clear hu k1 bX bW k0
    change Code.wp _ _ _ _ (w1.alloc (.cells #[.int .i64 k, .int .i64 t, .int .i64 c, .int .i64 e, .int .i64 n, .int .i64 l, .int .i64 d, .int .i64 r, .int .i64 o, .int .i64 b, .slice a m.length cap] 58))
    rw [hy]
    clear hs sW hy
    generalize w1.alloc (.cells #[.int .i64 k, .int .i64 t, .int .i64 c, .int .i64 e, .int .i64 n, .int .i64 l, .int .i64 d, .int .i64 r, .int .i64 o, .int .i64 b, .slice a m.length cap] 58) = w2 at *
    obtain ⟨⟨e0, e1, e2, e3, e4, e5, e6, e7, e8, e9, e10⟩, ⟨z0, z1, z2, z3, z4, z5, z6, z7, z8, z9, z10⟩⟩ := elCells hst.st.row
    dsimp only at e0 e1 e2 e3 e4 e5 e6 e7 e8 e9 e10
    go_upto_region 14 with (fail)
    clear e0 z0 e1 z1 e2 z2 e3 z3 e4 z4 e5 z5 e6 z6 e7 z7 e8 z8 e9 z9 e10 z10
    have hZ := hst
    have lZ := rowB_lt hZ.box
    go_wp2_with (first
        | (go_at_call 36; refine (drvDev_any ((w.heap.size + 1) + 1) y _ _ _ _ _ _ _ _ _ _ _ _ _ hZ.st).mono ?_; rintro e2 w8 ⟨g, rfl, hr, hg, hb⟩; have k8 := rowB_below hZ.box hb lZ)
        | (refine wpList_storeR rfl 25 _ _ rfl (w.heap.size + 1) rfl #[.slice (some ⟨g, 0, none⟩) 10 10, .slice a m.length cap] rfl (dev2_one _ _ _ _ _ _) 25 #[.slice none 0 0, .slice none 0 0] rfl ?_ agDv ?_; with_reducible exact k8)
  )
    refine bodyPost_ret (resultsRT rfl (w.heap.size + 1) _ rfl (rowB_row k8 _) agDv rfl) rfl ?_
    exact ⟨_, rfl, hZ.fin (s := ⟨k, t, c, e, n, l, d, r, o, b, m⟩) hr hg hb v vm⟩
  · have q0 : (x == 0) = false := by simpa using n0
    have q1 : (x == 1) = false := by simpa using n1
    have q2 : (x == 2) = false := by simpa using n2
    have q3 : (x == 3) = false := by simpa using n3
    have er : (⟨k, t, c, e, n, l, d, r, o, b, m⟩ : Dr).reg x = 0 := by unfold Dr.reg; rw [if_neg n0, if_neg n1, if_neg n2, if_neg n3]
    have ev : (⟨k, t, c, e, n, l, d, r, o, b, m⟩ : Dr).read x = ⟨k, t, c, e, n, l, d, r, o, b, m⟩ := by unfold Dr.read; rw [if_neg n0, if_neg (fun h => n1 h.1)]
    rw [er, ev]
    clear er ev n0 n1 n2 n3
    go_enter Try.func13, Try.ntmps13
    go_upto_region 2 with (go_at_call 35; refine hload.mono ?_; rintro e2 w1 ⟨u, rfl, hu, hb⟩; obtain ⟨a, cap, rfl, _⟩ := isByt_form (own8_byt hu); have hs := hb.size; rw [sW] at hs; replace k1 := rowB_below k1 hb (by omega); have bX := bW.trans (hb.mono (by omega)); clear hb hload)
    obtain ⟨y, hy⟩ : ∃ y, w1.heap.size = y := ⟨_, rfl⟩
    have hst := drvW.start (s := ⟨k, t, c, e, n, l, d, r, o, b, m⟩) (by omega) hu k1 bX hy
    dsimp only [Dr.cs] at hst
    clear hu k1 bX bW k0
    change Code.wp _ _ _ _ (w1.alloc (.cells #[.int .i64 k, .int .i64 t, .int .i64 c, .int .i64 e, .int .i64 n, .int .i64 l, .int .i64 d, .int .i64 r, .int .i64 o, .int .i64 b, .slice a m.length cap] 58))
    rw [hy]
    clear hs sW hy
    generalize w1.alloc (.cells #[.int .i64 k, .int .i64 t, .int .i64 c, .int .i64 e, .int .i64 n, .int .i64 l, .int .i64 d, .int .i64 r, .int .i64 o, .int .i64 b, .slice a m.length cap] 58) = w2 at *
    obtain ⟨⟨e0, e1, e2, e3, e4, e5, e6, e7, e8, e9, e10⟩, ⟨z0, z1, z2, z3, z4, z5, z6, z7, z8, z9, z10⟩⟩ := elCells hst.st.row
    dsimp only at e0 e1 e2 e3 e4 e5 e6 e7 e8 e9 e10
    go_upto_region 14 with (fail)
    clear e0 z0 e1 z1 e2 z2 e3 z3 e4 z4 e5 z5 e6 z6 e7 z7 e8 z8 e9 z9 e10 z10
    have hZ := hst
    have lZ := rowB_lt hZ.box
    go_wp2_with (first
        | (go_at_call 36; refine (drvDev_any ((w.heap.size + 1) + 1) y _ _ _ _ _ _ _ _ _ _ _ _ _ hZ.st).mono ?_; rintro e2 w8 ⟨g, rfl, hr, hg, hb⟩; have k8 := rowB_below hZ.box hb lZ)
        | (refine wpList_storeR rfl 25 _ _ rfl (w.heap.size + 1) rfl #[.slice (some ⟨g, 0, none⟩) 10 10, .slice a m.length cap] rfl (dev2_one _ _ _ _ _ _) 25 #[.slice none 0 0, .slice none 0 0] rfl ?_ agDv ?_; with_reducible exact k8)
  )
    refine bodyPost_ret (resultsRT rfl (w.heap.size + 1) _ rfl (rowB_row k8 _) agDv rfl) rfl ?_
    exact ⟨_, rfl, hZ.fin (s := ⟨k, t, c, e, n, l, d, r, o, b, m⟩) hr hg hb v vm⟩
theorem drvRead_any (v vm : Value) (l lb : List Int) (a : Int) (w : World) (h : isArg w v l) (hm : isByt w vm lb) (hbb : ∀ x ∈ lb, 0 ≤ x ∧ x < 256) (hL : lb.length ≤ 140737488351232) :
    Calls Try.prog 13 #[.agg #[v, vm], .int .i64 a] w fun e w' => ∃ u, e = .returned (.tuple #[u, .int .i64 ((Dr.of l lb).reg a)]) ∧ devA w' u ((Dr.of l lb).read a) ∧ Below w.heap.size w w' := by
  refine (drvRead_from v vm l lb a w h hm hbb hL).mono ?_
  rintro e w' ⟨u, e1, e2, e3⟩
  exact ⟨u, e1, e2.toA, e3⟩
end Go.Proofs.Ytmjddoboogccoaa
namespace Go.Proofs.Ytmjddoboogccoaa
open Go.RowKit
set_option maxRecDepth 100000
theorem drGet (x : Int) : lo (x / 2 ^ wd 0) (fz 0 4) = x % 16 ∧ lo (x / 2 ^ wd 4) (fz 4 2) = x % 256 / 16 % 4 := by
  have e1 : wd 0 = 0 := rfl
  have e2 : fz 0 4 = 4 := rfl
  have e3 : wd 4 = 4 := rfl
  have e4 : fz 4 2 = 2 := rfl
  rw [e1, e2, e3, e4]
  unfold lo
  rw [show (2 : Int) ^ 0 = 1 by decide, show (2 : Int) ^ 4 = 16 by decide, show (2 : Int) ^ 2 = 4 by decide]
  omega
set_option maxHeartbeats 1000000 in
theorem drvWrite_from (v vm : Value) (ln lb : List Int) (x : Int) (z : Int) (w : World) (h : isArg w v ln) (hm : isByt w vm lb) (hbb : ∀ x ∈ lb, 0 ≤ x ∧ x < 256) (hL : lb.length ≤ 140737488351232) :
    Calls Try.prog 15 #[.agg #[v, vm], .int .i64 x, .int .i64 z] w fun e' w' => ∃ u, e' = .returned u ∧ devF w.heap.size v vm w' u ((Dr.of ln lb).write x z) ∧ Below w.heap.size w w' := by
  obtain ⟨k0, k1, bW, sW⟩ := boxes2 w (.cells #[v, vm] 25) (.cells #[.slice none 0 0, .slice none 0 0] 25)
  have k0 : rowB _ _ _ _ := k0
  have k1 : rowB _ _ _ _ := k1
  have hload := drvLoad_any v vm ln lb _ (isArg_below h bW (Nat.le_refl _)) (isByt_below hm bW (Nat.le_refl _)) hL
  have hfit := Dr.of_fit ln lb hbb
  have hmB : (Dr.of ln lb).m.length ≤ 140737488351232 := by show (drM lb).length ≤ _; rw [drM_len]; omega
  rw [sW] at hload
  obtain ⟨s, hs⟩ : ∃ s, Dr.of ln lb = s := ⟨_, rfl⟩
  rw [hs] at hload hfit hmB
  rw [hs]
  clear hs h hm hbb hL
  obtain ⟨k, t, c, e, n, l, d, r, o, b, m⟩ := s
  dsimp only [Dr.cs] at hload hmB
  rcases (by omega : x = 0 ∨ (x = 1 ∧ c = 4) ∨ (x = 1 ∧ c ≠ 4) ∨ x = 3 ∨ (x ≠ 0 ∧ x ≠ 1 ∧ x ≠ 3)) with rfl | ⟨rfl, rfl⟩ | ⟨rfl, h4⟩ | rfl | ⟨n0, n1, n3⟩
  · obtain ⟨hg1, hg2⟩ := drGet z
    have hxb : 0 ≤ z % 16 ∧ z % 16 < 16 := by omega
    obtain ⟨T, hT⟩ : ∃ T, (⟨k, t, c, e, n, l, d, r, o, b, m⟩ : Dr).write 0 z = T := ⟨_, rfl⟩
    rw [hT]
    have hT2 : (if c ≠ 0 ∨ z % 16 = 0 ∨ 4 < z % 16 ∨ (2 < z % 16 ∧ k = 0) then (⟨k, t, c, e, n, l, d, r, o, b, m⟩ : Dr) else (⟨k, t, z % 16, z % 256 / 16 % 4, 0, 30, d, oneD (z % 16 == 4), o, b, m⟩ : Dr)) = T := by
      rw [← hT]
      unfold Dr.write
      rw [if_pos rfl]
    clear hT
    obtain ⟨X, hX⟩ : ∃ X, z % 16 = X := ⟨_, rfl⟩
    obtain ⟨Y, hY⟩ : ∃ Y, z % 256 / 16 % 4 = Y := ⟨_, rfl⟩
    rw [hX] at hg1 hxb hT2
    rw [hY] at hg2 hT2
    clear hX hY
    have HT := Lib.hid hT2
    have HG1 := Lib.hid hg1
    have HG2 := Lib.hid hg2
    clear hT2 hg1 hg2
    obtain ⟨K2, T2, C2, E2, N2, L2, D2, R2, O2, B2, M2⟩ := T
    go_enter Try.func15, Try.ntmps15
    go_upto_region 2 with (go_at_call 35; refine hload.mono ?_; rintro e2 w1 ⟨u, rfl, hu, hb⟩; obtain ⟨a, cap, rfl, _⟩ := isByt_form (own8_byt hu); have hs := hb.size; rw [sW] at hs; replace k1 := rowB_below k1 hb (by omega); have bX := bW.trans (hb.mono (by omega)); clear hb hload)
    obtain ⟨y, hy⟩ : ∃ y, w1.heap.size = y := ⟨_, rfl⟩
    have hst := drvW.start (s := ⟨k, t, c, e, n, l, d, r, o, b, m⟩) (by omega) hu k1 bX hy
    dsimp only [Dr.cs] at hst
    clear hu k1 bX bW k0
    change Code.wp _ _ _ _ (w1.alloc (.cells #[.int .i64 k, .int .i64 t, .int .i64 c, .int .i64 e, .int .i64 n, .int .i64 l, .int .i64 d, .int .i64 r, .int .i64 o, .int .i64 b, .slice a m.length cap] 58))
    rw [hy]
    clear hs sW hy
    generalize w1.alloc (.cells #[.int .i64 k, .int .i64 t, .int .i64 c, .int .i64 e, .int .i64 n, .int .i64 l, .int .i64 d, .int .i64 r, .int .i64 o, .int .i64 b, .slice a m.length cap] 58) = w2 at *
    go_upto_region 11 with (first
        | (go_at_call 42; refine (get_any _ _ _ _).mono ?_; rintro e2 w' ⟨rfl, rfl⟩)
        | (rw [HG1.out, HG2.out]; go_at_call 41; refine (drvBegin_any ((w.heap.size + 1) + 1) y _ _ _ _ _ _ _ _ _ _ _ _ X Y _ hst.st hxb).mono ?_; rintro e2 w3 ⟨rfl, h6, hb⟩; rw [HT.out] at h6; replace hst := hst.next h6 hb; clear h6 hb)
  )
    have hZ := hst
    have lZ := rowB_lt hZ.box
    go_wp2_with (first
        | (go_at_call 36; refine (drvDev_any ((w.heap.size + 1) + 1) y _ _ _ _ _ _ _ _ _ _ _ _ _ hZ.st).mono ?_; rintro e2 w8 ⟨g, rfl, hr, hg, hb⟩; have k8 := rowB_below hZ.box hb lZ)
        | (refine wpList_storeR rfl 25 _ _ rfl (w.heap.size + 1) rfl #[.slice (some ⟨g, 0, none⟩) 10 10, .slice a m.length cap] rfl (dev2_one _ _ _ _ _ _) 25 #[.slice none 0 0, .slice none 0 0] rfl ?_ agDv ?_; with_reducible exact k8)
  )
    refine bodyPost_ret (resultsR rfl (w.heap.size + 1) _ rfl (rowB_row k8 _) agDv) rfl ?_
    exact ⟨_, rfl, hZ.fin (s := ⟨K2, T2, C2, E2, N2, L2, D2, R2, O2, B2, M2⟩) hr hg hb v vm⟩
  · obtain ⟨D, hD⟩ : ∃ D, z % 256 = D := ⟨_, rfl⟩
    have hlo : lo z (wd 8) = D := hD
    have ev : (⟨k, t, 4, e, n, l, d, r, o, b, m⟩ : Dr).write 1 z = ⟨k, t, 4, e, n, l, D, 0, o, b, m⟩ := by
      unfold Dr.write
      rw [if_neg (by decide), if_pos rfl, if_pos rfl, hD]
    rw [ev]
    clear ev hD
    go_enter Try.func15, Try.ntmps15
    go_upto_region 2 with (go_at_call 35; refine hload.mono ?_; rintro e2 w1 ⟨u, rfl, hu, hb⟩; obtain ⟨a, cap, rfl, _⟩ := isByt_form (own8_byt hu); have hs := hb.size; rw [sW] at hs; replace k1 := rowB_below k1 hb (by omega); have bX := bW.trans (hb.mono (by omega)); clear hb hload)
    obtain ⟨y, hy⟩ : ∃ y, w1.heap.size = y := ⟨_, rfl⟩
    have hst := drvW.start (s := ⟨k, t, 4, e, n, l, d, r, o, b, m⟩) (by omega) hu k1 bX hy
    dsimp only [Dr.cs] at hst
    clear hu k1 bX bW k0
    change Code.wp _ _ _ _ (w1.alloc (.cells #[.int .i64 k, .int .i64 t, .int .i64 4, .int .i64 e, .int .i64 n, .int .i64 l, .int .i64 d, .int .i64 r, .int .i64 o, .int .i64 b, .slice a m.length cap] 58))
    rw [hy]
    clear hs sW hy
    generalize w1.alloc (.cells #[.int .i64 k, .int .i64 t, .int .i64 4, .int .i64 e, .int .i64 n, .int .i64 l, .int .i64 d, .int .i64 r, .int .i64 o, .int .i64 b, .slice a m.length cap] 58) = w2 at *
    obtain ⟨⟨e0, e1, e2, e3, e4, e5, e6, e7, e8, e9, e10⟩, ⟨z0, z1, z2, z3, z4, z5, z6, z7, z8, z9, z10⟩⟩ := elCells hst.st.row
    dsimp only at e0 e1 e2 e3 e4 e5 e6 e7 e8 e9 e10
    go_upto_region 11 with (go_at_call 43; refine (low_any _ _ _).mono ?_; rintro e2 w' ⟨rfl, rfl⟩; rw [hlo])
    clear e0 z0 e1 z1 e2 z2 e3 z3 e4 z4 e5 z5 e6 z6 e7 z7 e8 z8 e9 z9 e10 z10
    have hZ := (drvW.put (drvW.put hst 6 (.int .i64 D) (t := ⟨k, t, 4, e, n, l, D, r, o, b, m⟩) rfl rfl) 7 (.int .i64 0) (t := ⟨k, t, 4, e, n, l, D, 0, o, b, m⟩) rfl rfl)
    have lZ := rowB_lt hZ.box
    go_wp2_with (first
        | (go_at_call 36; refine (drvDev_any ((w.heap.size + 1) + 1) y _ _ _ _ _ _ _ _ _ _ _ _ _ hZ.st).mono ?_; rintro e2 w8 ⟨g, rfl, hr, hg, hb⟩; have k8 := rowB_below hZ.box hb lZ)
        | (refine wpList_storeR rfl 25 _ _ rfl (w.heap.size + 1) rfl #[.slice (some ⟨g, 0, none⟩) 10 10, .slice a m.length cap] rfl (dev2_one _ _ _ _ _ _) 25 #[.slice none 0 0, .slice none 0 0] rfl ?_ agDv ?_; with_reducible exact k8)
  )
    refine bodyPost_ret (resultsR rfl (w.heap.size + 1) _ rfl (rowB_row k8 _) agDv) rfl ?_
    exact ⟨_, rfl, hZ.fin (s := ⟨k, t, 4, e, n, l, D, 0, o, b, m⟩) hr hg hb v vm⟩
  · obtain ⟨D, hD⟩ : ∃ D, z % 256 = D := ⟨_, rfl⟩
    have hlo : lo z (wd 8) = D := hD
    have q4 : (c == 4) = false := by simpa using h4
    have ev : (⟨k, t, c, e, n, l, d, r, o, b, m⟩ : Dr).write 1 z = ⟨k, t, c, e, n, l, D, r, o, b, m⟩ := by
      unfold Dr.write
      rw [if_neg (by decide), if_pos rfl, if_neg h4, hD]
    rw [ev]
    clear ev hD
    go_enter Try.func15, Try.ntmps15
    go_upto_region 2 with (go_at_call 35; refine hload.mono ?_; rintro e2 w1 ⟨u, rfl, hu, hb⟩; obtain ⟨a, cap, rfl, _⟩ := isByt_form (own8_byt hu); have hs := hb.size; rw [sW] at hs; replace k1 := rowB_below k1 hb (by omega); have bX := bW.trans (hb.mono (by omega)); clear hb hload)
    obtain ⟨y, hy⟩ : ∃ y, w1.heap.size = y := ⟨_, rfl⟩
    have hst := drvW.start (s := ⟨k, t, c, e, n, l, d, r, o, b, m⟩) (by omega) hu k1 bX hy
    dsimp only [Dr.cs] at hst
    clear hu k1 bX bW k0
    change Code.wp _ _ _ _ (w1.alloc (.cells #[.int .i64 k, .int .i64 t, .int .i64 c, .int .i64 e, .int .i64 n, .int .i64 l, .int .i64 d, .int .i64 r, .int .i64 o, .int .i64 b, .slice a m.length cap] 58))
    rw [hy]
    clear hs sW hy
    generalize w1.alloc (.cells #[.int .i64 k, .int .i64 t, .int .i64 c, .int .i64 e, .int .i64 n, .int .i64 l, .int .i64 d, .int .i64 r, .int .i64 o, .int .i64 b, .slice a m.length cap] 58) = w2 at *
    obtain ⟨⟨e0, e1, e2, e3, e4, e5, e6, e7, e8, e9, e10⟩, ⟨z0, z1, z2, z3, z4, z5, z6, z7, z8, z9, z10⟩⟩ := elCells hst.st.row
    dsimp only at e0 e1 e2 e3 e4 e5 e6 e7 e8 e9 e10
    go_upto_region 11 with (go_at_call 43; refine (low_any _ _ _).mono ?_; rintro e2 w' ⟨rfl, rfl⟩; rw [hlo])
    clear e0 z0 e1 z1 e2 z2 e3 z3 e4 z4 e5 z5 e6 z6 e7 z7 e8 z8 e9 z9 e10 z10
    have hZ := (drvW.put hst 6 (.int .i64 D) (t := ⟨k, t, c, e, n, l, D, r, o, b, m⟩) rfl rfl)
    have lZ := rowB_lt hZ.box
    go_wp2_with (first
        | (go_at_call 36; refine (drvDev_any ((w.heap.size + 1) + 1) y _ _ _ _ _ _ _ _ _ _ _ _ _ hZ.st).mono ?_; rintro e2 w8 ⟨g, rfl, hr, hg, hb⟩; have k8 := rowB_below hZ.box hb lZ)
        | (refine wpList_storeR rfl 25 _ _ rfl (w.heap.size + 1) rfl #[.slice (some ⟨g, 0, none⟩) 10 10, .slice a m.length cap] rfl (dev2_one _ _ _ _ _ _) 25 #[.slice none 0 0, .slice none 0 0] rfl ?_ agDv ?_; with_reducible exact k8)
  )
    refine bodyPost_ret (resultsR rfl (w.heap.size + 1) _ rfl (rowB_row k8 _) agDv) rfl ?_
    exact ⟨_, rfl, hZ.fin (s := ⟨k, t, c, e, n, l, D, r, o, b, m⟩) hr hg hb v vm⟩
  · obtain ⟨D, hD⟩ : ∃ D, z % 2 = D := ⟨_, rfl⟩
    have hlo : lo z (wd 1) = D := hD
    have ev : (⟨k, t, c, e, n, l, d, r, o, b, m⟩ : Dr).write 3 z = ⟨k, t, c, e, n, l, d, r, o, D, m⟩ := by
      unfold Dr.write
      rw [if_neg (by decide), if_neg (by decide), if_pos rfl, hD]
    rw [ev]
    clear ev hD
    go_enter Try.func15, Try.ntmps15
    go_upto_region 2 with (go_at_call 35; refine hload.mono ?_; rintro e2 w1 ⟨u, rfl, hu, hb⟩; obtain ⟨a, cap, rfl, _⟩ := isByt_form (own8_byt hu); have hs := hb.size; rw [sW] at hs; replace k1 := rowB_below k1 hb (by omega); have bX := bW.trans (hb.mono (by omega)); clear hb hload)
    obtain ⟨y, hy⟩ : ∃ y, w1.heap.size = y := ⟨_, rfl⟩
    have hst := drvW.start (s := ⟨k, t, c, e, n, l, d, r, o, b, m⟩) (by omega) hu k1 bX hy
    dsimp only [Dr.cs] at hst
    clear hu k1 bX bW k0
    change Code.wp _ _ _ _ (w1.alloc (.cells #[.int .i64 k, .int .i64 t, .int .i64 c, .int .i64 e, .int .i64 n, .int .i64 l, .int .i64 d, .int .i64 r, .int .i64 o, .int .i64 b, .slice a m.length cap] 58))
    rw [hy]
    clear hs sW hy
    generalize w1.alloc (.cells #[.int .i64 k, .int .i64 t, .int .i64 c, .int .i64 e, .int .i64 n, .int .i64 l, .int .i64 d, .int .i64 r, .int .i64 o, .int .i64 b, .slice a m.length cap] 58) = w2 at *
    obtain ⟨⟨e0, e1, e2, e3, e4, e5, e6, e7, e8, e9, e10⟩, ⟨z0, z1, z2, z3, z4, z5, z6, z7, z8, z9, z10⟩⟩ := elCells hst.st.row
    dsimp only at e0 e1 e2 e3 e4 e5 e6 e7 e8 e9 e10
    go_upto_region 11 with (go_at_call 43; refine (low_any _ _ _).mono ?_; rintro e2 w' ⟨rfl, rfl⟩; rw [hlo])
    clear e0 z0 e1 z1 e2 z2 e3 z3 e4 z4 e5 z5 e6 z6 e7 z7 e8 z8 e9 z9 e10 z10
    have hZ := (drvW.put hst 9 (.int .i64 D) (t := ⟨k, t, c, e, n, l, d, r, o, D, m⟩) rfl rfl)
    have lZ := rowB_lt hZ.box
    go_wp2_with (first
        | (go_at_call 36; refine (drvDev_any ((w.heap.size + 1) + 1) y _ _ _ _ _ _ _ _ _ _ _ _ _ hZ.st).mono ?_; rintro e2 w8 ⟨g, rfl, hr, hg, hb⟩; have k8 := rowB_below hZ.box hb lZ)
        | (refine wpList_storeR rfl 25 _ _ rfl (w.heap.size + 1) rfl #[.slice (some ⟨g, 0, none⟩) 10 10, .slice a m.length cap] rfl (dev2_one _ _ _ _ _ _) 25 #[.slice none 0 0, .slice none 0 0] rfl ?_ agDv ?_; with_reducible exact k8)
  )
    refine bodyPost_ret (resultsR rfl (w.heap.size + 1) _ rfl (rowB_row k8 _) agDv) rfl ?_
    exact ⟨_, rfl, hZ.fin (s := ⟨k, t, c, e, n, l, d, r, o, D, m⟩) hr hg hb v vm⟩
  · have q0 : (x == 0) = false := by simpa using n0
    have q1 : (x == 1) = false := by simpa using n1
    have q3 : (x == 3) = false := by simpa using n3
    have ev : (⟨k, t, c, e, n, l, d, r, o, b, m⟩ : Dr).write x z = ⟨k, t, c, e, n, l, d, r, o, b, m⟩ := by
      unfold Dr.write
      rw [if_neg n0, if_neg n1, if_neg n3]
    rw [ev]
    clear ev n0 n1 n3
    go_enter Try.func15, Try.ntmps15
    go_upto_region 2 with (go_at_call 35; refine hload.mono ?_; rintro e2 w1 ⟨u, rfl, hu, hb⟩; obtain ⟨a, cap, rfl, _⟩ := isByt_form (own8_byt hu); have hs := hb.size; rw [sW] at hs; replace k1 := rowB_below k1 hb (by omega); have bX := bW.trans (hb.mono (by omega)); clear hb hload)
    obtain ⟨y, hy⟩ : ∃ y, w1.heap.size = y := ⟨_, rfl⟩
    have hst := drvW.start (s := ⟨k, t, c, e, n, l, d, r, o, b, m⟩) (by omega) hu k1 bX hy
    dsimp only [Dr.cs] at hst
    clear hu k1 bX bW k0
    change Code.wp _ _ _ _ (w1.alloc (.cells #[.int .i64 k, .int .i64 t, .int .i64 c, .int .i64 e, .int .i64 n, .int .i64 l, .int .i64 d, .int .i64 r, .int .i64 o, .int .i64 b, .slice a m.length cap] 58))
    rw [hy]
    clear hs sW hy
    generalize w1.alloc (.cells #[.int .i64 k, .int .i64 t, .int .i64 c, .int .i64 e, .int .i64 n, .int .i64 l, .int .i64 d, .int .i64 r, .int .i64 o, .int .i64 b, .slice a m.length cap] 58) = w2 at *
    obtain ⟨⟨e0, e1, e2, e3, e4, e5, e6, e7, e8, e9, e10⟩, ⟨z0, z1, z2, z3, z4, z5, z6, z7, z8, z9, z10⟩⟩ := elCells hst.st.row
    dsimp only at e0 e1 e2 e3 e4 e5 e6 e7 e8 e9 e10
    go_upto_region 11 with (fail)
    clear e0 z0 e1 z1 e2 z2 e3 z3 e4 z4 e5 z5 e6 z6 e7 z7 e8 z8 e9 z9 e10 z10
    have hZ := hst
    have lZ := rowB_lt hZ.box
    go_wp2_with (first
        | (go_at_call 36; refine (drvDev_any ((w.heap.size + 1) + 1) y _ _ _ _ _ _ _ _ _ _ _ _ _ hZ.st).mono ?_; rintro e2 w8 ⟨g, rfl, hr, hg, hb⟩; have k8 := rowB_below hZ.box hb lZ)
        | (refine wpList_storeR rfl 25 _ _ rfl (w.heap.size + 1) rfl #[.slice (some ⟨g, 0, none⟩) 10 10, .slice a m.length cap] rfl (dev2_one _ _ _ _ _ _) 25 #[.slice none 0 0, .slice none 0 0] rfl ?_ agDv ?_; with_reducible exact k8)
  )
    refine bodyPost_ret (resultsR rfl (w.heap.size + 1) _ rfl (rowB_row k8 _) agDv) rfl ?_
    exact ⟨_, rfl, hZ.fin (s := ⟨k, t, c, e, n, l, d, r, o, b, m⟩) hr hg hb v vm⟩
theorem drvWrite_any (v vm : Value) (l lb : List Int) (a x : Int) (w : World) (h : isArg w v l) (hm : isByt w vm lb) (hbb : ∀ x ∈ lb, 0 ≤ x ∧ x < 256) (hL : lb.length ≤ 140737488351232) :
    Calls Try.prog 15 #[.agg #[v, vm], .int .i64 a, .int .i64 x] w fun e w' => ∃ u, e = .returned u ∧ devA w' u ((Dr.of l lb).write a x) ∧ Below w.heap.size w w' := by
  refine (drvWrite_from v vm l lb a x w h hm hbb hL).mono ?_
  rintro e w' ⟨u, e1, e2, e3⟩
  exact ⟨u, e1, e2.toA, e3⟩
set_option maxHeartbeats 1000000 in
theorem drvSkip_from (v vm : Value) (ln lb : List Int) (j : Int) (w : World) (h : isArg w v ln) (hm : isByt w vm lb) (hbb : ∀ x ∈ lb, 0 ≤ x ∧ x < 256) (hL : lb.length ≤ 140737488351232) (hj : -9223372036854775808 ≤ j ∧ j ≤ 9223372036854775807) :
    Calls Try.prog 28 #[.agg #[v, vm], .int .i64 j] w fun e' w' => ∃ u, e' = .returned u ∧ devF w.heap.size v vm w' u ((Dr.of ln lb).ticks j.toNat) ∧ Below w.heap.size w w' := by
  obtain ⟨k0, k1, bW, sW⟩ := boxes2 w (.cells #[v, vm] 25) (.cells #[.slice none 0 0, .slice none 0 0] 25)
  have k0 : rowB _ _ _ _ := k0
  have k1 : rowB _ _ _ _ := k1
  have hload := drvLoad_any v vm ln lb _ (isArg_below h bW (Nat.le_refl _)) (isByt_below hm bW (Nat.le_refl _)) hL
  have hfit := Dr.of_fit ln lb hbb
  have hmB : (Dr.of ln lb).m.length ≤ 140737488351232 := by show (drM lb).length ≤ _; rw [drM_len]; omega
  rw [sW] at hload
  obtain ⟨s, hs⟩ : ∃ s, Dr.of ln lb = s := ⟨_, rfl⟩
  rw [hs] at hload hfit hmB
  rw [hs]
  clear hs h hm hbb hL
  obtain ⟨k, t, c, e, n, l, d, r, o, b, m⟩ := s
  dsimp only [Dr.cs] at hload hmB
  obtain ⟨T, hT⟩ : ∃ T, (⟨k, t, c, e, n, l, d, r, o, b, m⟩ : Dr).ticks j.toNat = T := ⟨_, rfl⟩
  rw [hT]
  go_enter Try.func28, Try.ntmps28
  go_upto_region 2 with (go_at_call 35; refine hload.mono ?_; rintro e2 w1 ⟨u, rfl, hu, hb⟩; obtain ⟨a, cap, rfl, _⟩ := isByt_form (own8_byt hu); have hs := hb.size; rw [sW] at hs; replace k1 := rowB_below k1 hb (by omega); have bX := bW.trans (hb.mono (by omega)); clear hb hload)
  obtain ⟨y, hy⟩ : ∃ y, w1.heap.size = y := ⟨_, rfl⟩
  have hst := drvW.start (s := ⟨k, t, c, e, n, l, d, r, o, b, m⟩) (by omega) hu k1 bX hy
  dsimp only [Dr.cs] at hst
  clear hu k1 bX bW k0
  change Code.wp _ _ _ _ (w1.alloc (.cells #[.int .i64 k, .int .i64 t, .int .i64 c, .int .i64 e, .int .i64 n, .int .i64 l, .int .i64 d, .int .i64 r, .int .i64 o, .int .i64 b, .slice a m.length cap] 58))
  rw [hy]
  clear hs sW hy
  generalize w1.alloc (.cells #[.int .i64 k, .int .i64 t, .int .i64 c, .int .i64 e, .int .i64 n, .int .i64 l, .int .i64 d, .int .i64 r, .int .i64 o, .int .i64 b, .slice a m.length cap] 58) = w2 at *
  go_loopw [1] (fun i wr => ∃ (q : Int) (s : Dr), i = .int .i64 q ∧ (-9223372036854775808 ≤ q ∧ q ≤ 9223372036854775807) ∧ drvW w (w.heap.size + 1) wr y s (.slice a m.length cap) ∧ s.fit ∧ s.ticks q.toNat = T) (fun i _ => (intOf i).toNat)
  case atStart => exact ⟨j, _, rfl, hj, hst, hfit, hT⟩
  case round =>
    clear hst hfit hT
    obtain ⟨q, ⟨k2, t2, c2, g2, n2, l2, d2, r2, o2, b2, m2⟩, rfl, hq, hst, hfit, hT⟩ := hrel
    obtain ⟨⟨e0, e1, e2, e3, e4, e5, e6, e7, e8, e9, e10⟩, ⟨z0, z1, z2, z3, z4, z5, z6, z7, z8, z9, z10⟩⟩ := elCells hst.st.row
    dsimp only at e0 e1 e2 e3 e4 e5 e6 e7 e8 e9 e10
    have hcb := hfit.c
    have hlb := hfit.l
    dsimp only at hcb hlb
    rcases (by omega : q ≤ 0 ∨ (0 < q ∧ c2 = 0) ∨ (0 < q ∧ c2 ≠ 0)) with h1 | ⟨h1, rfl⟩ | ⟨h1, h2⟩
    · have hd : decide (0 < q) = false := decide_eq_false (by omega)
      rw [show q.toNat = 0 by omega] at hT
      replace hT : (⟨k2, t2, c2, g2, n2, l2, d2, r2, o2, b2, m2⟩ : Dr) = T := hT
      go_upto_region 10 with (fail)
      clear e0 z0 e1 z1 e2 z2 e3 z3 e4 z4 e5 z5 e6 z6 e7 z7 e8 z8 e9 z9 e10 z10
      subst hT
      have hZ := hst
      have lZ := rowB_lt hZ.box
      go_wp2_with (first
          | (go_at_call 36; refine (drvDev_any ((w.heap.size + 1) + 1) y _ _ _ _ _ _ _ _ _ _ _ _ _ hZ.st).mono ?_; rintro e2 w8 ⟨g, rfl, hr, hg, hb⟩; have k8 := rowB_below hZ.box hb lZ)
          | (refine wpList_storeR rfl 25 _ _ rfl (w.heap.size + 1) rfl #[.slice (some ⟨g, 0, none⟩) 10 10, .slice a m.length cap] rfl (dev2_one _ _ _ _ _ _) 25 #[.slice none 0 0, .slice none 0 0] rfl ?_ agDv ?_; with_reducible exact k8)
      )
      refine bodyPost_ret (resultsR rfl (w.heap.size + 1) _ rfl (rowB_row k8 _) agDv) rfl ?_
      exact ⟨_, rfl, hZ.fin (s := ⟨k2, t2, c2, g2, n2, l2, d2, r2, o2, b2, m2⟩) hr hg hb v vm⟩
    · have hd : decide (0 < q) = true := decide_eq_true (by omega)
      rw [Dr.ticks_idle _ rfl] at hT
      go_upto_region 10 with (fail)
      clear e0 z0 e1 z1 e2 z2 e3 z3 e4 z4 e5 z5 e6 z6 e7 z7 e8 z8 e9 z9 e10 z10
      subst hT
      have hZ := hst
      have lZ := rowB_lt hZ.box
      go_wp2_with (first
          | (go_at_call 36; refine (drvDev_any ((w.heap.size + 1) + 1) y _ _ _ _ _ _ _ _ _ _ _ _ _ hZ.st).mono ?_; rintro e2 w8 ⟨g, rfl, hr, hg, hb⟩; have k8 := rowB_below hZ.box hb lZ)
          | (refine wpList_storeR rfl 25 _ _ rfl (w.heap.size + 1) rfl #[.slice (some ⟨g, 0, none⟩) 10 10, .slice a m.length cap] rfl (dev2_one _ _ _ _ _ _) 25 #[.slice none 0 0, .slice none 0 0] rfl ?_ agDv ?_; with_reducible exact k8)
      )
      refine bodyPost_ret (resultsR rfl (w.heap.size + 1) _ rfl (rowB_row k8 _) agDv) rfl ?_
      exact ⟨_, rfl, hZ.fin (s := ⟨k2, t2, 0, g2, n2, l2, d2, r2, o2, b2, m2⟩) hr hg hb v vm⟩
    · have hd : decide (0 < q) = true := decide_eq_true h1
      have qc : (c2 == 0) = false := by simpa using h2
      obtain ⟨F, hF⟩ : ∃ F, max 1 l2 = F := ⟨_, rfl⟩
      have hFb : 1 ≤ F ∧ F ≤ 63 := by omega
      have hw : wrap64 (q - F) = q - F := IntWalk.wrap64_in _ (by omega)
      by_cases h3 : k2 = 0 ∧ (c2 = 3 ∨ c2 = 4)
      · have hl : decide (k2 = 0 ∧ (c2 = 3 ∨ c2 = 4)) = true := decide_eq_true h3
        go_wp2_with (first
              | (refine wpList_max2 rfl _ _ _ rfl .i64 1 l2 rfl rfl ?_; rw [hF])
              | (go_at_call 52; refine (drvLacks_any y _ _ _ e0).mono ?_; rintro e2' w2 ⟨rfl, rfl⟩; rw [hl])
        )
        go_roundw
        case rel => exact ⟨q - F, _, rfl, by omega, (drvW.put hst 2 (.int .i64 0) (t := ⟨k2, t2, 0, g2, n2, l2, d2, r2, o2, b2, m2⟩) rfl rfl), Dr.c0_fit hfit, (Dr.skip_lacks (⟨k2, t2, c2, g2, n2, l2, d2, r2, o2, b2, m2⟩ : Dr) h2 (by dsimp only; omega) q.toNat (by omega) (q - F).toNat).symm.trans hT⟩
        case measure => simp [intOf]; omega
      · have hl : decide (k2 = 0 ∧ (c2 = 3 ∨ c2 = 4)) = false := decide_eq_false h3
        have hn : ¬ (2 < c2 ∧ k2 = 0) := by omega
        by_cases h4 : q < F
        · have hd2 : decide (q < F) = true := decide_eq_true h4
          have hw2 : wrap64 (l2 - q) = l2 - q := IntWalk.wrap64_in _ (by omega)
          go_wp2_with (first
                | (refine wpList_max2 rfl _ _ _ rfl .i64 1 l2 rfl rfl ?_; rw [hF])
                | (go_at_call 52; refine (drvLacks_any y _ _ _ e0).mono ?_; rintro e2' w2 ⟨rfl, rfl⟩; rw [hl])
          )
          go_roundw
          case rel => exact ⟨q - F, _, rfl, by omega, (drvW.put hst 5 (.int .i64 (l2 - q)) (t := ⟨k2, t2, c2, g2, n2, l2 - q, d2, r2, o2, b2, m2⟩) rfl rfl), Dr.few_fit hfit q h1 (by dsimp only; omega), by
              rw [show (q - F).toNat = 0 by omega]
              exact (Dr.skip_few (⟨k2, t2, c2, g2, n2, l2, d2, r2, o2, b2, m2⟩ : Dr) h2 hn q h1 (by dsimp only; omega)).symm.trans hT⟩
          case measure => simp [intOf]; omega
        · have hd2 : decide (q < F) = false := decide_eq_false h4
          go_wp2_with (first
                | (refine wpList_max2 rfl _ _ _ rfl .i64 1 l2 rfl rfl ?_; rw [hF])
                | (go_at_call 52; refine (drvLacks_any y _ _ _ e0).mono ?_; rintro e2' w2 ⟨rfl, rfl⟩; rw [hl])
                | (go_at_call 53; refine (drvAct_any ((w.heap.size + 1) + 1) y _ _ _ _ _ _ _ _ _ _ _ _ _ hst.st hfit (by omega) hn).mono ?_; rintro e2' w6 ⟨rfl, h6, hb⟩)
          )
          go_roundw
          case rel =>
            have h7 : (⟨k2, t2, c2, g2, n2, l2, d2, r2, o2, b2, m2⟩ : Dr).ticks q.toNat = (⟨k2, t2, c2, g2, n2, l2, d2, r2, o2, b2, m2⟩ : Dr).act.ticks (q - F).toNat := by
              rw [← hF]
              exact Dr.skip_act (⟨k2, t2, c2, g2, n2, l2, d2, r2, o2, b2, m2⟩ : Dr) h2 hn q (by dsimp only; omega)
            exact ⟨q - F, _, rfl, by omega, hst.next h6 hb, Dr.act_fit hfit, h7.symm.trans hT⟩
          case measure => simp [intOf]; omega
end Go.Proofs.Ytmjddoboogccoaa
namespace Go.Proofs.Ytmjddoboogccoaa
open Go.RowKit
set_option maxRecDepth 100000
theorem drvSkip_any (v vm : Value) (l lb : List Int) (k : Int) (w : World) (h : isArg w v l) (hm : isByt w vm lb) (hbb : ∀ x ∈ lb, 0 ≤ x ∧ x < 256) (hL : lb.length ≤ 140737488351232) (hk : -9223372036854775808 ≤ k ∧ k ≤ 9223372036854775807) :
    Calls Try.prog 28 #[.agg #[v, vm], .int .i64 k] w fun e w' => ∃ u, e = .returned u ∧ devA w' u ((Dr.of l lb).ticks k.toNat) ∧ Below w.heap.size w w' := by
  refine (drvSkip_from v vm l lb k w h hm hbb hL hk).mono ?_
  rintro e w' ⟨u, e1, e2, e3⟩
  exact ⟨u, e1, e2.toA, e3⟩
theorem drvTick_any (v vm : Value) (l lb : List Int) (w : World) (h : isArg w v l) (hm : isByt w vm lb) (hbb : ∀ x ∈ lb, 0 ≤ x ∧ x < 256) (hL : lb.length ≤ 140737488351232) :
    Calls Try.prog 27 #[.agg #[v, vm]] w fun e w' => ∃ u, e = .returned u ∧ devA w' u (Dr.of l lb).tick ∧ Below w.heap.size w w' := by
  obtain ⟨k0, k1, bW, sW⟩ := boxes2 w (.cells #[v, vm] 25) (.cells #[.slice none 0 0, .slice none 0 0] 25)
  have k1 : rowB _ _ _ _ := k1
  have hSk := drvSkip_any v vm l lb 1 _ (isArg_below h bW (Nat.le_refl _)) (isByt_below hm bW (Nat.le_refl _)) hbb hL (by omega)
  replace hSk : Calls _ _ _ _ fun e w' => ∃ u, e = .returned u ∧ devA w' u (Dr.of l lb).tick ∧ Below _ _ w' := hSk
  generalize (Dr.of l lb).tick = T at *
  clear h hm hbb hL
  go_enter Try.func27, Try.ntmps27
  go_wp2_with (first
    | (go_at_call 28; refine hSk.mono ?_; rintro e w3 ⟨u, rfl, hx, hb⟩; obtain ⟨a3, c3, b3, d3, rfl, p3, q3⟩ := hx.open; have r2 := rowB_below k1 hb (rowB_lt k1); have bX := bW.trans (hb.mono bW.size))
    | (refine wpList_storeR rfl 25 _ _ rfl (w.heap.size + 1) rfl #[.slice a3 10 c3, .slice b3 T.m.length d3] rfl (dev2_one _ _ _ _ _ _) 25 #[.slice none 0 0, .slice none 0 0] rfl ?_ agDv ?_; with_reducible exact r2))
  refine bodyPost_ret (resultsR rfl (w.heap.size + 1) _ rfl (rowB_row r2 _) agDv) rfl ?_
  exact ⟨_, rfl, ⟨_, _, rfl, isArg_box r2 (fun n h => by cases h) (fun n h => by cases h) p3 _, isByt_box r2 (fun n h => by cases h) (fun n h => by cases h) q3 _⟩, below_rowR bX _ (by omega)⟩
theorem drvOut_any (v vm : Value) (ln lb : List Int) (w : World) (h : isArg w v ln) (hm : isByt w vm lb) (hbb : ∀ x ∈ lb, 0 ≤ x ∧ x < 256) (hL : lb.length ≤ 140737488351232) :
    Calls Try.prog 21 #[.agg #[v, vm]] w fun e' w' => e' = .returned (.int .i64 (Dr.of ln lb).t) ∧ Below w.heap.size w w' := by
  obtain ⟨k0, bW, sW⟩ := boxes1 w (.cells #[v, vm] 25)
  have hlook := drvLook_any v vm ln lb _ (isArg_below h bW (Nat.le_refl _)) (isByt_below hm bW (Nat.le_refl _)) hL
  have hfit := Dr.of_fit ln lb hbb
  have hm2 : drM lb = (Dr.of ln lb).m := rfl
  rw [hm2] at hlook
  obtain ⟨s, hs⟩ : ∃ s, Dr.of ln lb = s := ⟨_, rfl⟩
  rw [hs] at hlook hfit
  rw [hs]
  clear hs h hm hbb hL hm2 k0
  obtain ⟨k, t, c, e, n, l, d, r, o, b, m⟩ := s
  dsimp only [Dr.cs] at hlook
  go_enter Try.func21, Try.ntmps21
  go_upto_region 2 with (go_at_call 47; refine hlook.mono ?_; rintro e2 w1 ⟨u, rfl, hu, hb⟩; obtain ⟨a, cap, rfl, _⟩ := isByt_form hu; have bX := bW.trans (hb.mono bW.size); have hs := hb.size; rw [sW] at hs; clear hb hlook hu)
  have nP := rowB_new w1 58 #[.int .i64 k, .int .i64 t, .int .i64 c, .int .i64 e, .int .i64 n, .int .i64 l, .int .i64 d, .int .i64 r, .int .i64 o, .int .i64 b, .slice a m.length cap]
  replace bX := bX.alloc (by omega) (.cells #[.int .i64 k, .int .i64 t, .int .i64 c, .int .i64 e, .int .i64 n, .int .i64 l, .int .i64 d, .int .i64 r, .int .i64 o, .int .i64 b, .slice a m.length cap] 58)
  change Code.wp _ _ _ _ (w1.alloc (.cells #[.int .i64 k, .int .i64 t, .int .i64 c, .int .i64 e, .int .i64 n, .int .i64 l, .int .i64 d, .int .i64 r, .int .i64 o, .int .i64 b, .slice a m.length cap] 58))
  generalize w1.alloc (.cells #[.int .i64 k, .int .i64 t, .int .i64 c, .int .i64 e, .int .i64 n, .int .i64 l, .int .i64 d, .int .i64 r, .int .i64 o, .int .i64 b, .slice a m.length cap] 58) = w2 at *
  generalize w1.heap.size = y at *
  obtain ⟨⟨e0, e1, e2, e3, e4, e5, e6, e7, e8, e9, e10⟩, _⟩ := elCells nP
  go_wp2_with fail
  go_ret
  exact ⟨rfl, bX⟩
theorem drvIrq_any (v vm : Value) (ln lb : List Int) (w : World) (h : isArg w v ln) (hm : isByt w vm lb) (hbb : ∀ x ∈ lb, 0 ≤ x ∧ x < 256) (hL : lb.length ≤ 140737488351232) :
    Calls Try.prog 19 #[.agg #[v, vm]] w fun e' w' => e' = .returned (.bool (Dr.of ln lb).irq) ∧ Below w.heap.size w w' := by
  obtain ⟨k0, bW, sW⟩ := boxes1 w (.cells #[v, vm] 25)
  have hlook := drvLook_any v vm ln lb _ (isArg_below h bW (Nat.le_refl _)) (isByt_below hm bW (Nat.le_refl _)) hL
  have hfit := Dr.of_fit ln lb hbb
  have hm2 : drM lb = (Dr.of ln lb).m := rfl
  rw [hm2] at hlook
  obtain ⟨s, hs⟩ : ∃ s, Dr.of ln lb = s := ⟨_, rfl⟩
  rw [hs] at hlook hfit
  rw [hs]
  clear hs h hm hbb hL hm2 k0
  obtain ⟨k, t, c, e, n, l, d, r, o, b, m⟩ := s
  dsimp only [Dr.cs] at hlook
  by_cases h1 : b = 1
  · subst h1
    have ev : (⟨k, t, c, e, n, l, d, r, o, 1, m⟩ : Dr).irq = (r == 1) := by unfold Dr.irq; dsimp only; by_cases h : r = 1 <;> simp [h]
    rw [ev]
    go_enter Try.func19, Try.ntmps19
    go_upto_region 2 with (go_at_call 47; refine hlook.mono ?_; rintro e2 w1 ⟨u, rfl, hu, hb⟩; obtain ⟨a, cap, rfl, _⟩ := isByt_form hu; have bX := bW.trans (hb.mono bW.size); have hs := hb.size; rw [sW] at hs; clear hb hlook hu)
    have nP := rowB_new w1 58 #[.int .i64 k, .int .i64 t, .int .i64 c, .int .i64 e, .int .i64 n, .int .i64 l, .int .i64 d, .int .i64 r, .int .i64 o, .int .i64 1, .slice a m.length cap]
    replace bX := bX.alloc (by omega) (.cells #[.int .i64 k, .int .i64 t, .int .i64 c, .int .i64 e, .int .i64 n, .int .i64 l, .int .i64 d, .int .i64 r, .int .i64 o, .int .i64 1, .slice a m.length cap] 58)
    change Code.wp _ _ _ _ (w1.alloc (.cells #[.int .i64 k, .int .i64 t, .int .i64 c, .int .i64 e, .int .i64 n, .int .i64 l, .int .i64 d, .int .i64 r, .int .i64 o, .int .i64 1, .slice a m.length cap] 58))
    generalize w1.alloc (.cells #[.int .i64 k, .int .i64 t, .int .i64 c, .int .i64 e, .int .i64 n, .int .i64 l, .int .i64 d, .int .i64 r, .int .i64 o, .int .i64 1, .slice a m.length cap] 58) = w2 at *
    generalize w1.heap.size = y at *
    obtain ⟨⟨e0, e1, e2, e3, e4, e5, e6, e7, e8, e9, e10⟩, _⟩ := elCells nP
    go_wp2_with fail
    go_ret
    exact ⟨rfl, bX⟩
  · have q1 : (b == 1) = false := by simpa using h1
    have ev : (⟨k, t, c, e, n, l, d, r, o, b, m⟩ : Dr).irq = false := by unfold Dr.irq; dsimp only; rw [decide_eq_false h1]; rfl
    rw [ev]
    go_enter Try.func19, Try.ntmps19
    go_upto_region 2 with (go_at_call 47; refine hlook.mono ?_; rintro e2 w1 ⟨u, rfl, hu, hb⟩; obtain ⟨a, cap, rfl, _⟩ := isByt_form hu; have bX := bW.trans (hb.mono bW.size); have hs := hb.size; rw [sW] at hs; clear hb hlook hu)
    have nP := rowB_new w1 58 #[.int .i64 k, .int .i64 t, .int .i64 c, .int .i64 e, .int .i64 n, .int .i64 l, .int .i64 d, .int .i64 r, .int .i64 o, .int .i64 b, .slice a m.length cap]
    replace bX := bX.alloc (by omega) (.cells #[.int .i64 k, .int .i64 t, .int .i64 c, .int .i64 e, .int .i64 n, .int .i64 l, .int .i64 d, .int .i64 r, .int .i64 o, .int .i64 b, .slice a m.length cap] 58)
    change Code.wp _ _ _ _ (w1.alloc (.cells #[.int .i64 k, .int .i64 t, .int .i64 c, .int .i64 e, .int .i64 n, .int .i64 l, .int .i64 d, .int .i64 r, .int .i64 o, .int .i64 b, .slice a m.length cap] 58))
    generalize w1.alloc (.cells #[.int .i64 k, .int .i64 t, .int .i64 c, .int .i64 e, .int .i64 n, .int .i64 l, .int .i64 d, .int .i64 r, .int .i64 o, .int .i64 b, .slice a m.length cap] 58) = w2 at *
    generalize w1.heap.size = y at *
    obtain ⟨⟨e0, e1, e2, e3, e4, e5, e6, e7, e8, e9, e10⟩, _⟩ := elCells nP
    go_wp2_with fail
    go_ret
    exact ⟨rfl, bX⟩
theorem drvNext_any (v vm : Value) (ln lb : List Int) (w : World) (h : isArg w v ln) (hm : isByt w vm lb) (hbb : ∀ x ∈ lb, 0 ≤ x ∧ x < 256) (hL : lb.length ≤ 140737488351232) :
    Calls Try.prog 23 #[.agg #[v, vm]] w fun e' w' => e' = .returned (.int .i64 (Dr.of ln lb).next) ∧ Below w.heap.size w w' := by
  obtain ⟨k0, bW, sW⟩ := boxes1 w (.cells #[v, vm] 25)
  have hlook := drvLook_any v vm ln lb _ (isArg_below h bW (Nat.le_refl _)) (isByt_below hm bW (Nat.le_refl _)) hL
  have hfit := Dr.of_fit ln lb hbb
  have hm2 : drM lb = (Dr.of ln lb).m := rfl
  rw [hm2] at hlook
  obtain ⟨s, hs⟩ : ∃ s, Dr.of ln lb = s := ⟨_, rfl⟩
  rw [hs] at hlook hfit
  rw [hs]
  clear hs h hm hbb hL hm2 k0
  obtain ⟨k, t, c, e, n, l, d, r, o, b, m⟩ := s
  dsimp only [Dr.cs] at hlook
  have hcb := hfit.c
  have hlb := hfit.l
  dsimp only at hcb hlb
  clear hfit
  by_cases h1 : c = 0
  · subst h1
    have ev : (⟨k, t, 0, e, n, l, d, r, o, b, m⟩ : Dr).next = 100000 := rfl
    rw [ev]
    go_enter Try.func23, Try.ntmps23
    go_upto_region 2 with (go_at_call 47; refine hlook.mono ?_; rintro e2 w1 ⟨u, rfl, hu, hb⟩; obtain ⟨a, cap, rfl, _⟩ := isByt_form hu; have bX := bW.trans (hb.mono bW.size); have hs := hb.size; rw [sW] at hs; clear hb hlook hu)
    have nP := rowB_new w1 58 #[.int .i64 k, .int .i64 t, .int .i64 0, .int .i64 e, .int .i64 n, .int .i64 l, .int .i64 d, .int .i64 r, .int .i64 o, .int .i64 b, .slice a m.length cap]
    replace bX := bX.alloc (by omega) (.cells #[.int .i64 k, .int .i64 t, .int .i64 0, .int .i64 e, .int .i64 n, .int .i64 l, .int .i64 d, .int .i64 r, .int .i64 o, .int .i64 b, .slice a m.length cap] 58)
    change Code.wp _ _ _ _ (w1.alloc (.cells #[.int .i64 k, .int .i64 t, .int .i64 0, .int .i64 e, .int .i64 n, .int .i64 l, .int .i64 d, .int .i64 r, .int .i64 o, .int .i64 b, .slice a m.length cap] 58))
    generalize w1.alloc (.cells #[.int .i64 k, .int .i64 t, .int .i64 0, .int .i64 e, .int .i64 n, .int .i64 l, .int .i64 d, .int .i64 r, .int .i64 o, .int .i64 b, .slice a m.length cap] 58) = w2 at *
    generalize w1.heap.size = y at *
    obtain ⟨⟨e0, e1, e2, e3, e4, e5, e6, e7, e8, e9, e10⟩, _⟩ := elCells nP
    go_wp2_with fail
    go_ret
    exact ⟨rfl, bX⟩
  · have q1 : (c == 0) = false := by simpa using h1
    obtain ⟨F, hF⟩ : ∃ F, max 1 l = F := ⟨_, rfl⟩
    have hw : wrap64 (F - 1) = F - 1 := IntWalk.wrap64_in _ (by omega)
    have ev : (⟨k, t, c, e, n, l, d, r, o, b, m⟩ : Dr).next = F - 1 := by unfold Dr.next; rw [if_pos (show 0 < c by omega)]; dsimp only; split <;> omega
    rw [ev]
    go_enter Try.func23, Try.ntmps23
    go_upto_region 2 with (go_at_call 47; refine hlook.mono ?_; rintro e2 w1 ⟨u, rfl, hu, hb⟩; obtain ⟨a, cap, rfl, _⟩ := isByt_form hu; have bX := bW.trans (hb.mono bW.size); have hs := hb.size; rw [sW] at hs; clear hb hlook hu)
    have nP := rowB_new w1 58 #[.int .i64 k, .int .i64 t, .int .i64 c, .int .i64 e, .int .i64 n, .int .i64 l, .int .i64 d, .int .i64 r, .int .i64 o, .int .i64 b, .slice a m.length cap]
    replace bX := bX.alloc (by omega) (.cells #[.int .i64 k, .int .i64 t, .int .i64 c, .int .i64 e, .int .i64 n, .int .i64 l, .int .i64 d, .int .i64 r, .int .i64 o, .int .i64 b, .slice a m.length cap] 58)
    change Code.wp _ _ _ _ (w1.alloc (.cells #[.int .i64 k, .int .i64 t, .int .i64 c, .int .i64 e, .int .i64 n, .int .i64 l, .int .i64 d, .int .i64 r, .int .i64 o, .int .i64 b, .slice a m.length cap] 58))
    generalize w1.alloc (.cells #[.int .i64 k, .int .i64 t, .int .i64 c, .int .i64 e, .int .i64 n, .int .i64 l, .int .i64 d, .int .i64 r, .int .i64 o, .int .i64 b, .slice a m.length cap] 58) = w2 at *
    generalize w1.heap.size = y at *
    obtain ⟨⟨e0, e1, e2, e3, e4, e5, e6, e7, e8, e9, e10⟩, _⟩ := elCells nP
    go_wp2_with (refine wpList_max2 rfl _ _ _ rfl .i64 1 l rfl rfl ?_; rw [hF])
    go_ret
    exact ⟨rfl, bX⟩
end Go.Proofs.Ytmjddoboogccoaa
