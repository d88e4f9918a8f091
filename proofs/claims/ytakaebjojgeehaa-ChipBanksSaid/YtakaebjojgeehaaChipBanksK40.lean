/- A part of the proof of ChipBanks: DrvCb. -/
import Derived.Test.YtakaebjojgeehaaChipBanksK01
import Derived.Test.YtakaebjojgeehaaChipBanksK02
import Derived.Test.YtakaebjojgeehaaChipBanksK03
import Derived.Test.YtakaebjojgeehaaChipBanksK04
import Derived.Test.YtakaebjojgeehaaChipBanksK05
import Derived.Test.YtakaebjojgeehaaChipBanksK06
import Derived.Test.YtakaebjojgeehaaChipBanksK07
import Derived.Test.YtakaebjojgeehaaChipBanksK08
import Derived.Test.YtakaebjojgeehaaChipBanksK09
import Derived.Test.YtakaebjojgeehaaChipBanksK15
import Derived.Test.YtakaebjojgeehaaChipBanksK17
import Derived.Test.YtakaebjojgeehaaChipBanksK19
import Derived.Test.YtakaebjojgeehaaChipBanksK20
import Derived.Test.YtakaebjojgeehaaChipBanksK21
import Derived.Test.YtakaebjojgeehaaChipBanksK22
import Derived.Test.YtakaebjojgeehaaChipBanksK23
import Derived.Test.YtakaebjojgeehaaChipBanksK24
import Derived.Test.YtakaebjojgeehaaChipBanksK36
import Derived.Test.YtakaebjojgeehaaChipBanksK37
import Derived.Test.YtakaebjojgeehaaChipBanksK38
import Derived.Test.YtakaebjojgeehaaChipBanksK39
import Derived.Below
import Derived.BigQuiet
import Derived.ChangeMaps5
import Derived.Deep.AppendSrc
import Derived.Deep.DeepAppendWide
import Derived.Deep.DeepCutAuto
import Derived.Deep.Draws
import Derived.Deep.MidRow
import Derived.Deep.OwnRows
import Derived.Deep.QuietTactic
import Derived.Deep.RegionHeld3
import Derived.Deep.RegionWith
import Derived.Deep.Slices
import Derived.Deep.WholeRow
import Derived.Laws.CopyOwn
import Derived.Laws.OwnMore
import Derived.Lib.Hide
import Derived.Lib.SmallJoins
import Derived.Maps.AppendAt
import Derived.OpenShut
import Derived.OrdersHeld
import Derived.OwnWalk
import Derived.RowKit3
import Derived.StillTactics
import Derived.StillTail
import Derived.StillTailTactics
import Derived.Test.YtakaebjojgeehaaChecked
import Derived.WalkKit
namespace Go.Proofs.Ytakaebjojgeehaa
open Go.RowKit
set_option maxRecDepth 100000
theorem own8_box {B g : Nat} {w : World} {v : Value} {l : List Int} (h : own8 B w v l) (hg : ∀ b, v.ownBlock = some b → b ≠ g) (c : Array Value) : own8 B (w.setRow g c) v l := by
  have hgr : w.grownBy (w.setRow g c) (some g) := ⟨rfl, rfl, rfl, by simp [World.setRow], fun k _ hk => setRow_other w g k _ (fun e => hk (by simp [e]))⟩
  refine World.ownsRow.kept h hgr ?_
  cases e : v.ownBlock with
  | none => exact .inl rfl
  | some b => exact .inr (fun he => hg b e (by cases he; rfl))
theorem own8_put {B g : Nat} {w : World} {v : Value} {l : List Int} (h : own8 B w v l) (hg : ∀ b, v.ownBlock = some b → b ≠ g) (i : Nat) (x : Value) : own8 B (w.setCell ⟨g, i, none⟩ x) v l := by
  refine World.ownsRow.kept h (setCell_grown w _ x) ?_
  cases e : v.ownBlock with
  | none => exact .inl rfl
  | some b => exact .inr (fun he => hg b e (by cases he; rfl))
set_option maxHeartbeats 2000000 in
theorem drvLoad_any (v vm : Value) (ln lb : List Int) (w : World) (h : isArg w v ln) (hm : isByt w vm lb) (hL : lb.length ≤ 140737488351232) :
    Calls Try.prog 62 #[.agg #[v, vm]] w fun e w' => ∃ u, e = .returned (.agg ((Dr.of ln lb).cs u)) ∧ own8 w.heap.size w' u (Dr.of ln lb).m ∧ Below w.heap.size w w' := by
  obtain ⟨k0, k1, bW, sW⟩ := boxes2 w (.cells #[v, vm] 34) (.cells #[.int .i64 0, .int .i64 0, .int .i64 0, .int .i64 0, .int .i64 0, .int .i64 0, .int .i64 0, .int .i64 0, .int .i64 0, .int .i64 0, .slice none 0 0] 75)
  have k0 : rowB _ _ _ _ := k0
  have k1 : rowB _ _ _ _ := k1
  have hlook := drvLook_any v vm ln lb _ (isArg_below h bW (Nat.le_refl _)) (isByt_below hm bW (Nat.le_refl _)) hL
  have hmB : (drM lb).length ≤ 140737488351232 := by rw [drM_len]; omega
  obtain ⟨s, hs⟩ : ∃ s, Dr.of ln lb = s := ⟨_, rfl⟩
  have hsm : drM lb = s.m := by rw [← hs]; rfl
  rw [hs] at hlook
  rw [hs]
  rw [hsm] at hmB hlook
  clear hsm hs
  obtain ⟨k, t, c, e, n, l, d, r, o, b, m⟩ := s
  dsimp only [Dr.cs] at *
  obtain ⟨ii, i1, i2, i3, i4⟩ := infoBt
  have HII := Lib.hid i1
  clear h hm hL
  go_enter Try.func62, Try.ntmps62
  go_upto_region 2 with (first
      | (go_at_call 85; refine hlook.mono ?_; rintro e2 w2 ⟨u, rfl, hu, hb⟩; replace k1 := rowB_below k1 hb (rowB_lt k1); replace bW := bW.trans (hb.mono bW.size); have hs := hb.size; rw [sW] at hs; clear hb hlook; obtain ⟨a, cap, rfl, _⟩ := isByt_form hu)
)
  have nP := rowB_new w2 75 #[.int .i64 k, .int .i64 t, .int .i64 c, .int .i64 e, .int .i64 n, .int .i64 l, .int .i64 d, .int .i64 r, .int .i64 o, .int .i64 b, .slice a m.length cap]
  replace k1 := rowB_alloc k1 (.cells #[.int .i64 k, .int .i64 t, .int .i64 c, .int .i64 e, .int .i64 n, .int .i64 l, .int .i64 d, .int .i64 r, .int .i64 o, .int .i64 b, .slice a m.length cap] 75)
  replace hu := isByt_below hu ((Below.refl w2.heap.size w2).alloc (Nat.le_refl _) (.cells #[.int .i64 k, .int .i64 t, .int .i64 c, .int .i64 e, .int .i64 n, .int .i64 l, .int .i64 d, .int .i64 r, .int .i64 o, .int .i64 b, .slice a m.length cap] 75)) (Nat.le_refl _)
  replace bW := bW.alloc (by omega) (.cells #[.int .i64 k, .int .i64 t, .int .i64 c, .int .i64 e, .int .i64 n, .int .i64 l, .int .i64 d, .int .i64 r, .int .i64 o, .int .i64 b, .slice a m.length cap] 75)
  have hlt := rowB_lt nP
  generalize w2.alloc (.cells #[.int .i64 k, .int .i64 t, .int .i64 c, .int .i64 e, .int .i64 n, .int .i64 l, .int .i64 d, .int .i64 r, .int .i64 o, .int .i64 b, .slice a m.length cap] 75) = w3 at *
  obtain ⟨y, hy⟩ : ∃ y, w2.heap.size = y := ⟨_, rfl⟩
  rw [hy] at nP hs hlt
  rw [hy]
  clear hy
  have hown := ownArr_made 1 isU8 w3.heap.size 5 w3 (Nat.le_refl _)
  replace nP := rowB_alloc nP (.cells #[] 5)
  replace k1 := rowB_alloc k1 (.cells #[] 5)
  replace hu := byt_arr (isByt_below hu ((Below.refl w3.heap.size w3).alloc (Nat.le_refl _) (.cells #[] 5)) (Nat.le_refl _))
  replace bW := bW.alloc (by omega) (.cells #[] 5)
  have sz4 : w3.heap.size ≤ (w3.alloc (.cells #[] 5)).heap.size := by simp
  have hone : ∀ (cs : List Value) (x : Int), isU8 cs x → ∀ q ∈ cs, q.oneCell' = true := fun cs x h q hq => by
    unfold isU8 at h
    subst h
    rw [List.mem_singleton.1 hq]
    rfl
  have hc1 : ([] : List Int).length + m.length ≤ maxLen := by simp only [List.length_nil, maxLen]; omega
  have hc2 : (([] : List Int).length + m.length + (([] : List Int).length + m.length) / 4 + 192) * 1 ≤ 281474976710656 := by simp only [List.length_nil]; omega
  have HON := Lib.hid hone
  have HC1 := Lib.hid hc1
  have HC2 := Lib.hid hc2
  clear hone hc1 hc2 HII
  obtain ⟨q0, q1, q2, q3, q4, q5, q6, q7, q8, q9, q10⟩ := (elCells nP).1
  go_upto_region 3 with (at_builtin; refine wpList_append_arr2 rfl _ _ 22 rfl 5 1 1 ii (.int .u8 0) Try.underlying22 i1 i2 i3 i4 rfl (by decide) HON.out w3.heap.size _ _ rfl rfl [] m hown hu HC1.out HC2.out sz4 ?_; intro v5 w5 ho5 hg5; have hB5 := own_grown hown hg5 sz4; rw [List.nil_append] at ho5; replace ho5 := own8_of ho5; obtain ⟨a5, cap5, rfl, _⟩ := isByt_form (own8_byt ho5); replace nP := rowB_below nP hB5 hlt; replace k1 := rowB_below k1 hB5 (by omega); replace bW := bW.trans (hB5.mono (by omega)); clear hg5 hB5 hown hu q0 q1 q2 q3 q4 q5 q6 q7 q8 q9 q10; obtain ⟨⟨q0, q1, q2, q3, q4, q5, q6, q7, q8, q9, q10⟩, ⟨p0, p1, p2, p3, p4, p5, p6, p7, p8, p9, p10⟩⟩ := elCells nP)
  have hne : ∀ z, (Value.slice a5 m.length cap5).ownBlock = some z → z ≠ y := fun z hz => by have := (own8_lt ho5 z hz).1; omega
  have hne1 : ∀ z, (Value.slice a5 m.length cap5).ownBlock = some z → z ≠ w.heap.size + 1 := fun z hz => by have := (own8_lt ho5 z hz).1; omega
  replace ho5 := own8_put ho5 hne 10 (.slice a5 m.length cap5)
  replace nP : rowB _ y 75 #[.int .i64 k, .int .i64 t, .int .i64 c, .int .i64 e, .int .i64 n, .int .i64 l, .int .i64 d, .int .i64 r, .int .i64 o, .int .i64 b, .slice a5 m.length cap5] := rowB_set nP 10 (.slice a5 m.length cap5)
  replace k1 := rowB_other k1 ⟨y, 10, none⟩ (.slice a5 m.length cap5) (show y ≠ w.heap.size + 1 by omega)
  replace bW := Below.setCell bW (p := ⟨y, 10, none⟩) (show w.heap.size ≤ y by omega) (.slice a5 m.length cap5)
  clear q0 q1 q2 q3 q4 q5 q6 q7 q8 q9 q10 p0 p1 p2 p3 p4 p5 p6 p7 p8 p9 p10
  change Code.wp _ _ _ _ (w5.setCell ⟨y, 10, none⟩ (.slice a5 m.length cap5))
  generalize w5.setCell ⟨y, 10, none⟩ (.slice a5 m.length cap5) = w6 at *
  go_wp2_with (first
    | (refine wpList_loadR rfl 75 _ rfl y rfl 75 #[.int .i64 k, .int .i64 t, .int .i64 c, .int .i64 e, .int .i64 n, .int .i64 l, .int .i64 d, .int .i64 r, .int .i64 o, .int .i64 b, .slice a5 m.length cap5] ?_ agDr ?_; with_reducible exact nP)
    | (refine wpList_storeR rfl 75 _ _ rfl (w.heap.size + 1) rfl #[.int .i64 k, .int .i64 t, .int .i64 c, .int .i64 e, .int .i64 n, .int .i64 l, .int .i64 d, .int .i64 r, .int .i64 o, .int .i64 b, .slice a5 m.length cap5] rfl (Dr.one rfl) 75 #[.int .i64 0, .int .i64 0, .int .i64 0, .int .i64 0, .int .i64 0, .int .i64 0, .int .i64 0, .int .i64 0, .int .i64 0, .int .i64 0, .slice none 0 0] rfl ?_ agDr ?_; with_reducible exact k1))
  refine bodyPost_ret (resultsR rfl (w.heap.size + 1) _ rfl (rowB_row k1 _) agDr) rfl ?_
  exact ⟨_, rfl, own8_box (own8_mono ho5 (by omega)) hne1 _, below_rowR bW _ (by omega)⟩
end Go.Proofs.Ytakaebjojgeehaa
