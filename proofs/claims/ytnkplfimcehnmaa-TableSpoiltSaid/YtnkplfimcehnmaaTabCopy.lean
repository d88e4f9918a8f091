/- The contract of package table's Copy. -/
import Derived.Test.YtnkplfimcehnmaaTabClone
import Derived.Deep.RegionLaw
import Derived.Deep.AppendLies
namespace Go.Proofs.Ytnkplfimcehnmaa
open Go.RowKit

/-- The slice of steps lies in a block from lo on (or is empty). -/
def fresh4 (lo : Nat) (v : Value) (l : List St) : Prop := l = [] ∨ ∃ b off n cap, v = .slice (some ⟨b, off, none⟩) n cap ∧ lo ≤ b
def cycleF (lo : Nat) (w : World) (cs : List Value) (c : Cy) : Prop := ∃ v, cs = [.int .i64 c.bus, .int .i64 c.place, .int .i64 c.reg, v] ∧ isArr 4 stepR w v c.steps ∧ fresh4 lo v c.steps
/-- A slice of cycles that lies, with all its steps, in blocks from lo on. -/
def freshArr (lo : Nat) (w : World) (v : Value) (l : List Cy) : Prop := isArr 4 (cycleF lo) w v l ∧ (l = [] ∨ ∃ b off n cap, v = .slice (some ⟨b, off, none⟩) n cap ∧ lo ≤ b)
theorem fresh4_of {R : List Value → St → Prop} {B lo : Nat} {w : World} {v : Value} {l : List St} {e : TypeId} (h : ownArr 4 R B e w v l) (hh : lo ≤ B) : fresh4 lo v l := by
  obtain ⟨f, _, hown, _⟩ := h
  rcases hown.2 with ⟨rfl, hn⟩ | ⟨g', cap, cur, rfl, hB, _, _, _, _, _⟩
  · exact .inl (List.eq_nil_of_length_eq_zero hn)
  · exact .inr ⟨g', 0, _, cap, rfl, by omega⟩
theorem freshArr_isArr {lo : Nat} {w : World} {v : Value} {l : List Cy} (h : freshArr lo w v l) : isArr 4 cycleR w v l := by
  rcases h.1 with h | ⟨b, off, cap, rfl, h1, h2, h3, h4⟩
  · exact .inl h
  · refine .inr ⟨b, off, cap, rfl, h1, h2, h3, fun i x hx => ?_⟩
    obtain ⟨cs, c1, c2, u, c3, c4, _⟩ := h4 i x hx
    exact ⟨cs, c1, c2, u, c3, c4⟩
theorem freshArr_nil (lo : Nat) (w : World) (a : Option Addr) (cap : Nat) : freshArr lo w (.slice a 0 cap) [] := ⟨.inl ⟨_, _, rfl, rfl⟩, .inl rfl⟩
theorem freshArr_mono {lo lo' : Nat} {w : World} {v : Value} {l : List Cy} (h : freshArr lo w v l) (hl : lo' ≤ lo) : freshArr lo' w v l := by
  refine ⟨?_, ?_⟩
  · rcases h.1 with h | ⟨b, off, cap, rfl, h1, h2, h3, h4⟩
    · exact .inl h
    · refine .inr ⟨b, off, cap, rfl, h1, h2, h3, fun i x hx => ?_⟩
      obtain ⟨cs, c1, c2, u, c3, c4, c5⟩ := h4 i x hx
      refine ⟨cs, c1, c2, u, c3, c4, ?_⟩
      rcases c5 with e | ⟨b', off', n', cap', e, hb⟩
      · exact .inl e
      · exact .inr ⟨b', off', n', cap', e, by omega⟩
  · rcases h.2 with e | ⟨b', off', n', cap', e, hb⟩
    · exact .inl e
    · exact .inr ⟨b', off', n', cap', e, by omega⟩
theorem steps_far {w : World} {v : Value} {l : List St} {lo q : Nat} (h : isArr 4 stepR w v l) (ha : fresh4 lo v l) (hq : q < lo) (j : Nat) (x : Value) : isArr 4 stepR (w.setCell ⟨q, j, none⟩ x) v l := by
  rcases h with h | ⟨b, off, cap, rfl, h1, h2, h3, h4⟩
  · exact .inl h
  · rcases ha with rfl | ⟨b', off', n', cap', e, hlo⟩
    · exact .inl ⟨_, _, rfl, rfl⟩
    · cases e
      refine .inr ⟨b, off, cap, rfl, by simpa using h1, h2, h3, fun i y hy => ?_⟩
      obtain ⟨cs, c1, c2, c3⟩ := h4 i y hy
      refine ⟨cs, c1, fun k hk => ?_, c3⟩
      rw [World.cell?_setCell_far _ _ _ _ (by show q ≠ b; omega)]
      exact c2 k hk
theorem freshArr_set {lo : Nat} {w : World} {v : Value} {l : List Cy} (h : freshArr lo w v l) {q : Nat} (hq : q < lo) (j : Nat) (x : Value) : freshArr lo (w.setCell ⟨q, j, none⟩ x) v l := by
  refine ⟨?_, h.2⟩
  rcases h.1 with h1 | ⟨b, off, cap, rfl, h1, h2, h3, h4⟩
  · exact .inl h1
  · rcases h.2 with rfl | ⟨b', off', n', cap', e, hlo⟩
    · exact .inl ⟨_, _, rfl, rfl⟩
    · cases e
      refine .inr ⟨b, off, cap, rfl, by simpa using h1, h2, h3, fun i y hy => ?_⟩
      obtain ⟨cs, c1, c2, u, c3, c4, c5⟩ := h4 i y hy
      refine ⟨cs, c1, fun k hk => ?_, u, c3, steps_far c4 c5 hq _ _, c5⟩
      rw [World.cell?_setCell_far _ _ _ _ (by show q ≠ b; omega)]
      exact c2 k hk
theorem cycleF_keeps (lo : Nat) : keeps (cycleF lo) := fun _ _ _ hb hB _ _ ⟨v, h, g, f⟩ => ⟨v, h, isArr_below step_keeps g hb hB, f⟩
theorem freshArr_below {lo : Nat} {w w' : World} {v : Value} {l : List Cy} (h : freshArr lo w v l) {B : Nat} (hb : Below B w w') (hB : w.heap.size ≤ B) : freshArr lo w' v l := ⟨isArr_below (cycleF_keeps lo) h.1 hb hB, h.2⟩
/-- The first k of the cycles in block g have steps in blocks from lo on. -/
def doneF (wr : World) (lo g : Nat) (l : List Cy) (k : Nat) : Prop := ∀ i c, i < k → l[i]? = some c → ∃ v, wr.cell? ⟨g, i * 4 + 3, none⟩ = some v ∧ fresh4 lo v c.steps
theorem copyArr_fresh {w : World} {lo hi g cap : Nat} {l : List Cy} (h : copyArr w lo hi g l) (hd : doneF w lo g l l.length) (h1 : l.length ≤ cap) (h2 : cap ≤ 9223372036854775807) (hg : lo ≤ g) : freshArr lo w (.slice (some ⟨g, 0, none⟩) l.length cap) l := by
  have hlt := copyArr_lt h
  obtain ⟨_, h3⟩ := h
  refine ⟨.inr ⟨g, 0, cap, rfl, hlt, h1, h2, fun i x hx => ?_⟩, .inr ⟨g, 0, _, cap, rfl, hg⟩⟩
  obtain ⟨v, ⟨k0, k1, k2, k3⟩, h4, _⟩ := h3 i x hx
  obtain ⟨v', k3', h5⟩ := hd i x (List.getElem?_eq_some_iff.1 hx).1 hx
  rw [k3] at k3'
  cases k3'
  refine ⟨[.int .i64 x.bus, .int .i64 x.place, .int .i64 x.reg, v], rfl, fun j hj => ?_, v, rfl, h4, h5⟩
  rw [Nat.zero_add]
  match j, hj with
  | 0, _ => exact k0
  | 1, _ => exact k1
  | 2, _ => exact k2
  | 3, _ => exact k3
theorem doneF_out {w : World} {lo g k q : Nat} {l : List Cy} (h : doneF w lo g l k) (hq : q ≠ g) (j : Nat) (x : Value) : doneF (w.setCell ⟨q, j, none⟩ x) lo g l k := fun i c hi hc => by
  obtain ⟨v, h1, h2⟩ := h i c hi hc
  exact ⟨v, by rw [World.cell?_setCell_far _ _ _ _ (by show q ≠ g; exact hq)]; exact h1, h2⟩

/-- What holds between two rounds of Copy. -/
def copyAt (w wr : World) (op : Int) (name : ByteArray) (mode : Int) (u : Value) (l : List Cy) (k : Nat) : Prop :=
  wr.heap[w.heap.size]? = some (.cells #[.int .i64 op, .string name, .int .i64 mode, u] 34 (0, 0)) ∧
  wr.heap[w.heap.size + 1]? = some (.cells #[.int .i64 0, .string ⟨#[]⟩, .int .i64 0, .slice none 0 0] 34 (0, 0)) ∧ Below w.heap.size w wr ∧
  ((u = .slice none 0 0 ∧ l = []) ∨ ∃ g cap, u = .slice (some ⟨g, 0, none⟩) l.length cap ∧ l.length ≤ cap ∧ cap ≤ 9223372036854775807 ∧ w.heap.size + 2 ≤ g ∧ copyArr wr w.heap.size (w.heap.size + 2) g l ∧ doneF wr w.heap.size g l k)

theorem held_copy {wo w' : World} {p q : Addr} {v u : Value} (h1 : wo.cell? p = some v) (h2 : wo.cell? q = some u) (h3 : wo.frozen? q = false) (hb : Below wo.heap.size wo w') :
    w'.cell? p = some v ∧ w'.cell? q = some u ∧ w'.frozen? q = false ∧ Below wo.heap.size wo w' := by
  have f : ∀ {p : Addr} {v : Value}, wo.cell? p = some v → w'.cell? p = some v := fun {p v} h => by
    rw [hb.cell (p := p) (cell_block h).1]; exact h
  refine ⟨f h1, f h2, ?_, hb⟩
  have hk := hb.block q.block (cell_block h2).1
  simpa [World.frozen?, hk] using h3
theorem pick4 {a b c : Prop} {w0 wp : World} (h : a ∧ b ∧ c ∧ Below w0.heap.size w0 wp) : Below w0.heap.size w0 wp := h.2.2.2

theorem frozenB {w : World} {b : Nat} {c : Array Value} {t : TypeId} (h : w.heap[b]? = some (.cells c t (0, 0))) (i : Nat) : w.frozen? ⟨b, i, none⟩ = false := by simp [World.frozen?, h]

theorem copy_round {w wo w5 : World} {op : Int} {name : ByteArray} {mode : Int} {g cap k B : Nat} {l : List Cy} {c : Cy} {v : Value} {e : TypeId}
    (hbx : wo.heap[w.heap.size]? = some (.cells #[.int .i64 op, .string name, .int .i64 mode, .slice (some ⟨g, 0, none⟩) l.length cap] 34 (0, 0)))
    (hbr : wo.heap[w.heap.size + 1]? = some (.cells #[.int .i64 0, .string ⟨#[]⟩, .int .i64 0, .slice none 0 0] 34 (0, 0))) (hbel : Below w.heap.size w wo)
    (hcp : copyArr wo w.heap.size (w.heap.size + 2) g l) (hx : l[k]? = some c) (hcap : l.length ≤ cap) (hcap2 : cap ≤ 9223372036854775807) (hg : w.heap.size + 2 ≤ g)
    (hb5 : Below wo.heap.size wo w5) (hu5 : ownArr 4 (stepR wo) B e w5 v c.steps) (hB : wo.heap.size ≤ B) (hd : doneF wo w.heap.size g l k) :
    copyAt w (w5.setCell ⟨g, k * 4 + 3, none⟩ v) op name mode (.slice (some ⟨g, 0, none⟩) l.length cap) l (k + 1) := by
  have hlt := copyArr_lt hcp
  refine ⟨?_, ?_, (hbel.trans (hb5.mono hbel.size)).setCell (by show w.heap.size ≤ g; omega) _, .inr ⟨g, cap, rfl, hcap, hcap2, hg, ?_, ?_⟩⟩
  · rw [Below.heap_setCell w5 ⟨g, k * 4 + 3, none⟩ v _ (by show w.heap.size ≠ g; omega)]; exact keep_below hbx hb5 (Nat.le_refl _)
  · rw [Below.heap_setCell w5 ⟨g, k * 4 + 3, none⟩ v _ (by show w.heap.size + 1 ≠ g; omega)]; exact keep_below hbr hb5 (Nat.le_refl _)
  · exact copyArr_set (copyArr_below hcp hb5 (Nat.le_refl _)) hx (ownArr_isArr hu5) (apart_of hu5 (by omega) (by omega))
  · intro i y hi hy
    by_cases e : i = k
    · subst e
      rw [hx] at hy
      cases hy
      obtain ⟨u, ⟨_, _, _, k3⟩, _, _⟩ := (copyArr_below hcp hb5 (Nat.le_refl _)).2 i c hx
      exact ⟨v, World.cell?_setCell_same _ _ _ k3, fresh4_of hu5 (Nat.le_trans hbel.size hB)⟩
    · obtain ⟨u, h1, h2⟩ := hd i y (by omega) hy
      refine ⟨u, ?_, h2⟩
      rw [World.cell?_setCell_other _ _ _ _ (by intro e'; injection e' with _ e2 _; omega), hb5.cell (p := ⟨g, i * 4 + 3, none⟩) hlt]
      exact h1

set_option maxRecDepth 100000 in
set_option maxHeartbeats 4000000 in
theorem copy_any (x : In) (v : Value) (w : World) (h : isArr 4 cycleR w v x.cycles) (hl : x.cycles.length * 48 ≤ 140737488355328) (hs : ∀ c ∈ x.cycles, c.steps.length * 32 ≤ 140737488355328) :
    Calls Try.prog 25 #[.agg #[.int .i64 x.op, .string x.name, .int .i64 x.mode, v]] w fun e w' =>
      ∃ u, e = .returned (.agg #[.int .i64 x.op, .string x.name, .int .i64 x.mode, u]) ∧ freshArr w.heap.size w' u x.cycles ∧ Below w.heap.size w w' := by
  obtain ⟨op, name, mode, l⟩ := x
  dsimp only at h hl hs ⊢
  obtain ⟨w0, hw0⟩ : ∃ w0, w0 = (w.alloc (.cells #[.int .i64 op, .string name, .int .i64 mode, v] 34)).alloc (.cells #[.int .i64 0, .string ⟨#[]⟩, .int .i64 0, .slice none 0 0] 34) := ⟨_, rfl⟩
  have hA : Below w.heap.size w w0 := by rw [hw0]; exact below_two _ _ _
  have hz0 : w0.heap.size = w.heap.size + 2 := by rw [hw0]; simp
  have kA : w0.heap[w.heap.size]? = some (.cells #[.int .i64 op, .string name, .int .i64 mode, v] 34 (0, 0)) := by rw [hw0]; exact box_alloc (heap_alloc_new w _)
  have kB : w0.heap[w.heap.size + 1]? = some (.cells #[.int .i64 0, .string ⟨#[]⟩, .int .i64 0, .slice none 0 0] 34 (0, 0)) := by
    rw [hw0]
    have := heap_alloc_new (w.alloc (.cells #[.int .i64 op, .string name, .int .i64 mode, v] 34)) (.cells #[.int .i64 0, .string ⟨#[]⟩, .int .i64 0, .slice none 0 0] 34)
    rw [World.size_alloc] at this
    exact this
  have hcy : isArr 4 (fun _ => cycleR w) w0 v l := isArr_fix h hA (Nat.le_refl _)
  have HW := Lib.hid hw0
  have KA := Lib.hid kA
  have KB := Lib.hid kB
  obtain ⟨sa, scap, rfl, _, _⟩ := isArr_form h
  clear h hw0 kA kB
  go_enter Try.func25, Try.ntmps25
  go_wp2_with (go_at_call 51; rw [← HW.out]; refine (clone_cycles cycle_one _ l _ hcy hl).mono ?_; rintro e w1 ⟨u, rfl, hu, hb1⟩; have k1 := keep_below KA.out hb1 (Nat.le_refl _); have f1 := frozenB k1 3; obtain ⟨d0, d1, d2, d3⟩ := cells4 k1; obtain ⟨ua, ucap, hue, _, _⟩ := isArr_form (ownArr_isArr hu); subst hue)
  have hB1 := hA.trans (hb1.mono hA.size)
  have k2 := keep_below KB.out hb1 (Nat.le_refl _)
  have hown : copyAt w (w1.setCell ⟨w.heap.size, 3, none⟩ (.slice ua l.length ucap)) op name mode (.slice ua l.length ucap) l 0 := by
    refine ⟨?_, ?_, hB1.setCell (Nat.le_refl _) _, ?_⟩
    · show (w1.setCell ⟨w.heap.size, 3, none⟩ _).heap[w.heap.size]? = _
      unfold World.setCell
      rw [Array.getElem?_modify, if_pos rfl, k1]
      rfl
    · rw [Below.heap_setCell w1 ⟨w.heap.size, 3, none⟩ _ (w.heap.size + 1) (by show w.heap.size + 1 ≠ w.heap.size; omega)]
      exact k2
    · rcases copyArr_of hu hB1 (by omega) with ⟨h1, h2⟩ | ⟨g, cap, h1, h2, h3, h4, h5⟩
      · exact .inl ⟨h1, h2⟩
      · rw [hz0] at h4 h5
        exact .inr ⟨g, cap, h1, h2, h3, h4, copyArr_out h5 h4 (Nat.le_refl _) (by omega) _ _, fun i c hi _ => absurd hi (Nat.not_lt_zero _)⟩
  have HO := Lib.hid hown
  clear hown hu hcy k1 k2 hB1
  go_loopw [11] (fun i wr => ∃ k : Nat, k ≤ l.length ∧ i = .int .i64 k ∧ copyAt w wr op name mode (.slice ua l.length ucap) l k) (fun i _ => l.length - (intOf i).toNat)
  case atStart => exact ⟨0, Nat.zero_le _, rfl, HO.out⟩
  case round =>
    clear HO
    obtain ⟨k, hk, rfl, hbx, hbr, hbel, hcp⟩ := hrel
    obtain ⟨wo, rfl⟩ : ∃ wo, wo = wr := ⟨_, rfl⟩
    have hsz := hbel.size
    obtain ⟨b0, b1, b2, b3⟩ := cells4 hbx
    by_cases hlt : k < l.length
    · rcases hcp with ⟨_, rfl⟩ | ⟨g, cap, hue, hcap, hcap2, hg, hcp, hdn⟩
      · exact absurd hlt (Nat.not_lt_zero _)
      cases hue
      obtain ⟨c, hx, _⟩ := drop_at hlt
      obtain ⟨v, ⟨c0, c1, c2, c3⟩, hst, hap⟩ := hcp.2 k c hx
      have hsl := hs c (List.mem_of_getElem? hx)
      have hfz := copyArr_frozen hcp (k * 4 + 3)
      have HCP := Lib.hid hcp
      have HX := Lib.hid hx
      have HDN := Lib.hid hdn
      have HST := Lib.hid hst
      have HBX := Lib.hid hbx
      have HBR := Lib.hid hbr
      have HK := Lib.hid (fun (w' : World) (hb : Below wo.heap.size wo w') => held_copy b3 c3 hfz hb)
      obtain ⟨ta, tcap, rfl, _, _⟩ := isArr_form hst
      clear hcp hdn hx hst hbx hbr hap c0 c1 c2 b0 b1 b2
      go_wp2_with fail
      go_region_law (first | (go_simp; go_at_call 52; refine (clone_steps (step_one (w := wo)) _ c.steps _ (isArr_fix HST.out (B := wo.heap.size) (by first | exact Below.refl _ _ | exact below_drewN _ _ _ | exact (Below.refl _ _).drew) (Nat.le_refl _)) hsl).mono ?_; rintro e w5 ⟨u5, rfl, hu5, hb5⟩; have B5 : Below wo.heap.size wo w5 := below_next (by first | exact Below.refl _ _ | exact below_drewN _ _ _ | exact (Below.refl _ _).drew) hb5; obtain ⟨va, vcap, hve, _, _⟩ := isArr_form (ownArr_isArr hu5); subst hve; obtain ⟨m1, m2, m3, _⟩ := HK.out _ B5))
      all_goals
        have HR := Lib.hid (copy_round HBX.out HBR.out hbel HCP.out HX.out hcap hcap2 hg B5 hu5 (Nat.le_refl _) HDN.out)
        clear hu5 hb5 B5 m1 m2 m3
        go_wp2_with fail
        go_roundw
        case rel => exact ⟨k + 1, by omega, by go_num, HR.out⟩
        case measure => simp [intOf]; omega
    · obtain rfl : k = l.length := by omega
      have q2 := frozenB hbr 0
      have q3 := frozenB hbr 1
      have q4 := frozenB hbr 2
      have q5 := frozenB hbr 3
      obtain ⟨r0, r1, r2, r3⟩ := cells4 hbr
      go_wp2_with fail
      refine bodyPost_ret (v := .agg #[_, _, _, _]) (by simp [results, Try.results25, go_sem, r0, r1, r2, r3]; first | exact ⟨rfl, rfl, rfl, rfl⟩ | rfl) rfl ?_
      refine ⟨_, rfl, ?_, (((hbel.setCell (by show w.heap.size ≤ w.heap.size + 1; omega) _).setCell (by show w.heap.size ≤ w.heap.size + 1; omega) _).setCell (by show w.heap.size ≤ w.heap.size + 1; omega) _).setCell (by show w.heap.size ≤ w.heap.size + 1; omega) _⟩
      rcases hcp with ⟨hue, rfl⟩ | ⟨g, cap, hue, hcap, hcap2, hg, hcp, hdn⟩
      · exact freshArr_nil _ _ _ _
      · rw [hue]
        have hne : w.heap.size + 1 ≠ g := by omega
        exact copyArr_fresh (copyArr_out (copyArr_out (copyArr_out (copyArr_out hcp hg (by omega) (by omega) _ _) hg (by omega) (by omega) _ _) hg (by omega) (by omega) _ _) hg (by omega) (by omega) _ _)
          (doneF_out (doneF_out (doneF_out (doneF_out hdn hne _ _) hne _ _) hne _ _) hne _ _) hcap hcap2 (by omega)
end Go.Proofs.Ytnkplfimcehnmaa
