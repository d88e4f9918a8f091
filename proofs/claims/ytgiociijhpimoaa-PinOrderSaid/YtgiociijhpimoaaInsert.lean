/- slices.Insert of one number into a slice of the call's own: the library's four contracts laid here, and what they come to. -/
import Derived.Test.YtgiociijhpimoaaRefAppend2
import Derived.Test.YtgiociijhpimoaaRefFields
import Derived.Test.YtgiociijhpimoaaRefArgs
import Derived.Test.YtgiociijhpimoaaChecked
import Derived.Shelf.Spec.SlicesInsert
import Derived.Shelf.Spec.SlicesInsertGrow
import Derived.Lib.EndianMore
namespace Go.Proofs.Ytgiociijhpimoaa
open Go.RowKit Go.Lib

def insRen : Go.Shelf.Ren := ⟨fun | 21 => 24 | 27 => 35 | 28 => 36 | 35 => 39 | 39 => 23 | n => n, fun | 22 => 22 | 3 => 3 | 4 => 4 | 0 => 0 | n => n, fun | n => n⟩
theorem insLays : Go.Proofs.Lays2.n21 Try.prog insRen := {
  mixed := by kernel_rfl
  f21 := Try.func24.trans (congrArg some (by kernel_rfl))
  f27 := Try.func35.trans (congrArg some (by kernel_rfl))
  f28 := Try.func36.trans (congrArg some (by kernel_rfl))
  f35 := Try.func39.trans (congrArg some (by kernel_rfl))
  f39 := Try.func23.trans (congrArg some (by kernel_rfl))
  t0 := Try.underlying0
  a0 := Try.isAgg0
  z0 := Try.sizeOf0
  v0 := Try.zeroValue0
  t3 := Try.underlying3
  a3 := Try.isAgg3
  z3 := Try.sizeOf3
  v3 := Try.zeroValue3
  t4 := Try.underlying4
  a4 := Try.isAgg4
  z4 := Try.sizeOf4
  v4 := Try.zeroValue4
  t22 := Try.underlying22
  a22 := Try.isAgg22
  z22 := Try.sizeOf22
  v22 := Try.zeroValue22
  i3 := by kernel_rfl }

/-- The list with x ahead of its element i. -/
def ins (l : List Int) (i : Nat) (x : Int) : List Int := l.take i ++ x :: l.drop i
theorem ins_len (l : List Int) (i : Nat) (x : Int) (h : i ≤ l.length) : (ins l i x).length = l.length + 1 := by simp [ins]; omega
theorem ins_lt (l : List Int) (i : Nat) (x : Int) (h : i ≤ l.length) (j : Nat) (hj : j < i) : (ins l i x).getD j 0 = l.getD j 0 := by
  unfold ins
  simp only [List.getD_eq_getElem?_getD]
  rw [List.getElem?_append_left (by rw [List.length_take]; omega), List.getElem?_take_of_lt hj]
theorem ins_at (l : List Int) (i : Nat) (x : Int) (h : i ≤ l.length) : (ins l i x).getD i 0 = x := by
  unfold ins
  simp only [List.getD_eq_getElem?_getD]
  rw [List.getElem?_append_right (by rw [List.length_take]; omega), List.length_take, show i - min i l.length = 0 by omega]; rfl
theorem ins_gt (l : List Int) (i : Nat) (x : Int) (h : i ≤ l.length) (j : Nat) (hj : i ≤ j) : (ins l i x).getD (j + 1) 0 = l.getD j 0 := by
  unfold ins
  simp only [List.getD_eq_getElem?_getD]
  rw [List.getElem?_append_right (by rw [List.length_take]; omega), List.length_take, show j + 1 - min i l.length = (j - i) + 1 by omega, List.getElem?_cons_succ, List.getElem?_drop, show i + (j - i) = j by omega]

/-- A slice reads as the list with x ahead of its element i, cell by cell. -/
theorem ins_row {w : World} {b cap : Nat} {l : List Int} {i : Nat} {x : Int} (hi : i ≤ l.length) (hb : b < w.heap.size) (hc : l.length + 1 ≤ cap) (hm : cap ≤ 9223372036854775807)
    (h1 : ∀ j, j < i → w.cell? ⟨b, j, none⟩ = some (.int .i64 (l.getD j 0))) (h2 : w.cell? ⟨b, i, none⟩ = some (.int .i64 x)) (h3 : ∀ j, i ≤ j → j < l.length → w.cell? ⟨b, j + 1, none⟩ = some (.int .i64 (l.getD j 0))) :
    isRow w (.slice (some ⟨b, 0, none⟩) (l.length + 1) cap) (ins l i x) := by
  have hl := ins_len l i x hi
  refine .inr ⟨b, 0, cap, by rw [hl], hb, by omega, hm, fun j hj => ?_⟩
  rw [hl] at hj
  rw [Nat.zero_add]
  by_cases ha : j < i
  · rw [h1 j ha, ins_lt l i x hi j ha]
  · by_cases he : j = i
    · subst he; rw [h2, ins_at l j x hi]
    · obtain ⟨k, rfl⟩ : ∃ k, j = k + 1 := ⟨j - 1, by omega⟩
      rw [h3 k (by omega) (by omega), ins_gt l i x hi k (by omega)]

theorem map_at (l : List Int) (j : Nat) (v : Value) (h : (l.map (Value.int .i64))[j]? = some v) : v = .int .i64 (l.getD j 0) ∧ j < l.length := by
  rw [List.getElem?_map] at h
  have hj : j < l.length := by
    cases e : l[j]? with
    | none => rw [e] at h; simp at h
    | some _ => exact (List.getElem?_eq_some_iff.1 e).1
  refine ⟨?_, hj⟩
  rw [List.getElem?_eq_getElem hj] at h
  rw [List.getD_eq_getElem?_getD, List.getElem?_eq_getElem hj]
  simpa using h.symm

theorem insert_own (B : Nat) (w : World) (v : Value) (l : List Int) (i : Nat) (x : Int) (h : own B w v l) (hi : i ≤ l.length) (hl : l.length + 1 ≤ 17592186044416) (hB : B ≤ w.heap.size) (g0 : Nat) (hg0 : w.heap.size = g0) :
    Calls Try.prog 24 #[v, .int .i64 i, .slice (some ⟨g0, 0, none⟩) 1 1] (w.alloc (.cells #[.int .i64 x] 3)) fun e w' =>
      ∃ r, e = .returned r ∧ isRow w' r (ins l i x) ∧ Below B w w' := by
  subst hg0
  obtain ⟨W, hW⟩ : ∃ W, W = w.alloc (.cells #[.int .i64 x] 3) := ⟨_, rfl⟩
  have hown : own B W v l := by rw [hW]; exact own_alloc h _
  have hbel : Below B w W := by rw [hW]; exact (Below.refl _ _).alloc hB _
  have hsz : W.heap.size = w.heap.size + 1 := by rw [hW]; simp
  have hvb : W.heap[w.heap.size]? = some (.cells #[.int .i64 x] 3 (0, 0)) := by rw [hW]; exact heap_alloc_new w _
  have hvs : ∀ j u, [Value.int .i64 x][j]? = some u → W.cell? ⟨w.heap.size, 0 + j, none⟩ = some u := fun j u hj => by
    rw [cell_of_row W _ _ _ _ _ hvb, Nat.zero_add]
    simpa using hj
  have h1v : ∀ u ∈ [Value.int .i64 x], u.oneCell' = true := one_cell x
  rw [← hW]
  rcases hown.2 with ⟨rfl, hn⟩ | ⟨g, cap, cur, rfl, hb, hg, hn, hcm, hs, ht⟩
  · obtain rfl : l = [] := List.eq_nil_of_length_eq_zero hn
    obtain rfl : i = 0 := by simpa using hi
    refine (Any2.slices_Insert_int_end_grow insLays none 0 0 w.heap.size 0 1 1 [] [.int .i64 x] W (by decide) (by decide) (by decide) (by decide) rfl rfl (fun _ => rfl) (fun a ha => by cases ha) hvs h1v).mono fun e w' ⟨he, hw⟩ => ⟨_, he, ?_, ?_⟩
    · subst hw
      have hgc := grownCap_ge W (0 + 1) 0 (insRen.t 3)
      have hgm := grownCap_le_maxLen W (0 + 1) 0 (insRen.t 3) (by decide)
      refine ins_row (l := []) (i := 0) (Nat.le_refl _) (by simp) hgc (by simpa [maxLen] using hgm) (fun j hj => by omega) ?_ (fun j _ hj => by cases hj)
      rw [World.cell?_alloc_at (w := W.drew) _ _ W.heap.size 0 rfl, Array.getElem?_append_left (by simp)]
      rfl
    · subst hw
      exact hbel.drew.alloc (by show B ≤ W.heap.size; omega) _
  · have hcm' : cap ≤ 9223372036854775807 := by simpa [maxLen] using hcm
    have hgs : g < W.heap.size := (Array.getElem?_eq_some_iff.1 hg).1
    have hcs1 : cur.size = cap := by simpa using hs
    have hcell : ∀ j, j < l.length → W.cell? ⟨g, j, none⟩ = some (.int .i64 (l.getD j 0)) := fun j hj => by
      have := World.ownsRow.cellAt hown j (by omega)
      rw [this, List.getElem?_map, List.getD_eq_getElem?_getD, List.getElem?_eq_getElem hj]; rfl
    have hsome : ∀ j, j < cap → (W.cell? ⟨g, j, none⟩).isSome = true := fun j hj => by
      rw [cell_of_row W g j cur _ _ hg, Array.getElem?_eq_getElem (by omega)]; rfl
    have hfr : ∀ j, W.frozen? ⟨g, j, none⟩ = false := fun j => World.ownsRow.frozenAt hown j
    have hcs : ∀ j u, (l.map (Value.int .i64))[j]? = some u → W.cell? ⟨g, 0 + j, none⟩ = some u := fun j u hj => by
      obtain ⟨rfl, hj2⟩ := map_at l j u hj
      rw [Nat.zero_add]; exact hcell j hj2
    have hlm : (l.map (Value.int .i64)).length = l.length := by simp
    by_cases hlt : i < l.length
    · have hne : w.heap.size ≠ g := by
        have := (own_lt h (g := g) rfl).2
        omega
      have hdl : ((l.map (Value.int .i64)).drop i).length = l.length - i := by simp
      have hda : ∀ j, i ≤ j → (hj : j < l.length) → ∀ (hd : j - i < ((l.map (Value.int .i64)).drop i).length), ((l.map (Value.int .i64)).drop i)[j - i] = .int .i64 (l.getD j 0) := fun j h1 hj hd => by
        have e : i + (j - i) = j := by omega
        rw [List.getD_eq_getElem?_getD, List.getElem?_eq_getElem hj]
        simp only [List.getElem_drop, List.getElem_map, e]
        rfl
      by_cases hroom : l.length + 1 ≤ cap
      · refine (Any2.slices_Insert_int_shift insLays g 0 l.length cap i w.heap.size 0 1 1 (l.map (Value.int .i64)) [.int .i64 x] W hlt (by decide) hroom hcm' hne hlm rfl hcs (fun j hj => by rw [Nat.zero_add]; exact hsome _ (by omega)) (fun j _ => by rw [Nat.zero_add]; exact hfr _) hvs (ints_oneCell .i64 l) h1v 3 3 1 cur.size (by simp [World.shape?, hvb]) (by simp [World.shape?, hg]) (by omega) (by simp [World.frozen?, hvb]) (by simp [World.frozen?, hvb])).mono fun e w' ⟨he, hw⟩ => ⟨_, he, ?_, ?_⟩
        · subst hw
          have hsm : ∀ k, k < cap → ((W.drew.setCells g (0 + (i + 1)) ((l.map (Value.int .i64)).drop i)).cell? ⟨g, k, none⟩).isSome = true := fun k hk =>
            isSome_setCells g _ _ _ (fun j hj => by rw [hdl] at hj; exact hsome _ (by omega)) k (hsome k hk)
          refine ins_row hi ?_ hroom hcm' (fun j hj => ?_) ?_ (fun j h1 h2 => ?_)
          · have e1 := (below_setCells_w (Nat.le_refl g) ((l.map (Value.int .i64)).drop i) (0 + (i + 1)) W.drew).size
            have e2 := (below_setCells_w (Nat.le_refl g) [Value.int .i64 x] (0 + i) (W.drew.setCells g (0 + (i + 1)) ((l.map (Value.int .i64)).drop i))).size
            exact Nat.lt_of_lt_of_le hgs (Nat.le_trans e1 e2)
          · rw [World.cell?_setCells_out _ _ _ _ _ (fun _ _ => .inl (by show j < 0 + i; omega)), World.cell?_setCells_out _ _ _ _ _ (fun _ _ => .inl (by show j < 0 + (i + 1); omega))]
            exact hcell j (by omega)
          · have := World.cell?_setCells_in g [Value.int .i64 x] (0 + i) (W.drew.setCells g (0 + (i + 1)) ((l.map (Value.int .i64)).drop i)) (fun j hj => by simp at hj; exact hsm _ (by omega)) 0 (by simp)
            simpa using this
          · rw [World.cell?_setCells_out _ _ _ _ _ (fun _ _ => .inr (by show 0 + i + 1 ≤ j + 1; omega))]
            have hd : j - i < ((l.map (Value.int .i64)).drop i).length := by rw [hdl]; omega
            have := World.cell?_setCells_in g ((l.map (Value.int .i64)).drop i) (0 + (i + 1)) W.drew (fun k hk => by rw [hdl] at hk; exact hsome _ (by omega)) (j - i) hd
            rw [hda j h1 h2 hd, show 0 + (i + 1) + (j - i) = j + 1 by omega] at this
            exact this
        · subst hw
          exact (hbel.drew.trans (below_setCells_w hb _ _ _)).trans (below_setCells_w hb _ _ _)
      · refine (Any2.slices_Insert_int_grow insLays g 0 l.length cap i w.heap.size 0 1 1 (l.map (Value.int .i64)) [.int .i64 x] W hlt (by decide) hn (by omega) (by omega) hlm rfl hcs hvs (ints_oneCell .i64 l) h1v).mono fun e w' ⟨he, hw⟩ => ⟨_, he, ?_, ?_⟩
        · obtain ⟨G, hG⟩ : ∃ G, G = grownCap W (l.length + 1) cap (insRen.t 3) := ⟨_, rfl⟩
          have hgc := grownCap_ge W (l.length + 1) cap (insRen.t 3)
          have hgm := grownCap_le_maxLen W (l.length + 1) cap (insRen.t 3) (by unfold maxLen; omega)
          rw [← hG] at hw hgc hgm ⊢
          obtain ⟨ROW, hROW⟩ : ∃ ROW : Array Value, ROW = ((l.map (Value.int .i64)).take i).toArray ++ Builtin.zeroCells (Value.int .i64 0).cells (l.length + 1 - i) ++ Builtin.zeroCells (Value.int .i64 0).cells (G - (l.length + 1)) := ⟨_, rfl⟩
          rw [← hROW] at hw
          have hsR : l.length + 1 ≤ ROW.size := by
            rw [hROW]
            simp [Builtin.zeroCells, Value.cells]
            omega
          have hR : ∀ j, j < i → ROW[j]? = some (.int .i64 (l.getD j 0)) := fun j hj => by
            rw [hROW, Array.getElem?_append_left (by simp; omega), Array.getElem?_append_left (by simp; omega), List.getElem?_toArray, List.getElem?_take_of_lt hj, List.getElem?_map, List.getD_eq_getElem?_getD, List.getElem?_eq_getElem (by omega)]; rfl
          have c0 : ∀ j, (W.alloc (.cells ROW (insRen.t 3))).drew.cell? ⟨W.heap.size, j, none⟩ = ROW[j]? := fun j => World.cell?_alloc_at (w := W.drew) ROW _ W.heap.size j rfl
          have s0 : ∀ j, j < l.length + 1 → ((W.alloc (.cells ROW (insRen.t 3))).drew.cell? ⟨W.heap.size, j, none⟩).isSome = true := fun j hj => by
            rw [c0, Array.getElem?_eq_getElem (by omega)]; rfl
          have s1 : ∀ k, k < l.length + 1 → (((W.alloc (.cells ROW (insRen.t 3))).drew.setCells W.heap.size i [.int .i64 x]).drew.cell? ⟨W.heap.size, k, none⟩).isSome = true := fun k hk =>
            isSome_setCells W.heap.size _ _ _ (fun j hj => by simp at hj; exact s0 _ (by omega)) k (s0 k hk)
          subst hw
          refine ins_row hi ?_ hgc (by simpa [maxLen] using hgm) (fun j hj => ?_) ?_ (fun j h1 h2 => ?_)
          · have e1 := (below_setCells_w (Nat.le_refl W.heap.size) [Value.int .i64 x] i (W.alloc (.cells ROW (insRen.t 3))).drew).size
            have e2 := (below_setCells_w (Nat.le_refl W.heap.size) ((l.map (Value.int .i64)).drop i) (i + 1) ((W.alloc (.cells ROW (insRen.t 3))).drew.setCells W.heap.size i [.int .i64 x]).drew).size
            have e0 : (W.alloc (.cells ROW (insRen.t 3))).drew.heap.size = W.heap.size + 1 := by simp
            exact Nat.lt_of_lt_of_le (by rw [e0]; omega) (Nat.le_trans e1 e2)
          · rw [World.cell?_setCells_out _ _ _ _ _ (fun _ _ => .inl (by show j < i + 1; omega))]
            refine (World.cell?_setCells_out _ _ _ _ _ (fun _ _ => .inl (by show j < i; omega))).trans ?_
            rw [c0, hR j hj]
          · rw [World.cell?_setCells_out _ _ _ _ _ (fun _ _ => .inl (by show i < i + 1; omega))]
            have := World.cell?_setCells_in W.heap.size [Value.int .i64 x] i (W.alloc (.cells ROW (insRen.t 3))).drew (fun j hj => by simp at hj; exact s0 _ (by omega)) 0 (by simp)
            simpa using this
          · have hd : j - i < ((l.map (Value.int .i64)).drop i).length := by rw [hdl]; omega
            have := World.cell?_setCells_in W.heap.size ((l.map (Value.int .i64)).drop i) (i + 1) ((W.alloc (.cells ROW (insRen.t 3))).drew.setCells W.heap.size i [.int .i64 x]).drew (fun k hk => by rw [hdl] at hk; exact s1 _ (by omega)) (j - i) hd
            rw [hda j h1 h2 hd, show i + 1 + (j - i) = j + 1 by omega] at this
            exact this
        · subst hw
          have hBW : B ≤ W.heap.size := by omega
          exact ((((hbel.alloc hBW _).drew).trans (below_setCells_w hBW _ _ _)).drew).trans (below_setCells_w hBW _ _ _)
    · obtain rfl : i = l.length := by omega
      by_cases hroom : l.length + 1 ≤ cap
      · refine (Any2.slices_Insert_int_end_room insLays g 0 l.length cap w.heap.size 0 1 1 [.int .i64 x] W (by decide) hroom hcm' rfl (fun j hj => by rw [Nat.zero_add]; exact hsome _ (by omega)) (fun j hj => by rw [Nat.zero_add]; exact hfr _) hvs h1v).mono fun e w' ⟨he, hw⟩ => ⟨_, he, ?_, ?_⟩
        · subst hw
          refine ins_row (Nat.le_refl _) ?_ hroom hcm' (fun j hj => ?_) ?_ (fun j h1 h2 => by omega)
          · have := below_setCells_w (Nat.le_refl g) [Value.int .i64 x] (0 + l.length) W
            exact Nat.lt_of_lt_of_le hgs this.size
          · rw [World.cell?_setCells_out _ _ _ _ _ (fun _ _ => .inl (by show j < 0 + l.length; omega))]
            exact hcell j hj
          · have := World.cell?_setCells_in g [Value.int .i64 x] (0 + l.length) W (fun j hj => by simp at hj; rw [Nat.zero_add]; exact hsome _ (by omega)) 0 (by simp)
            simpa using this
        · subst hw
          exact hbel.trans (below_setCells_w hb _ _ _)
      · refine (Any2.slices_Insert_int_end_grow insLays (some ⟨g, 0, none⟩) l.length cap w.heap.size 0 1 1 (l.map (Value.int .i64)) [.int .i64 x] W (by decide) hn (by omega) (by omega) hlm rfl (fun hh => by cases hh) (fun a ha j u hj => by cases ha; rw [Addr.add_lit]; exact hcs j u hj) hvs h1v).mono fun e w' ⟨he, hw⟩ => ⟨_, he, ?_, ?_⟩
        · subst hw
          have hgc := grownCap_ge W (l.length + 1) cap (insRen.t 3)
          have hgm := grownCap_le_maxLen W (l.length + 1) cap (insRen.t 3) (by unfold maxLen; omega)
          have hsz2 : ∀ j, j < l.length + 1 → ((l.map (Value.int .i64) ++ [Value.int .i64 x]).toArray ++ Builtin.zeroCells (Value.int .i64 0).cells (grownCap W (l.length + 1) cap (insRen.t 3) - (l.length + 1)))[j]? = (l.map (Value.int .i64) ++ [Value.int .i64 x])[j]? := fun j hj => by
            rw [Array.getElem?_append_left (by simp; omega)]
            simp
          refine ins_row (Nat.le_refl _) (by simp) hgc (by simpa [maxLen] using hgm) (fun j hj => ?_) ?_ (fun j h1 h2 => by omega)
          · rw [World.cell?_alloc_at (w := W.drew) _ _ W.heap.size j rfl]
            refine (hsz2 j (by omega)).trans ?_
            rw [List.getElem?_append_left (by simpa using hj), List.getElem?_map, List.getD_eq_getElem?_getD, List.getElem?_eq_getElem hj]; rfl
          · rw [World.cell?_alloc_at (w := W.drew) _ _ W.heap.size l.length rfl]
            refine (hsz2 l.length (by omega)).trans ?_
            rw [List.getElem?_append_right (by simp)]
            simp
        · subst hw
          exact hbel.drew.alloc (by show B ≤ W.heap.size; omega) _
end Go.Proofs.Ytgiociijhpimoaa
