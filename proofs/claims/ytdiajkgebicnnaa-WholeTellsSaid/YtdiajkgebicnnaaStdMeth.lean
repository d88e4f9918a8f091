/- The contracts of package std's methods and of its Cpu. -/
import Derived.Test.YtdiajkgebicnnaaChecked
import Derived.Test.YtdiajkgebicnnaaStdAdd
import Derived.Below
import Derived.BigQuiet
import Derived.ChangeMaps5
import Derived.Deep.DeepAppendWide
import Derived.Deep.DeepCutAuto
import Derived.Deep.Draws
import Derived.Deep.MidRow
import Derived.Deep.OwnRows
import Derived.Deep.QuietTactic
import Derived.Deep.RegionWith
import Derived.Deep.Slices
import Derived.Deep.WholeRow
import Derived.Laws.OwnMore
import Derived.Lib.Hide
import Derived.Lib.SmallJoins
import Derived.OpenShut
import Derived.OrdersHeld
import Derived.OwnWalk
import Derived.RowKit3
import Derived.Shelf.Abstract
import Derived.StillTactics
import Derived.StillTail
import Derived.WalkKit
namespace Go.Proofs.Ytdiajkgebicnnaa
open Go.RowKit
set_option maxRecDepth 100000

theorem moreP_len (l : List In) (name : ByteArray) (m : Int) (cs : List Cy) : (moreP l name m cs).length = l.length + 1 := more_len _ _ _ _
theorem sumI_len (l : List In) (name : ByteArray) (d : Int) : (sumI l name d).length = l.length + 4 := more_len _ _ _ _
theorem add_load (lo g : Nat) (name : ByteArray) (r : Int) (ms : List Int) (w : World) (l : List In) (hL : atL lo g w l) (hlo : lo ≤ w.heap.size) (hlen : l.length + ms.length ≤ 200) (hm : ∀ m ∈ ms, okMode m) :
    Calls Try.prog 108 #[.pointer (some ⟨g, 0, none⟩), .string name, .func (.func 144) #[] #[.pointer (some ⟨w.heap.size, 0, none⟩)], .slice (some ⟨w.heap.size + 1, 0, none⟩) ms.length ms.length]
      ((w.alloc (.cells #[.int .i64 r] 3)).alloc (.cells ⟨ms.map (Value.int .i64)⟩ 3)) fun e w' => e = .returned (.tuple #[]) ∧ atL lo g w' (more l name (loadC r) ms) ∧ Below lo w w' := by
  have b2 := below_al (below_laid1 w (.cells #[.int .i64 r] 3)) (.cells ⟨ms.map (Value.int .i64)⟩ 3)
  have rows := rowB_alloc (rowB_new w 3 #[.int .i64 r]) (.cells ⟨ms.map (Value.int .i64)⟩ 3)
  have rm := rowB_new (w.alloc (.cells #[.int .i64 r] 3)) 3 ⟨ms.map (Value.int .i64)⟩
  rw [World.size_alloc] at rm
  exact (add_std lo g name 144 _ _ ms _ _ l (atL_below hL b2) (Nat.le_trans hlo b2.size) hlen (enters_of Try.func144 (by kernel_rfl) rfl) (makes_load rows) hm rm).mono fun _ _ ⟨h1, h2, h3⟩ => ⟨h1, h2, (b2.mono hlo).trans h3⟩
theorem add_store (lo g : Nat) (name : ByteArray) (r : Int) (ms : List Int) (w : World) (l : List In) (hL : atL lo g w l) (hlo : lo ≤ w.heap.size) (hlen : l.length + ms.length ≤ 200) (hm : ∀ m ∈ ms, okMode m) :
    Calls Try.prog 108 #[.pointer (some ⟨g, 0, none⟩), .string name, .func (.func 146) #[] #[.pointer (some ⟨w.heap.size, 0, none⟩)], .slice (some ⟨w.heap.size + 1, 0, none⟩) ms.length ms.length]
      ((w.alloc (.cells #[.int .i64 r] 3)).alloc (.cells ⟨ms.map (Value.int .i64)⟩ 3)) fun e w' => e = .returned (.tuple #[]) ∧ atL lo g w' (more l name (storeC r) ms) ∧ Below lo w w' := by
  have b2 := below_al (below_laid1 w (.cells #[.int .i64 r] 3)) (.cells ⟨ms.map (Value.int .i64)⟩ 3)
  have rows := rowB_alloc (rowB_new w 3 #[.int .i64 r]) (.cells ⟨ms.map (Value.int .i64)⟩ 3)
  have rm := rowB_new (w.alloc (.cells #[.int .i64 r] 3)) 3 ⟨ms.map (Value.int .i64)⟩
  rw [World.size_alloc] at rm
  exact (add_std lo g name 146 _ _ ms _ _ l (atL_below hL b2) (Nat.le_trans hlo b2.size) hlen (enters_of Try.func146 (by kernel_rfl) rfl) (makes_store rows) hm rm).mono fun _ _ ⟨h1, h2, h3⟩ => ⟨h1, h2, (b2.mono hlo).trans h3⟩
theorem add_change (lo g : Nat) (name : ByteArray) (r : Int) (ms : List Int) (w : World) (l : List In) (hL : atL lo g w l) (hlo : lo ≤ w.heap.size) (hlen : l.length + ms.length ≤ 200) (hm : ∀ m ∈ ms, okMode m) :
    Calls Try.prog 108 #[.pointer (some ⟨g, 0, none⟩), .string name, .func (.func 149) #[] #[.pointer (some ⟨w.heap.size, 0, none⟩)], .slice (some ⟨w.heap.size + 1, 0, none⟩) ms.length ms.length]
      ((w.alloc (.cells #[.int .i64 r] 3)).alloc (.cells ⟨ms.map (Value.int .i64)⟩ 3)) fun e w' => e = .returned (.tuple #[]) ∧ atL lo g w' (more l name (changeC r) ms) ∧ Below lo w w' := by
  have b2 := below_al (below_laid1 w (.cells #[.int .i64 r] 3)) (.cells ⟨ms.map (Value.int .i64)⟩ 3)
  have rows := rowB_alloc (rowB_new w 3 #[.int .i64 r]) (.cells ⟨ms.map (Value.int .i64)⟩ 3)
  have rm := rowB_new (w.alloc (.cells #[.int .i64 r] 3)) 3 ⟨ms.map (Value.int .i64)⟩
  rw [World.size_alloc] at rm
  exact (add_std lo g name 149 _ _ ms _ _ l (atL_below hL b2) (Nat.le_trans hlo b2.size) hlen (enters_of Try.func149 (by kernel_rfl) rfl) (makes_change rows) hm rm).mono fun _ _ ⟨h1, h2, h3⟩ => ⟨h1, h2, (b2.mono hlo).trans h3⟩
theorem add_combine (lo g : Nat) (name : ByteArray) (d r : Int) (ms : List Int) (w : World) (l : List In) (hL : atL lo g w l) (hlo : lo ≤ w.heap.size) (hlen : l.length + ms.length ≤ 200) (hm : ∀ m ∈ ms, okMode m) :
    Calls Try.prog 108 #[.pointer (some ⟨g, 0, none⟩), .string name, .func (.func 148) #[] #[.pointer (some ⟨w.heap.size, 0, none⟩), .pointer (some ⟨w.heap.size + 1, 0, none⟩)], .slice (some ⟨w.heap.size + 1 + 1, 0, none⟩) ms.length ms.length]
      (((w.alloc (.cells #[.int .i64 d] 3)).alloc (.cells #[.int .i64 r] 3)).alloc (.cells ⟨ms.map (Value.int .i64)⟩ 3)) fun e w' => e = .returned (.tuple #[]) ∧ atL lo g w' (more l name (combineC d r) ms) ∧ Below lo w w' := by
  have b2 := below_al (below_al (below_laid1 w (.cells #[.int .i64 d] 3)) (.cells #[.int .i64 r] 3)) (.cells ⟨ms.map (Value.int .i64)⟩ 3)
  have row1 := rowB_alloc (rowB_alloc (rowB_new w 3 #[.int .i64 d]) (.cells #[.int .i64 r] 3)) (.cells ⟨ms.map (Value.int .i64)⟩ 3)
  have row2 := rowB_alloc (rowB_new (w.alloc (.cells #[.int .i64 d] 3)) 3 #[.int .i64 r]) (.cells ⟨ms.map (Value.int .i64)⟩ 3)
  have rm := rowB_new ((w.alloc (.cells #[.int .i64 d] 3)).alloc (.cells #[.int .i64 r] 3)) 3 ⟨ms.map (Value.int .i64)⟩
  rw [World.size_alloc] at row2
  rw [World.size_alloc, World.size_alloc] at rm
  exact (add_std lo g name 148 _ _ ms _ _ l (atL_below hL b2) (Nat.le_trans hlo b2.size) hlen (enters_of Try.func148 (by kernel_rfl) rfl) (makes_combine row1 row2) hm rm).mono fun _ _ ⟨h1, h2, h3⟩ => ⟨h1, h2, (b2.mono hlo).trans h3⟩
set_option maxHeartbeats 4000000 in
theorem loads_std (lo g : Nat) (w : World) (l : List In) (hL : atL lo g w l) (hlo : lo ≤ w.heap.size) (hlen : l.length + 13 ≤ 200) :
    Calls Try.prog 71 #[.pointer (some ⟨g, 0, none⟩)] w fun e w' => e = .returned (.tuple #[]) ∧ atL lo g w' (loadsI l) ∧ Below lo w w' := by
  go_enter Try.func71, Try.ntmps71
  have b0 : Below lo w w := Below.refl _ _
  go_wp2_with (go_at_call 109; refine (load_std _ _).mono ?_)
  rintro e y ⟨rfl, rfl⟩
  go_wp2_with (go_at_call 108; refine (add_load lo g ⟨#[108, 100, 97]⟩ 0 [1, 2, 3, 4, 5, 6, 8] w _ hL (Nat.le_trans hlo b0.size) (by simp only [List.length_cons, List.length_nil] <;> omega) (by simp [okMode])).mono ?_)
  rintro e x1 ⟨rfl, a1, d1⟩
  have b1 := b0.trans d1
  clear b0 d1
  have e1 : (more l ⟨#[108, 100, 97]⟩ (loadC 0) [1, 2, 3, 4, 5, 6, 8]).length = l.length + 7 := (more_len _ _ _ _).trans (by simp only [List.length_cons, List.length_nil] <;> omega)
  go_wp2_with (go_at_call 109; refine (load_std _ _).mono ?_)
  rintro e y ⟨rfl, rfl⟩
  go_wp2_with (go_at_call 108; refine (add_load lo g ⟨#[108, 100, 120]⟩ 1 [1, 2, 4] x1 _ a1 (Nat.le_trans hlo b1.size) (by simp only [List.length_cons, List.length_nil] <;> omega) (by simp [okMode])).mono ?_)
  rintro e x2 ⟨rfl, a2, d2⟩
  have b2 := b1.trans d2
  clear b1 d2
  have e2 : (more (more l ⟨#[108, 100, 97]⟩ (loadC 0) [1, 2, 3, 4, 5, 6, 8]) ⟨#[108, 100, 120]⟩ (loadC 1) [1, 2, 4]).length = l.length + 10 := (more_len _ _ _ _).trans (by simp only [List.length_cons, List.length_nil] <;> omega)
  clear e1
  go_wp2_with (go_at_call 109; refine (load_std _ _).mono ?_)
  rintro e y ⟨rfl, rfl⟩
  go_wp2_with (go_at_call 108; refine (add_load lo g ⟨#[108, 100, 121]⟩ 2 [1, 2, 4] x2 _ a2 (Nat.le_trans hlo b2.size) (by simp only [List.length_cons, List.length_nil] <;> omega) (by simp [okMode])).mono ?_)
  rintro e x3 ⟨rfl, a3, d3⟩
  have b3 := b2.trans d3
  clear b2 d3
  have e3 : (more (more (more l ⟨#[108, 100, 97]⟩ (loadC 0) [1, 2, 3, 4, 5, 6, 8]) ⟨#[108, 100, 120]⟩ (loadC 1) [1, 2, 4]) ⟨#[108, 100, 121]⟩ (loadC 2) [1, 2, 4]).length = l.length + 13 := (more_len _ _ _ _).trans (by simp only [List.length_cons, List.length_nil] <;> omega)
  clear e2
  go_wp2_with fail
  exact bodyPost_end (results_none rfl _ _ _) rfl ⟨rfl, a3, b3⟩
set_option maxHeartbeats 4000000 in
theorem stores_std (lo g : Nat) (w : World) (l : List In) (hL : atL lo g w l) (hlo : lo ≤ w.heap.size) (hlen : l.length + 10 ≤ 200) :
    Calls Try.prog 72 #[.pointer (some ⟨g, 0, none⟩)] w fun e w' => e = .returned (.tuple #[]) ∧ atL lo g w' (storesI l) ∧ Below lo w w' := by
  go_enter Try.func72, Try.ntmps72
  have b0 : Below lo w w := Below.refl _ _
  go_wp2_with (go_at_call 110; refine (store_std _ _).mono ?_)
  rintro e y ⟨rfl, rfl⟩
  go_wp2_with (go_at_call 108; refine (add_store lo g ⟨#[115, 116, 97]⟩ 0 [2, 3, 4, 5, 6, 8] w _ hL (Nat.le_trans hlo b0.size) (by simp only [List.length_cons, List.length_nil] <;> omega) (by simp [okMode])).mono ?_)
  rintro e x1 ⟨rfl, a1, d1⟩
  have b1 := b0.trans d1
  clear b0 d1
  have e1 : (more l ⟨#[115, 116, 97]⟩ (storeC 0) [2, 3, 4, 5, 6, 8]).length = l.length + 6 := (more_len _ _ _ _).trans (by simp only [List.length_cons, List.length_nil] <;> omega)
  go_wp2_with (go_at_call 110; refine (store_std _ _).mono ?_)
  rintro e y ⟨rfl, rfl⟩
  go_wp2_with (go_at_call 108; refine (add_store lo g ⟨#[115, 116, 120]⟩ 1 [2, 4] x1 _ a1 (Nat.le_trans hlo b1.size) (by simp only [List.length_cons, List.length_nil] <;> omega) (by simp [okMode])).mono ?_)
  rintro e x2 ⟨rfl, a2, d2⟩
  have b2 := b1.trans d2
  clear b1 d2
  have e2 : (more (more l ⟨#[115, 116, 97]⟩ (storeC 0) [2, 3, 4, 5, 6, 8]) ⟨#[115, 116, 120]⟩ (storeC 1) [2, 4]).length = l.length + 8 := (more_len _ _ _ _).trans (by simp only [List.length_cons, List.length_nil] <;> omega)
  clear e1
  go_wp2_with (go_at_call 110; refine (store_std _ _).mono ?_)
  rintro e y ⟨rfl, rfl⟩
  go_wp2_with (go_at_call 108; refine (add_store lo g ⟨#[115, 116, 121]⟩ 2 [2, 4] x2 _ a2 (Nat.le_trans hlo b2.size) (by simp only [List.length_cons, List.length_nil] <;> omega) (by simp [okMode])).mono ?_)
  rintro e x3 ⟨rfl, a3, d3⟩
  have b3 := b2.trans d3
  clear b2 d3
  have e3 : (more (more (more l ⟨#[115, 116, 97]⟩ (storeC 0) [2, 3, 4, 5, 6, 8]) ⟨#[115, 116, 120]⟩ (storeC 1) [2, 4]) ⟨#[115, 116, 121]⟩ (storeC 2) [2, 4]).length = l.length + 10 := (more_len _ _ _ _).trans (by simp only [List.length_cons, List.length_nil] <;> omega)
  clear e2
  go_wp2_with fail
  exact bodyPost_end (results_none rfl _ _ _) rfl ⟨rfl, a3, b3⟩
set_option maxHeartbeats 4000000 in
theorem sum_std (lo g : Nat) (name : ByteArray) (d : Int) (w : World) (l : List In) (hL : atL lo g w l) (hlo : lo ≤ w.heap.size) (hlen : l.length + 4 ≤ 200) :
    Calls Try.prog 111 #[.pointer (some ⟨g, 0, none⟩), .string name, .int .i64 d] w fun e w' => e = .returned (.tuple #[]) ∧ atL lo g w' (sumI l name d) ∧ Below lo w w' := by
  go_enter Try.func111, Try.ntmps111
  have b0 : Below lo w w := Below.refl _ _
  go_wp2_with (go_at_call 112; refine (combine_std _ _ _).mono ?_)
  rintro e y ⟨rfl, rfl⟩
  go_wp2_with (go_at_call 108; refine (add_combine lo g name d 0 [1, 2, 4, 5] w _ hL (Nat.le_trans hlo b0.size) (by simp only [List.length_cons, List.length_nil] <;> omega) (by simp [okMode])).mono ?_)
  rintro e x1 ⟨rfl, a1, d1⟩
  have b1 := b0.trans d1
  clear b0 d1
  have e1 : (more l name (combineC d 0) [1, 2, 4, 5]).length = l.length + 4 := (more_len _ _ _ _).trans (by simp only [List.length_cons, List.length_nil] <;> omega)
  go_wp2_with fail
  exact bodyPost_end (results_none rfl _ _ _) rfl ⟨rfl, a1, b1⟩
set_option maxHeartbeats 4000000 in
theorem sums_std (lo g : Nat) (w : World) (l : List In) (hL : atL lo g w l) (hlo : lo ≤ w.heap.size) (hlen : l.length + 28 ≤ 200) :
    Calls Try.prog 73 #[.pointer (some ⟨g, 0, none⟩)] w fun e w' => e = .returned (.tuple #[]) ∧ atL lo g w' (sumsI l) ∧ Below lo w w' := by
  go_enter Try.func73, Try.ntmps73
  have b0 : Below lo w w := Below.refl _ _
  go_wp2_with (go_at_call 111; refine (sum_std lo g ⟨#[97, 100, 99]⟩ 4 w _ hL (Nat.le_trans hlo b0.size) (by omega)).mono ?_)
  rintro e x1 ⟨rfl, a1, d1⟩
  have b1 := b0.trans d1
  clear b0 d1
  have e1 : (sumI l ⟨#[97, 100, 99]⟩ 4).length = l.length + 4 := (sumI_len _ _ _).trans (by omega)
  go_wp2_with (go_at_call 111; refine (sum_std lo g ⟨#[115, 98, 99]⟩ 5 x1 _ a1 (Nat.le_trans hlo b1.size) (by omega)).mono ?_)
  rintro e x2 ⟨rfl, a2, d2⟩
  have b2 := b1.trans d2
  clear b1 d2
  have e2 : (sumI (sumI l ⟨#[97, 100, 99]⟩ 4) ⟨#[115, 98, 99]⟩ 5).length = l.length + 8 := (sumI_len _ _ _).trans (by omega)
  clear e1
  go_wp2_with (go_at_call 111; refine (sum_std lo g ⟨#[97, 110, 100]⟩ 7 x2 _ a2 (Nat.le_trans hlo b2.size) (by omega)).mono ?_)
  rintro e x3 ⟨rfl, a3, d3⟩
  have b3 := b2.trans d3
  clear b2 d3
  have e3 : (sumI (sumI (sumI l ⟨#[97, 100, 99]⟩ 4) ⟨#[115, 98, 99]⟩ 5) ⟨#[97, 110, 100]⟩ 7).length = l.length + 12 := (sumI_len _ _ _).trans (by omega)
  clear e2
  go_wp2_with (go_at_call 111; refine (sum_std lo g ⟨#[111, 114, 97]⟩ 8 x3 _ a3 (Nat.le_trans hlo b3.size) (by omega)).mono ?_)
  rintro e x4 ⟨rfl, a4, d4⟩
  have b4 := b3.trans d4
  clear b3 d4
  have e4 : (sumI (sumI (sumI (sumI l ⟨#[97, 100, 99]⟩ 4) ⟨#[115, 98, 99]⟩ 5) ⟨#[97, 110, 100]⟩ 7) ⟨#[111, 114, 97]⟩ 8).length = l.length + 16 := (sumI_len _ _ _).trans (by omega)
  clear e3
  go_wp2_with (go_at_call 111; refine (sum_std lo g ⟨#[101, 111, 114]⟩ 9 x4 _ a4 (Nat.le_trans hlo b4.size) (by omega)).mono ?_)
  rintro e x5 ⟨rfl, a5, d5⟩
  have b5 := b4.trans d5
  clear b4 d5
  have e5 : (sumI (sumI (sumI (sumI (sumI l ⟨#[97, 100, 99]⟩ 4) ⟨#[115, 98, 99]⟩ 5) ⟨#[97, 110, 100]⟩ 7) ⟨#[111, 114, 97]⟩ 8) ⟨#[101, 111, 114]⟩ 9).length = l.length + 20 := (sumI_len _ _ _).trans (by omega)
  clear e4
  go_wp2_with (go_at_call 111; refine (sum_std lo g ⟨#[99, 109, 112]⟩ 6 x5 _ a5 (Nat.le_trans hlo b5.size) (by omega)).mono ?_)
  rintro e x6 ⟨rfl, a6, d6⟩
  have b6 := b5.trans d6
  clear b5 d6
  have e6 : (sumI (sumI (sumI (sumI (sumI (sumI l ⟨#[97, 100, 99]⟩ 4) ⟨#[115, 98, 99]⟩ 5) ⟨#[97, 110, 100]⟩ 7) ⟨#[111, 114, 97]⟩ 8) ⟨#[101, 111, 114]⟩ 9) ⟨#[99, 109, 112]⟩ 6).length = l.length + 24 := (sumI_len _ _ _).trans (by omega)
  clear e5
  go_wp2_with (go_at_call 112; refine (combine_std _ _ _).mono ?_)
  rintro e y ⟨rfl, rfl⟩
  go_wp2_with (go_at_call 108; refine (add_combine lo g ⟨#[99, 112, 120]⟩ 6 1 [1, 2] x6 _ a6 (Nat.le_trans hlo b6.size) (by simp only [List.length_cons, List.length_nil] <;> omega) (by simp [okMode])).mono ?_)
  rintro e x7 ⟨rfl, a7, d7⟩
  have b7 := b6.trans d7
  clear b6 d7
  have e7 : (more (sumI (sumI (sumI (sumI (sumI (sumI l ⟨#[97, 100, 99]⟩ 4) ⟨#[115, 98, 99]⟩ 5) ⟨#[97, 110, 100]⟩ 7) ⟨#[111, 114, 97]⟩ 8) ⟨#[101, 111, 114]⟩ 9) ⟨#[99, 109, 112]⟩ 6) ⟨#[99, 112, 120]⟩ (combineC 6 1) [1, 2]).length = l.length + 26 := (more_len _ _ _ _).trans (by simp only [List.length_cons, List.length_nil] <;> omega)
  clear e6
  go_wp2_with (go_at_call 112; refine (combine_std _ _ _).mono ?_)
  rintro e y ⟨rfl, rfl⟩
  go_wp2_with (go_at_call 108; refine (add_combine lo g ⟨#[99, 112, 121]⟩ 6 2 [1, 2] x7 _ a7 (Nat.le_trans hlo b7.size) (by simp only [List.length_cons, List.length_nil] <;> omega) (by simp [okMode])).mono ?_)
  rintro e x8 ⟨rfl, a8, d8⟩
  have b8 := b7.trans d8
  clear b7 d8
  have e8 : (more (more (sumI (sumI (sumI (sumI (sumI (sumI l ⟨#[97, 100, 99]⟩ 4) ⟨#[115, 98, 99]⟩ 5) ⟨#[97, 110, 100]⟩ 7) ⟨#[111, 114, 97]⟩ 8) ⟨#[101, 111, 114]⟩ 9) ⟨#[99, 109, 112]⟩ 6) ⟨#[99, 112, 120]⟩ (combineC 6 1) [1, 2]) ⟨#[99, 112, 121]⟩ (combineC 6 2) [1, 2]).length = l.length + 28 := (more_len _ _ _ _).trans (by simp only [List.length_cons, List.length_nil] <;> omega)
  clear e7
  go_wp2_with fail
  exact bodyPost_end (results_none rfl _ _ _) rfl ⟨rfl, a8, b8⟩
set_option maxHeartbeats 4000000 in
theorem changes_std (lo g : Nat) (w : World) (l : List In) (hL : atL lo g w l) (hlo : lo ≤ w.heap.size) (hlen : l.length + 12 ≤ 200) :
    Calls Try.prog 74 #[.pointer (some ⟨g, 0, none⟩)] w fun e w' => e = .returned (.tuple #[]) ∧ atL lo g w' (changesI l) ∧ Below lo w w' := by
  go_enter Try.func74, Try.ntmps74
  have b0 : Below lo w w := Below.refl _ _
  go_wp2_with (go_at_call 113; refine (change_std _ _).mono ?_)
  rintro e y ⟨rfl, rfl⟩
  go_wp2_with (go_at_call 108; refine (add_change lo g ⟨#[105, 110, 99]⟩ 10 [2, 4] w _ hL (Nat.le_trans hlo b0.size) (by simp only [List.length_cons, List.length_nil] <;> omega) (by simp [okMode])).mono ?_)
  rintro e x1 ⟨rfl, a1, d1⟩
  have b1 := b0.trans d1
  clear b0 d1
  have e1 : (more l ⟨#[105, 110, 99]⟩ (changeC 10) [2, 4]).length = l.length + 2 := (more_len _ _ _ _).trans (by simp only [List.length_cons, List.length_nil] <;> omega)
  go_wp2_with (go_at_call 113; refine (change_std _ _).mono ?_)
  rintro e y ⟨rfl, rfl⟩
  go_wp2_with (go_at_call 108; refine (add_change lo g ⟨#[100, 101, 99]⟩ 11 [2, 4] x1 _ a1 (Nat.le_trans hlo b1.size) (by simp only [List.length_cons, List.length_nil] <;> omega) (by simp [okMode])).mono ?_)
  rintro e x2 ⟨rfl, a2, d2⟩
  have b2 := b1.trans d2
  clear b1 d2
  have e2 : (more (more l ⟨#[105, 110, 99]⟩ (changeC 10) [2, 4]) ⟨#[100, 101, 99]⟩ (changeC 11) [2, 4]).length = l.length + 4 := (more_len _ _ _ _).trans (by simp only [List.length_cons, List.length_nil] <;> omega)
  clear e1
  go_wp2_with (go_at_call 113; refine (change_std _ _).mono ?_)
  rintro e y ⟨rfl, rfl⟩
  go_wp2_with (go_at_call 108; refine (add_change lo g ⟨#[97, 115, 108]⟩ 12 [0, 2] x2 _ a2 (Nat.le_trans hlo b2.size) (by simp only [List.length_cons, List.length_nil] <;> omega) (by simp [okMode])).mono ?_)
  rintro e x3 ⟨rfl, a3, d3⟩
  have b3 := b2.trans d3
  clear b2 d3
  have e3 : (more (more (more l ⟨#[105, 110, 99]⟩ (changeC 10) [2, 4]) ⟨#[100, 101, 99]⟩ (changeC 11) [2, 4]) ⟨#[97, 115, 108]⟩ (changeC 12) [0, 2]).length = l.length + 6 := (more_len _ _ _ _).trans (by simp only [List.length_cons, List.length_nil] <;> omega)
  clear e2
  go_wp2_with (go_at_call 113; refine (change_std _ _).mono ?_)
  rintro e y ⟨rfl, rfl⟩
  go_wp2_with (go_at_call 108; refine (add_change lo g ⟨#[108, 115, 114]⟩ 13 [0, 2] x3 _ a3 (Nat.le_trans hlo b3.size) (by simp only [List.length_cons, List.length_nil] <;> omega) (by simp [okMode])).mono ?_)
  rintro e x4 ⟨rfl, a4, d4⟩
  have b4 := b3.trans d4
  clear b3 d4
  have e4 : (more (more (more (more l ⟨#[105, 110, 99]⟩ (changeC 10) [2, 4]) ⟨#[100, 101, 99]⟩ (changeC 11) [2, 4]) ⟨#[97, 115, 108]⟩ (changeC 12) [0, 2]) ⟨#[108, 115, 114]⟩ (changeC 13) [0, 2]).length = l.length + 8 := (more_len _ _ _ _).trans (by simp only [List.length_cons, List.length_nil] <;> omega)
  clear e3
  go_wp2_with (go_at_call 113; refine (change_std _ _).mono ?_)
  rintro e y ⟨rfl, rfl⟩
  go_wp2_with (go_at_call 108; refine (add_change lo g ⟨#[114, 111, 108]⟩ 14 [0, 2] x4 _ a4 (Nat.le_trans hlo b4.size) (by simp only [List.length_cons, List.length_nil] <;> omega) (by simp [okMode])).mono ?_)
  rintro e x5 ⟨rfl, a5, d5⟩
  have b5 := b4.trans d5
  clear b4 d5
  have e5 : (more (more (more (more (more l ⟨#[105, 110, 99]⟩ (changeC 10) [2, 4]) ⟨#[100, 101, 99]⟩ (changeC 11) [2, 4]) ⟨#[97, 115, 108]⟩ (changeC 12) [0, 2]) ⟨#[108, 115, 114]⟩ (changeC 13) [0, 2]) ⟨#[114, 111, 108]⟩ (changeC 14) [0, 2]).length = l.length + 10 := (more_len _ _ _ _).trans (by simp only [List.length_cons, List.length_nil] <;> omega)
  clear e4
  go_wp2_with (go_at_call 113; refine (change_std _ _).mono ?_)
  rintro e y ⟨rfl, rfl⟩
  go_wp2_with (go_at_call 108; refine (add_change lo g ⟨#[114, 111, 114]⟩ 15 [0, 2] x5 _ a5 (Nat.le_trans hlo b5.size) (by simp only [List.length_cons, List.length_nil] <;> omega) (by simp [okMode])).mono ?_)
  rintro e x6 ⟨rfl, a6, d6⟩
  have b6 := b5.trans d6
  clear b5 d6
  have e6 : (more (more (more (more (more (more l ⟨#[105, 110, 99]⟩ (changeC 10) [2, 4]) ⟨#[100, 101, 99]⟩ (changeC 11) [2, 4]) ⟨#[97, 115, 108]⟩ (changeC 12) [0, 2]) ⟨#[108, 115, 114]⟩ (changeC 13) [0, 2]) ⟨#[114, 111, 108]⟩ (changeC 14) [0, 2]) ⟨#[114, 111, 114]⟩ (changeC 15) [0, 2]).length = l.length + 12 := (more_len _ _ _ _).trans (by simp only [List.length_cons, List.length_nil] <;> omega)
  clear e5
  go_wp2_with fail
  exact bodyPost_end (results_none rfl _ _ _) rfl ⟨rfl, a6, b6⟩
set_option maxHeartbeats 4000000 in
theorem move_std (lo g : Nat) (name : ByteArray) (t f : Int) (w : World) (l : List In) (hL : atL lo g w l) (hlo : lo ≤ w.heap.size) (hlen : l.length + 1 ≤ 200) :
    Calls Try.prog 114 #[.pointer (some ⟨g, 0, none⟩), .string name, .int .i64 t, .int .i64 f] w fun e w' => e = .returned (.tuple #[]) ∧ atL lo g w' (moveI l name t f) ∧ Below lo w w' := by
  go_enter Try.func114, Try.ntmps114
  have b0 : Below lo w w := Below.refl _ _
  go_wp2_with (go_at_call 117; refine (with_std _ _ _ _ ).mono ?_)
  rintro e w1 ⟨rfl, h1⟩
  have c_w_w1 := h1
  go_wp2_with (go_at_call 118; refine (on_std _ _ _ ).mono ?_)
  rintro e w2 ⟨rfl, h2⟩
  have c_w_w2 := below_step c_w_w1 h2
  have c_w1_w2 := h2
  go_wp2_with (go_at_call 116; refine (quiet_std _ _ _ _ ).mono ?_)
  rintro e w3 ⟨rfl, h3⟩
  have c_w_w3 := below_step (below_al c_w_w2 _) h3
  have c_w1_w3 := below_step (below_al c_w1_w2 _) h3
  have c_w2_w3 := below_step (below_laid1 _ _) h3
  have s3 := steps_built h3 [⟨1, t, f, 0⟩, ⟨3, t, 0, 0⟩] rfl rfl (Nat.le_of_ble_eq_true rfl)
  go_wp2_with (go_at_call 115; refine (addPlain_std lo g name 0 [⟨0, 0, 0, [⟨1, t, f, 0⟩, ⟨3, t, 0, 0⟩]⟩] _ _ _ _ _ (atL_below hL (below_al c_w_w3 _)) (Nat.le_trans (Nat.le_trans hlo b0.size) (below_al c_w_w3 _).size) (by omega) (by simp [okMode]) (own_cycles (w := w3) [(⟨0, 0, 0, [⟨1, t, f, 0⟩, ⟨3, t, 0, 0⟩]⟩, _)] ⟨⟨_, s3⟩, trivial⟩ rfl rfl (Nat.le_of_ble_eq_true rfl))).mono ?_; rintro e x1 ⟨rfl, a1, d1⟩)
  have b1 := b0.trans (((below_al c_w_w3 _).mono (Nat.le_trans hlo b0.size)).trans d1)
  clear b0 d1
  have e1 : (moreP l name 0 [⟨0, 0, 0, [⟨1, t, f, 0⟩, ⟨3, t, 0, 0⟩]⟩]).length = l.length + 1 := (moreP_len _ _ _ _).trans (by omega)
  go_wp2_with fail
  exact bodyPost_end (results_none rfl _ _ _) rfl ⟨rfl, a1, b1⟩
set_option maxHeartbeats 4000000 in
theorem moves_std (lo g : Nat) (w : World) (l : List In) (hL : atL lo g w l) (hlo : lo ≤ w.heap.size) (hlen : l.length + 10 ≤ 200) :
    Calls Try.prog 75 #[.pointer (some ⟨g, 0, none⟩)] w fun e w' => e = .returned (.tuple #[]) ∧ atL lo g w' (movesI l) ∧ Below lo w w' := by
  go_enter Try.func75, Try.ntmps75
  have b0 : Below lo w w := Below.refl _ _
  go_wp2_with (go_at_call 114; refine (move_std lo g ⟨#[116, 97, 120]⟩ 1 0 w _ hL (Nat.le_trans hlo b0.size) (by omega)).mono ?_)
  rintro e x1 ⟨rfl, a1, d1⟩
  have b1 := b0.trans d1
  clear b0 d1
  have e1 : (moveI l ⟨#[116, 97, 120]⟩ 1 0).length = l.length + 1 := (moreP_len _ _ _ _).trans (by omega)
  go_wp2_with (go_at_call 114; refine (move_std lo g ⟨#[116, 97, 121]⟩ 2 0 x1 _ a1 (Nat.le_trans hlo b1.size) (by omega)).mono ?_)
  rintro e x2 ⟨rfl, a2, d2⟩
  have b2 := b1.trans d2
  clear b1 d2
  have e2 : (moveI (moveI l ⟨#[116, 97, 120]⟩ 1 0) ⟨#[116, 97, 121]⟩ 2 0).length = l.length + 2 := (moreP_len _ _ _ _).trans (by omega)
  clear e1
  go_wp2_with (go_at_call 114; refine (move_std lo g ⟨#[116, 120, 97]⟩ 0 1 x2 _ a2 (Nat.le_trans hlo b2.size) (by omega)).mono ?_)
  rintro e x3 ⟨rfl, a3, d3⟩
  have b3 := b2.trans d3
  clear b2 d3
  have e3 : (moveI (moveI (moveI l ⟨#[116, 97, 120]⟩ 1 0) ⟨#[116, 97, 121]⟩ 2 0) ⟨#[116, 120, 97]⟩ 0 1).length = l.length + 3 := (moreP_len _ _ _ _).trans (by omega)
  clear e2
  go_wp2_with (go_at_call 114; refine (move_std lo g ⟨#[116, 121, 97]⟩ 0 2 x3 _ a3 (Nat.le_trans hlo b3.size) (by omega)).mono ?_)
  rintro e x4 ⟨rfl, a4, d4⟩
  have b4 := b3.trans d4
  clear b3 d4
  have e4 : (moveI (moveI (moveI (moveI l ⟨#[116, 97, 120]⟩ 1 0) ⟨#[116, 97, 121]⟩ 2 0) ⟨#[116, 120, 97]⟩ 0 1) ⟨#[116, 121, 97]⟩ 0 2).length = l.length + 4 := (moreP_len _ _ _ _).trans (by omega)
  clear e3
  go_wp2_with (go_at_call 114; refine (move_std lo g ⟨#[116, 115, 120]⟩ 1 3 x4 _ a4 (Nat.le_trans hlo b4.size) (by omega)).mono ?_)
  rintro e x5 ⟨rfl, a5, d5⟩
  have b5 := b4.trans d5
  clear b4 d5
  have e5 : (moveI (moveI (moveI (moveI (moveI l ⟨#[116, 97, 120]⟩ 1 0) ⟨#[116, 97, 121]⟩ 2 0) ⟨#[116, 120, 97]⟩ 0 1) ⟨#[116, 121, 97]⟩ 0 2) ⟨#[116, 115, 120]⟩ 1 3).length = l.length + 5 := (moreP_len _ _ _ _).trans (by omega)
  clear e4
  go_wp2_with (go_at_call 117; refine (with_std _ _ _ _ ).mono ?_)
  rintro e w1 ⟨rfl, h1⟩
  have c_x5_w1 := h1
  go_wp2_with (go_at_call 116; refine (quiet_std _ _ _ _ ).mono ?_)
  rintro e w2 ⟨rfl, h2⟩
  have c_x5_w2 := below_step (below_al c_x5_w1 _) h2
  have c_w1_w2 := below_step (below_laid1 _ _) h2
  have s2 := steps_built h2 [⟨1, 3, 1, 0⟩] rfl rfl (Nat.le_of_ble_eq_true rfl)
  go_wp2_with (go_at_call 115; refine (addPlain_std lo g ⟨#[116, 120, 115]⟩ 0 [⟨0, 0, 0, [⟨1, 3, 1, 0⟩]⟩] _ _ _ _ _ (atL_below a5 (below_al c_x5_w2 _)) (Nat.le_trans (Nat.le_trans hlo b5.size) (below_al c_x5_w2 _).size) (by omega) (by simp [okMode]) (own_cycles (w := w2) [(⟨0, 0, 0, [⟨1, 3, 1, 0⟩]⟩, _)] ⟨⟨_, s2⟩, trivial⟩ rfl rfl (Nat.le_of_ble_eq_true rfl))).mono ?_; rintro e x6 ⟨rfl, a6, d6⟩)
  have b6 := b5.trans (((below_al c_x5_w2 _).mono (Nat.le_trans hlo b5.size)).trans d6)
  clear b5 d6
  have e6 : (moreP (moveI (moveI (moveI (moveI (moveI l ⟨#[116, 97, 120]⟩ 1 0) ⟨#[116, 97, 121]⟩ 2 0) ⟨#[116, 120, 97]⟩ 0 1) ⟨#[116, 121, 97]⟩ 0 2) ⟨#[116, 115, 120]⟩ 1 3) ⟨#[116, 120, 115]⟩ 0 [⟨0, 0, 0, [⟨1, 3, 1, 0⟩]⟩]).length = l.length + 6 := (moreP_len _ _ _ _).trans (by omega)
  clear e5
  go_wp2_with (go_at_call 118; refine (on_std _ _ _ ).mono ?_)
  rintro e w3 ⟨rfl, h3⟩
  have c_x6_w3 := h3
  go_wp2_with (go_at_call 116; refine (quiet_std _ _ _ _ ).mono ?_)
  rintro e w4 ⟨rfl, h4⟩
  have c_x6_w4 := below_step (below_al c_x6_w3 _) h4
  have c_w3_w4 := below_step (below_laid1 _ _) h4
  have s4 := steps_built h4 [⟨10, 1, 0, 0⟩] rfl rfl (Nat.le_of_ble_eq_true rfl)
  go_wp2_with (go_at_call 115; refine (addPlain_std lo g ⟨#[105, 110, 120]⟩ 0 [⟨0, 0, 0, [⟨10, 1, 0, 0⟩]⟩] _ _ _ _ _ (atL_below a6 (below_al c_x6_w4 _)) (Nat.le_trans (Nat.le_trans hlo b6.size) (below_al c_x6_w4 _).size) (by omega) (by simp [okMode]) (own_cycles (w := w4) [(⟨0, 0, 0, [⟨10, 1, 0, 0⟩]⟩, _)] ⟨⟨_, s4⟩, trivial⟩ rfl rfl (Nat.le_of_ble_eq_true rfl))).mono ?_; rintro e x7 ⟨rfl, a7, d7⟩)
  have b7 := b6.trans (((below_al c_x6_w4 _).mono (Nat.le_trans hlo b6.size)).trans d7)
  clear b6 d7
  have e7 : (moreP (moreP (moveI (moveI (moveI (moveI (moveI l ⟨#[116, 97, 120]⟩ 1 0) ⟨#[116, 97, 121]⟩ 2 0) ⟨#[116, 120, 97]⟩ 0 1) ⟨#[116, 121, 97]⟩ 0 2) ⟨#[116, 115, 120]⟩ 1 3) ⟨#[116, 120, 115]⟩ 0 [⟨0, 0, 0, [⟨1, 3, 1, 0⟩]⟩]) ⟨#[105, 110, 120]⟩ 0 [⟨0, 0, 0, [⟨10, 1, 0, 0⟩]⟩]).length = l.length + 7 := (moreP_len _ _ _ _).trans (by omega)
  clear e6
  go_wp2_with (go_at_call 118; refine (on_std _ _ _ ).mono ?_)
  rintro e w5 ⟨rfl, h5⟩
  have c_x7_w5 := h5
  go_wp2_with (go_at_call 116; refine (quiet_std _ _ _ _ ).mono ?_)
  rintro e w6 ⟨rfl, h6⟩
  have c_x7_w6 := below_step (below_al c_x7_w5 _) h6
  have c_w5_w6 := below_step (below_laid1 _ _) h6
  have s6 := steps_built h6 [⟨10, 2, 0, 0⟩] rfl rfl (Nat.le_of_ble_eq_true rfl)
  go_wp2_with (go_at_call 115; refine (addPlain_std lo g ⟨#[105, 110, 121]⟩ 0 [⟨0, 0, 0, [⟨10, 2, 0, 0⟩]⟩] _ _ _ _ _ (atL_below a7 (below_al c_x7_w6 _)) (Nat.le_trans (Nat.le_trans hlo b7.size) (below_al c_x7_w6 _).size) (by omega) (by simp [okMode]) (own_cycles (w := w6) [(⟨0, 0, 0, [⟨10, 2, 0, 0⟩]⟩, _)] ⟨⟨_, s6⟩, trivial⟩ rfl rfl (Nat.le_of_ble_eq_true rfl))).mono ?_; rintro e x8 ⟨rfl, a8, d8⟩)
  have b8 := b7.trans (((below_al c_x7_w6 _).mono (Nat.le_trans hlo b7.size)).trans d8)
  clear b7 d8
  have e8 : (moreP (moreP (moreP (moveI (moveI (moveI (moveI (moveI l ⟨#[116, 97, 120]⟩ 1 0) ⟨#[116, 97, 121]⟩ 2 0) ⟨#[116, 120, 97]⟩ 0 1) ⟨#[116, 121, 97]⟩ 0 2) ⟨#[116, 115, 120]⟩ 1 3) ⟨#[116, 120, 115]⟩ 0 [⟨0, 0, 0, [⟨1, 3, 1, 0⟩]⟩]) ⟨#[105, 110, 120]⟩ 0 [⟨0, 0, 0, [⟨10, 1, 0, 0⟩]⟩]) ⟨#[105, 110, 121]⟩ 0 [⟨0, 0, 0, [⟨10, 2, 0, 0⟩]⟩]).length = l.length + 8 := (moreP_len _ _ _ _).trans (by omega)
  clear e7
  go_wp2_with (go_at_call 118; refine (on_std _ _ _ ).mono ?_)
  rintro e w7 ⟨rfl, h7⟩
  have c_x8_w7 := h7
  go_wp2_with (go_at_call 116; refine (quiet_std _ _ _ _ ).mono ?_)
  rintro e w8 ⟨rfl, h8⟩
  have c_x8_w8 := below_step (below_al c_x8_w7 _) h8
  have c_w7_w8 := below_step (below_laid1 _ _) h8
  have s8 := steps_built h8 [⟨11, 1, 0, 0⟩] rfl rfl (Nat.le_of_ble_eq_true rfl)
  go_wp2_with (go_at_call 115; refine (addPlain_std lo g ⟨#[100, 101, 120]⟩ 0 [⟨0, 0, 0, [⟨11, 1, 0, 0⟩]⟩] _ _ _ _ _ (atL_below a8 (below_al c_x8_w8 _)) (Nat.le_trans (Nat.le_trans hlo b8.size) (below_al c_x8_w8 _).size) (by omega) (by simp [okMode]) (own_cycles (w := w8) [(⟨0, 0, 0, [⟨11, 1, 0, 0⟩]⟩, _)] ⟨⟨_, s8⟩, trivial⟩ rfl rfl (Nat.le_of_ble_eq_true rfl))).mono ?_; rintro e x9 ⟨rfl, a9, d9⟩)
  have b9 := b8.trans (((below_al c_x8_w8 _).mono (Nat.le_trans hlo b8.size)).trans d9)
  clear b8 d9
  have e9 : (moreP (moreP (moreP (moreP (moveI (moveI (moveI (moveI (moveI l ⟨#[116, 97, 120]⟩ 1 0) ⟨#[116, 97, 121]⟩ 2 0) ⟨#[116, 120, 97]⟩ 0 1) ⟨#[116, 121, 97]⟩ 0 2) ⟨#[116, 115, 120]⟩ 1 3) ⟨#[116, 120, 115]⟩ 0 [⟨0, 0, 0, [⟨1, 3, 1, 0⟩]⟩]) ⟨#[105, 110, 120]⟩ 0 [⟨0, 0, 0, [⟨10, 1, 0, 0⟩]⟩]) ⟨#[105, 110, 121]⟩ 0 [⟨0, 0, 0, [⟨10, 2, 0, 0⟩]⟩]) ⟨#[100, 101, 120]⟩ 0 [⟨0, 0, 0, [⟨11, 1, 0, 0⟩]⟩]).length = l.length + 9 := (moreP_len _ _ _ _).trans (by omega)
  clear e8
  go_wp2_with (go_at_call 118; refine (on_std _ _ _ ).mono ?_)
  rintro e w9 ⟨rfl, h9⟩
  have c_x9_w9 := h9
  go_wp2_with (go_at_call 116; refine (quiet_std _ _ _ _ ).mono ?_)
  rintro e w10 ⟨rfl, h10⟩
  have c_x9_w10 := below_step (below_al c_x9_w9 _) h10
  have c_w9_w10 := below_step (below_laid1 _ _) h10
  have s10 := steps_built h10 [⟨11, 2, 0, 0⟩] rfl rfl (Nat.le_of_ble_eq_true rfl)
  go_wp2_with (go_at_call 115; refine (addPlain_std lo g ⟨#[100, 101, 121]⟩ 0 [⟨0, 0, 0, [⟨11, 2, 0, 0⟩]⟩] _ _ _ _ _ (atL_below a9 (below_al c_x9_w10 _)) (Nat.le_trans (Nat.le_trans hlo b9.size) (below_al c_x9_w10 _).size) (by omega) (by simp [okMode]) (own_cycles (w := w10) [(⟨0, 0, 0, [⟨11, 2, 0, 0⟩]⟩, _)] ⟨⟨_, s10⟩, trivial⟩ rfl rfl (Nat.le_of_ble_eq_true rfl))).mono ?_; rintro e x10 ⟨rfl, a10, d10⟩)
  have b10 := b9.trans (((below_al c_x9_w10 _).mono (Nat.le_trans hlo b9.size)).trans d10)
  clear b9 d10
  have e10 : (moreP (moreP (moreP (moreP (moreP (moveI (moveI (moveI (moveI (moveI l ⟨#[116, 97, 120]⟩ 1 0) ⟨#[116, 97, 121]⟩ 2 0) ⟨#[116, 120, 97]⟩ 0 1) ⟨#[116, 121, 97]⟩ 0 2) ⟨#[116, 115, 120]⟩ 1 3) ⟨#[116, 120, 115]⟩ 0 [⟨0, 0, 0, [⟨1, 3, 1, 0⟩]⟩]) ⟨#[105, 110, 120]⟩ 0 [⟨0, 0, 0, [⟨10, 1, 0, 0⟩]⟩]) ⟨#[105, 110, 121]⟩ 0 [⟨0, 0, 0, [⟨10, 2, 0, 0⟩]⟩]) ⟨#[100, 101, 120]⟩ 0 [⟨0, 0, 0, [⟨11, 1, 0, 0⟩]⟩]) ⟨#[100, 101, 121]⟩ 0 [⟨0, 0, 0, [⟨11, 2, 0, 0⟩]⟩]).length = l.length + 10 := (moreP_len _ _ _ _).trans (by omega)
  clear e9
  go_wp2_with fail
  exact bodyPost_end (results_none rfl _ _ _) rfl ⟨rfl, a10, b10⟩
set_option maxHeartbeats 4000000 in
theorem flags_std (lo g : Nat) (w : World) (l : List In) (hL : atL lo g w l) (hlo : lo ≤ w.heap.size) (hlen : l.length + 5 ≤ 200) :
    Calls Try.prog 76 #[.pointer (some ⟨g, 0, none⟩)] w fun e w' => e = .returned (.tuple #[]) ∧ atL lo g w' (flagsI l) ∧ Below lo w w' := by
  go_enter Try.func76, Try.ntmps76
  have b0 : Below lo w w := Below.refl _ _
  go_wp2_with (go_at_call 119; refine (flag_std _ _ _ ).mono ?_)
  rintro e w1 ⟨rfl, h1⟩
  have c_w_w1 := h1
  go_wp2_with (go_at_call 116; refine (quiet_std _ _ _ _ ).mono ?_)
  rintro e w2 ⟨rfl, h2⟩
  have c_w_w2 := below_step (below_al c_w_w1 _) h2
  have c_w1_w2 := below_step (below_laid1 _ _) h2
  have s2 := steps_built h2 [⟨17, 0, 0, 1⟩] rfl rfl (Nat.le_of_ble_eq_true rfl)
  go_wp2_with (go_at_call 115; refine (addPlain_std lo g ⟨#[99, 108, 99]⟩ 0 [⟨0, 0, 0, [⟨17, 0, 0, 1⟩]⟩] _ _ _ _ _ (atL_below hL (below_al c_w_w2 _)) (Nat.le_trans (Nat.le_trans hlo b0.size) (below_al c_w_w2 _).size) (by omega) (by simp [okMode]) (own_cycles (w := w2) [(⟨0, 0, 0, [⟨17, 0, 0, 1⟩]⟩, _)] ⟨⟨_, s2⟩, trivial⟩ rfl rfl (Nat.le_of_ble_eq_true rfl))).mono ?_; rintro e x1 ⟨rfl, a1, d1⟩)
  have b1 := b0.trans (((below_al c_w_w2 _).mono (Nat.le_trans hlo b0.size)).trans d1)
  clear b0 d1
  have e1 : (moreP l ⟨#[99, 108, 99]⟩ 0 [⟨0, 0, 0, [⟨17, 0, 0, 1⟩]⟩]).length = l.length + 1 := (moreP_len _ _ _ _).trans (by omega)
  go_wp2_with (go_at_call 119; refine (flag_std _ _ _ ).mono ?_)
  rintro e w3 ⟨rfl, h3⟩
  have c_x1_w3 := h3
  go_wp2_with (go_at_call 116; refine (quiet_std _ _ _ _ ).mono ?_)
  rintro e w4 ⟨rfl, h4⟩
  have c_x1_w4 := below_step (below_al c_x1_w3 _) h4
  have c_w3_w4 := below_step (below_laid1 _ _) h4
  have s4 := steps_built h4 [⟨16, 0, 0, 1⟩] rfl rfl (Nat.le_of_ble_eq_true rfl)
  go_wp2_with (go_at_call 115; refine (addPlain_std lo g ⟨#[115, 101, 99]⟩ 0 [⟨0, 0, 0, [⟨16, 0, 0, 1⟩]⟩] _ _ _ _ _ (atL_below a1 (below_al c_x1_w4 _)) (Nat.le_trans (Nat.le_trans hlo b1.size) (below_al c_x1_w4 _).size) (by omega) (by simp [okMode]) (own_cycles (w := w4) [(⟨0, 0, 0, [⟨16, 0, 0, 1⟩]⟩, _)] ⟨⟨_, s4⟩, trivial⟩ rfl rfl (Nat.le_of_ble_eq_true rfl))).mono ?_; rintro e x2 ⟨rfl, a2, d2⟩)
  have b2 := b1.trans (((below_al c_x1_w4 _).mono (Nat.le_trans hlo b1.size)).trans d2)
  clear b1 d2
  have e2 : (moreP (moreP l ⟨#[99, 108, 99]⟩ 0 [⟨0, 0, 0, [⟨17, 0, 0, 1⟩]⟩]) ⟨#[115, 101, 99]⟩ 0 [⟨0, 0, 0, [⟨16, 0, 0, 1⟩]⟩]).length = l.length + 2 := (moreP_len _ _ _ _).trans (by omega)
  clear e1
  go_wp2_with (go_at_call 119; refine (flag_std _ _ _ ).mono ?_)
  rintro e w5 ⟨rfl, h5⟩
  have c_x2_w5 := h5
  go_wp2_with (go_at_call 116; refine (quiet_std _ _ _ _ ).mono ?_)
  rintro e w6 ⟨rfl, h6⟩
  have c_x2_w6 := below_step (below_al c_x2_w5 _) h6
  have c_w5_w6 := below_step (below_laid1 _ _) h6
  have s6 := steps_built h6 [⟨17, 0, 0, 4⟩] rfl rfl (Nat.le_of_ble_eq_true rfl)
  go_wp2_with (go_at_call 115; refine (addPlain_std lo g ⟨#[99, 108, 105]⟩ 0 [⟨0, 0, 0, [⟨17, 0, 0, 4⟩]⟩] _ _ _ _ _ (atL_below a2 (below_al c_x2_w6 _)) (Nat.le_trans (Nat.le_trans hlo b2.size) (below_al c_x2_w6 _).size) (by omega) (by simp [okMode]) (own_cycles (w := w6) [(⟨0, 0, 0, [⟨17, 0, 0, 4⟩]⟩, _)] ⟨⟨_, s6⟩, trivial⟩ rfl rfl (Nat.le_of_ble_eq_true rfl))).mono ?_; rintro e x3 ⟨rfl, a3, d3⟩)
  have b3 := b2.trans (((below_al c_x2_w6 _).mono (Nat.le_trans hlo b2.size)).trans d3)
  clear b2 d3
  have e3 : (moreP (moreP (moreP l ⟨#[99, 108, 99]⟩ 0 [⟨0, 0, 0, [⟨17, 0, 0, 1⟩]⟩]) ⟨#[115, 101, 99]⟩ 0 [⟨0, 0, 0, [⟨16, 0, 0, 1⟩]⟩]) ⟨#[99, 108, 105]⟩ 0 [⟨0, 0, 0, [⟨17, 0, 0, 4⟩]⟩]).length = l.length + 3 := (moreP_len _ _ _ _).trans (by omega)
  clear e2
  go_wp2_with (go_at_call 119; refine (flag_std _ _ _ ).mono ?_)
  rintro e w7 ⟨rfl, h7⟩
  have c_x3_w7 := h7
  go_wp2_with (go_at_call 116; refine (quiet_std _ _ _ _ ).mono ?_)
  rintro e w8 ⟨rfl, h8⟩
  have c_x3_w8 := below_step (below_al c_x3_w7 _) h8
  have c_w7_w8 := below_step (below_laid1 _ _) h8
  have s8 := steps_built h8 [⟨16, 0, 0, 4⟩] rfl rfl (Nat.le_of_ble_eq_true rfl)
  go_wp2_with (go_at_call 115; refine (addPlain_std lo g ⟨#[115, 101, 105]⟩ 0 [⟨0, 0, 0, [⟨16, 0, 0, 4⟩]⟩] _ _ _ _ _ (atL_below a3 (below_al c_x3_w8 _)) (Nat.le_trans (Nat.le_trans hlo b3.size) (below_al c_x3_w8 _).size) (by omega) (by simp [okMode]) (own_cycles (w := w8) [(⟨0, 0, 0, [⟨16, 0, 0, 4⟩]⟩, _)] ⟨⟨_, s8⟩, trivial⟩ rfl rfl (Nat.le_of_ble_eq_true rfl))).mono ?_; rintro e x4 ⟨rfl, a4, d4⟩)
  have b4 := b3.trans (((below_al c_x3_w8 _).mono (Nat.le_trans hlo b3.size)).trans d4)
  clear b3 d4
  have e4 : (moreP (moreP (moreP (moreP l ⟨#[99, 108, 99]⟩ 0 [⟨0, 0, 0, [⟨17, 0, 0, 1⟩]⟩]) ⟨#[115, 101, 99]⟩ 0 [⟨0, 0, 0, [⟨16, 0, 0, 1⟩]⟩]) ⟨#[99, 108, 105]⟩ 0 [⟨0, 0, 0, [⟨17, 0, 0, 4⟩]⟩]) ⟨#[115, 101, 105]⟩ 0 [⟨0, 0, 0, [⟨16, 0, 0, 4⟩]⟩]).length = l.length + 4 := (moreP_len _ _ _ _).trans (by omega)
  clear e3
  go_wp2_with (go_at_call 116; refine (quiet_std _ _ _ _ ).mono ?_)
  rintro e w9 ⟨rfl, h9⟩
  have c_x4_w9 := h9
  go_wp2_with (go_at_call 115; refine (addPlain_std lo g ⟨#[110, 111, 112]⟩ 0 [⟨0, 0, 0, []⟩] _ _ _ _ _ (atL_below a4 (below_al c_x4_w9 _)) (Nat.le_trans (Nat.le_trans hlo b4.size) (below_al c_x4_w9 _).size) (by omega) (by simp [okMode]) (own_cycles (w := w9) [(⟨0, 0, 0, []⟩, _)] ⟨⟨_, nil_steps _⟩, trivial⟩ rfl rfl (Nat.le_of_ble_eq_true rfl))).mono ?_; rintro e x5 ⟨rfl, a5, d5⟩)
  have b5 := b4.trans (((below_al c_x4_w9 _).mono (Nat.le_trans hlo b4.size)).trans d5)
  clear b4 d5
  have e5 : (moreP (moreP (moreP (moreP (moreP l ⟨#[99, 108, 99]⟩ 0 [⟨0, 0, 0, [⟨17, 0, 0, 1⟩]⟩]) ⟨#[115, 101, 99]⟩ 0 [⟨0, 0, 0, [⟨16, 0, 0, 1⟩]⟩]) ⟨#[99, 108, 105]⟩ 0 [⟨0, 0, 0, [⟨17, 0, 0, 4⟩]⟩]) ⟨#[115, 101, 105]⟩ 0 [⟨0, 0, 0, [⟨16, 0, 0, 4⟩]⟩]) ⟨#[110, 111, 112]⟩ 0 [⟨0, 0, 0, []⟩]).length = l.length + 5 := (moreP_len _ _ _ _).trans (by omega)
  clear e4
  go_wp2_with fail
  exact bodyPost_end (results_none rfl _ _ _) rfl ⟨rfl, a5, b5⟩
set_option maxHeartbeats 4000000 in
theorem stack_std (lo g : Nat) (w : World) (l : List In) (hL : atL lo g w l) (hlo : lo ≤ w.heap.size) (hlen : l.length + 4 ≤ 200) :
    Calls Try.prog 77 #[.pointer (some ⟨g, 0, none⟩)] w fun e w' => e = .returned (.tuple #[]) ∧ atL lo g w' (stackI l) ∧ Below lo w w' := by
  go_enter Try.func77, Try.ntmps77
  have b0 : Below lo w w := Below.refl _ _
  go_wp2_with (go_at_call 120; refine (write_std _ _ _ _ _ _ ).mono ?_)
  rintro e w1 ⟨rfl, h1⟩
  have c_w_w1 := h1
  go_wp2_with (go_at_call 115; refine (addPlain_std lo g ⟨#[112, 104, 97]⟩ 0 [⟨2, 4, 0, []⟩] _ _ _ _ _ (atL_below hL (below_al c_w_w1 _)) (Nat.le_trans (Nat.le_trans hlo b0.size) (below_al c_w_w1 _).size) (by omega) (by simp [okMode]) (own_cycles (w := w1) [(⟨2, 4, 0, []⟩, _)] ⟨⟨_, nil_steps _⟩, trivial⟩ rfl rfl (Nat.le_of_ble_eq_true rfl))).mono ?_; rintro e x1 ⟨rfl, a1, d1⟩)
  have b1 := b0.trans (((below_al c_w_w1 _).mono (Nat.le_trans hlo b0.size)).trans d1)
  clear b0 d1
  have e1 : (moreP l ⟨#[112, 104, 97]⟩ 0 [⟨2, 4, 0, []⟩]).length = l.length + 1 := (moreP_len _ _ _ _).trans (by omega)
  go_wp2_with (go_at_call 118; refine (on_std _ _ _ ).mono ?_)
  rintro e w2 ⟨rfl, h2⟩
  have c_x1_w2 := h2
  go_wp2_with (go_at_call 121; refine (read_std _ _ _ _ _ _ ).mono ?_)
  rintro e w3 ⟨rfl, h3⟩
  have c_x1_w3 := below_step (below_al c_x1_w2 _) h3
  have c_w2_w3 := below_step (below_laid1 _ _) h3
  have s3 := steps_built h3 [⟨3, 0, 0, 0⟩] rfl rfl (Nat.le_of_ble_eq_true rfl)
  go_wp2_with (go_at_call 115; refine (addPlain_std lo g ⟨#[112, 108, 97]⟩ 0 [⟨1, 5, 0, [⟨3, 0, 0, 0⟩]⟩] _ _ _ _ _ (atL_below a1 (below_al c_x1_w3 _)) (Nat.le_trans (Nat.le_trans hlo b1.size) (below_al c_x1_w3 _).size) (by omega) (by simp [okMode]) (own_cycles (w := w3) [(⟨1, 5, 0, [⟨3, 0, 0, 0⟩]⟩, _)] ⟨⟨_, s3⟩, trivial⟩ rfl rfl (Nat.le_of_ble_eq_true rfl))).mono ?_; rintro e x2 ⟨rfl, a2, d2⟩)
  have b2 := b1.trans (((below_al c_x1_w3 _).mono (Nat.le_trans hlo b1.size)).trans d2)
  clear b1 d2
  have e2 : (moreP (moreP l ⟨#[112, 104, 97]⟩ 0 [⟨2, 4, 0, []⟩]) ⟨#[112, 108, 97]⟩ 0 [⟨1, 5, 0, [⟨3, 0, 0, 0⟩]⟩]).length = l.length + 2 := (moreP_len _ _ _ _).trans (by omega)
  clear e1
  go_wp2_with (go_at_call 120; refine (write_std _ _ _ _ _ _ ).mono ?_)
  rintro e w4 ⟨rfl, h4⟩
  have c_x2_w4 := h4
  go_wp2_with (go_at_call 115; refine (addPlain_std lo g ⟨#[112, 104, 112]⟩ 0 [⟨2, 4, 4, []⟩] _ _ _ _ _ (atL_below a2 (below_al c_x2_w4 _)) (Nat.le_trans (Nat.le_trans hlo b2.size) (below_al c_x2_w4 _).size) (by omega) (by simp [okMode]) (own_cycles (w := w4) [(⟨2, 4, 4, []⟩, _)] ⟨⟨_, nil_steps _⟩, trivial⟩ rfl rfl (Nat.le_of_ble_eq_true rfl))).mono ?_; rintro e x3 ⟨rfl, a3, d3⟩)
  have b3 := b2.trans (((below_al c_x2_w4 _).mono (Nat.le_trans hlo b2.size)).trans d3)
  clear b2 d3
  have e3 : (moreP (moreP (moreP l ⟨#[112, 104, 97]⟩ 0 [⟨2, 4, 0, []⟩]) ⟨#[112, 108, 97]⟩ 0 [⟨1, 5, 0, [⟨3, 0, 0, 0⟩]⟩]) ⟨#[112, 104, 112]⟩ 0 [⟨2, 4, 4, []⟩]).length = l.length + 3 := (moreP_len _ _ _ _).trans (by omega)
  clear e2
  go_wp2_with (go_at_call 121; refine (read_std _ _ _ _ _ _ ).mono ?_)
  rintro e w5 ⟨rfl, h5⟩
  have c_x3_w5 := h5
  go_wp2_with (go_at_call 115; refine (addPlain_std lo g ⟨#[112, 108, 112]⟩ 0 [⟨1, 5, 4, []⟩] _ _ _ _ _ (atL_below a3 (below_al c_x3_w5 _)) (Nat.le_trans (Nat.le_trans hlo b3.size) (below_al c_x3_w5 _).size) (by omega) (by simp [okMode]) (own_cycles (w := w5) [(⟨1, 5, 4, []⟩, _)] ⟨⟨_, nil_steps _⟩, trivial⟩ rfl rfl (Nat.le_of_ble_eq_true rfl))).mono ?_; rintro e x4 ⟨rfl, a4, d4⟩)
  have b4 := b3.trans (((below_al c_x3_w5 _).mono (Nat.le_trans hlo b3.size)).trans d4)
  clear b3 d4
  have e4 : (moreP (moreP (moreP (moreP l ⟨#[112, 104, 97]⟩ 0 [⟨2, 4, 0, []⟩]) ⟨#[112, 108, 97]⟩ 0 [⟨1, 5, 0, [⟨3, 0, 0, 0⟩]⟩]) ⟨#[112, 104, 112]⟩ 0 [⟨2, 4, 4, []⟩]) ⟨#[112, 108, 112]⟩ 0 [⟨1, 5, 4, []⟩]).length = l.length + 4 := (moreP_len _ _ _ _).trans (by omega)
  clear e3
  go_wp2_with fail
  exact bodyPost_end (results_none rfl _ _ _) rfl ⟨rfl, a4, b4⟩
set_option maxHeartbeats 4000000 in
theorem jumps_std (lo g : Nat) (w : World) (l : List In) (hL : atL lo g w l) (hlo : lo ≤ w.heap.size) (hlen : l.length + 4 ≤ 200) :
    Calls Try.prog 78 #[.pointer (some ⟨g, 0, none⟩)] w fun e w' => e = .returned (.tuple #[]) ∧ atL lo g w' (jumpsI l) ∧ Below lo w w' := by
  go_enter Try.func78, Try.ntmps78
  have b0 : Below lo w w := Below.refl _ _
  go_wp2_with (go_at_call 121; refine (read_std _ _ _ _ _ _ ).mono ?_)
  rintro e w1 ⟨rfl, h1⟩
  have c_w_w1 := h1
  go_wp2_with (go_at_call 122; refine (jump_std _ _).mono ?_)
  rintro e w2 ⟨q2, n2, k2, rfl, z2, h2⟩
  have c_w_w2 := below_step c_w_w1 h2
  have c_w1_w2 := h2
  go_wp2_with (go_at_call 121; refine (read_std _ _ _ _ _ _ ).mono ?_)
  rintro e w3 ⟨rfl, h3⟩
  have c_w_w3 := below_step c_w_w2 h3
  have c_w1_w3 := below_step c_w1_w2 h3
  have c_w2_w3 := h3
  go_wp2_with (go_at_call 115; refine (addPlain_std lo g ⟨#[106, 109, 112]⟩ 4 [⟨1, 0, 5, []⟩, ⟨1, 0, 6, jumpS 7⟩] _ _ _ _ _ (atL_below hL (below_al c_w_w3 _)) (Nat.le_trans (Nat.le_trans hlo b0.size) (below_al c_w_w3 _).size) (by omega) (by simp [okMode]) (own_cycles (w := w3) [(⟨1, 0, 5, []⟩, _), (⟨1, 0, 6, jumpS 7⟩, _)] ⟨⟨_, nil_steps _⟩, ⟨_, (stepsO_below z2 c_w2_w3)⟩, trivial⟩ rfl rfl (Nat.le_of_ble_eq_true rfl))).mono ?_; rintro e x1 ⟨rfl, a1, d1⟩)
  have b1 := b0.trans (((below_al c_w_w3 _).mono (Nat.le_trans hlo b0.size)).trans d1)
  clear b0 d1
  have e1 : (moreP l ⟨#[106, 109, 112]⟩ 4 [⟨1, 0, 5, []⟩, ⟨1, 0, 6, jumpS 7⟩]).length = l.length + 1 := (moreP_len _ _ _ _).trans (by omega)
  go_wp2_with (go_at_call 117; refine (with_std _ _ _ _ ).mono ?_)
  rintro e w4 ⟨rfl, h4⟩
  have c_x1_w4 := h4
  go_wp2_with (go_at_call 121; refine (read_std _ _ _ _ _ _ ).mono ?_)
  rintro e w5 ⟨rfl, h5⟩
  have c_x1_w5 := below_step (below_al c_x1_w4 _) h5
  have c_w4_w5 := below_step (below_laid1 _ _) h5
  have s5 := steps_built h5 [⟨18, 8, 5, 0⟩] rfl rfl (Nat.le_of_ble_eq_true rfl)
  go_wp2_with (go_at_call 117; refine (with_std _ _ _ _ ).mono ?_)
  rintro e w6 ⟨rfl, h6⟩
  have c_x1_w6 := below_step c_x1_w5 h6
  have c_w4_w6 := below_step c_w4_w5 h6
  have c_w5_w6 := h6
  go_wp2_with (go_at_call 117; refine (with_std _ _ _ _ ).mono ?_)
  rintro e w7 ⟨rfl, h7⟩
  have c_x1_w7 := below_step c_x1_w6 h7
  have c_w4_w7 := below_step c_w4_w6 h7
  have c_w5_w7 := below_step c_w5_w6 h7
  have c_w6_w7 := h7
  go_wp2_with (go_at_call 121; refine (read_std _ _ _ _ _ _ ).mono ?_)
  rintro e w8 ⟨rfl, h8⟩
  have c_x1_w8 := below_step (below_al c_x1_w7 _) h8
  have c_w4_w8 := below_step (below_al c_w4_w7 _) h8
  have c_w5_w8 := below_step (below_al c_w5_w7 _) h8
  have c_w6_w8 := below_step (below_al c_w6_w7 _) h8
  have c_w7_w8 := below_step (below_laid1 _ _) h8
  have s8 := steps_built h8 [⟨19, 8, 5, 0⟩, ⟨21, 5, 7, 0⟩] rfl rfl (Nat.le_of_ble_eq_true rfl)
  go_wp2_with (go_at_call 117; refine (with_std _ _ _ _ ).mono ?_)
  rintro e w9 ⟨rfl, h9⟩
  have c_x1_w9 := below_step c_x1_w8 h9
  have c_w4_w9 := below_step c_w4_w8 h9
  have c_w5_w9 := below_step c_w5_w8 h9
  have c_w6_w9 := below_step c_w6_w8 h9
  have c_w7_w9 := below_step c_w7_w8 h9
  have c_w8_w9 := h9
  go_wp2_with (go_at_call 120; refine (write_std _ _ _ _ _ _ ).mono ?_)
  rintro e w10 ⟨rfl, h10⟩
  have c_x1_w10 := below_step (below_al c_x1_w9 _) h10
  have c_w4_w10 := below_step (below_al c_w4_w9 _) h10
  have c_w5_w10 := below_step (below_al c_w5_w9 _) h10
  have c_w6_w10 := below_step (below_al c_w6_w9 _) h10
  have c_w7_w10 := below_step (below_al c_w7_w9 _) h10
  have c_w8_w10 := below_step (below_al c_w8_w9 _) h10
  have c_w9_w10 := below_step (below_laid1 _ _) h10
  have s10 := steps_built h10 [⟨20, 5, 7, 0⟩] rfl rfl (Nat.le_of_ble_eq_true rfl)
  go_wp2_with (go_at_call 117; refine (with_std _ _ _ _ ).mono ?_)
  rintro e w11 ⟨rfl, h11⟩
  have c_x1_w11 := below_step c_x1_w10 h11
  have c_w4_w11 := below_step c_w4_w10 h11
  have c_w5_w11 := below_step c_w5_w10 h11
  have c_w6_w11 := below_step c_w6_w10 h11
  have c_w7_w11 := below_step c_w7_w10 h11
  have c_w8_w11 := below_step c_w8_w10 h11
  have c_w9_w11 := below_step c_w9_w10 h11
  have c_w10_w11 := h11
  go_wp2_with (go_at_call 120; refine (write_std _ _ _ _ _ _ ).mono ?_)
  rintro e w12 ⟨rfl, h12⟩
  have c_x1_w12 := below_step (below_al c_x1_w11 _) h12
  have c_w4_w12 := below_step (below_al c_w4_w11 _) h12
  have c_w5_w12 := below_step (below_al c_w5_w11 _) h12
  have c_w6_w12 := below_step (below_al c_w6_w11 _) h12
  have c_w7_w12 := below_step (below_al c_w7_w11 _) h12
  have c_w8_w12 := below_step (below_al c_w8_w11 _) h12
  have c_w9_w12 := below_step (below_al c_w9_w11 _) h12
  have c_w10_w12 := below_step (below_al c_w10_w11 _) h12
  have c_w11_w12 := below_step (below_laid1 _ _) h12
  have s12 := steps_built h12 [⟨1, 7, 8, 0⟩] rfl rfl (Nat.le_of_ble_eq_true rfl)
  go_wp2_with (go_at_call 115; refine (addPlain_std lo g ⟨#[106, 115, 114]⟩ 4 [⟨1, 0, 5, [⟨18, 8, 5, 0⟩]⟩, ⟨1, 0, 5, [⟨19, 8, 5, 0⟩, ⟨21, 5, 7, 0⟩]⟩, ⟨2, 4, 5, [⟨20, 5, 7, 0⟩]⟩, ⟨2, 4, 5, [⟨1, 7, 8, 0⟩]⟩] _ _ _ _ _ (atL_below a1 (below_al c_x1_w12 _)) (Nat.le_trans (Nat.le_trans hlo b1.size) (below_al c_x1_w12 _).size) (by omega) (by simp [okMode]) (own_cycles (w := w12) [(⟨1, 0, 5, [⟨18, 8, 5, 0⟩]⟩, _), (⟨1, 0, 5, [⟨19, 8, 5, 0⟩, ⟨21, 5, 7, 0⟩]⟩, _), (⟨2, 4, 5, [⟨20, 5, 7, 0⟩]⟩, _), (⟨2, 4, 5, [⟨1, 7, 8, 0⟩]⟩, _)] ⟨⟨_, (stepsO_below s5 c_w5_w12)⟩, ⟨_, (stepsO_below s8 c_w8_w12)⟩, ⟨_, (stepsO_below s10 c_w10_w12)⟩, ⟨_, s12⟩, trivial⟩ rfl rfl (Nat.le_of_ble_eq_true rfl))).mono ?_; rintro e x2 ⟨rfl, a2, d2⟩)
  have b2 := b1.trans (((below_al c_x1_w12 _).mono (Nat.le_trans hlo b1.size)).trans d2)
  clear b1 d2
  have e2 : (moreP (moreP l ⟨#[106, 109, 112]⟩ 4 [⟨1, 0, 5, []⟩, ⟨1, 0, 6, jumpS 7⟩]) ⟨#[106, 115, 114]⟩ 4 [⟨1, 0, 5, [⟨18, 8, 5, 0⟩]⟩, ⟨1, 0, 5, [⟨19, 8, 5, 0⟩, ⟨21, 5, 7, 0⟩]⟩, ⟨2, 4, 5, [⟨20, 5, 7, 0⟩]⟩, ⟨2, 4, 5, [⟨1, 7, 8, 0⟩]⟩]).length = l.length + 2 := (moreP_len _ _ _ _).trans (by omega)
  clear e1
  go_wp2_with (go_at_call 121; refine (read_std _ _ _ _ _ _ ).mono ?_)
  rintro e w13 ⟨rfl, h13⟩
  have c_x2_w13 := h13
  go_wp2_with (go_at_call 122; refine (jump_std _ _).mono ?_)
  rintro e w14 ⟨q14, n14, k14, rfl, z14, h14⟩
  have c_x2_w14 := below_step c_x2_w13 h14
  have c_w13_w14 := h14
  go_wp2_with (go_at_call 121; refine (read_std _ _ _ _ _ _ ).mono ?_)
  rintro e w15 ⟨rfl, h15⟩
  have c_x2_w15 := below_step c_x2_w14 h15
  have c_w13_w15 := below_step c_w13_w14 h15
  have c_w14_w15 := h15
  go_wp2_with (go_at_call 115; refine (addPlain_std lo g ⟨#[114, 116, 115]⟩ 0 [⟨1, 5, 5, []⟩, ⟨1, 5, 6, jumpS 7⟩] _ _ _ _ _ (atL_below a2 (below_al c_x2_w15 _)) (Nat.le_trans (Nat.le_trans hlo b2.size) (below_al c_x2_w15 _).size) (by omega) (by simp [okMode]) (own_cycles (w := w15) [(⟨1, 5, 5, []⟩, _), (⟨1, 5, 6, jumpS 7⟩, _)] ⟨⟨_, nil_steps _⟩, ⟨_, (stepsO_below z14 c_w14_w15)⟩, trivial⟩ rfl rfl (Nat.le_of_ble_eq_true rfl))).mono ?_; rintro e x3 ⟨rfl, a3, d3⟩)
  have b3 := b2.trans (((below_al c_x2_w15 _).mono (Nat.le_trans hlo b2.size)).trans d3)
  clear b2 d3
  have e3 : (moreP (moreP (moreP l ⟨#[106, 109, 112]⟩ 4 [⟨1, 0, 5, []⟩, ⟨1, 0, 6, jumpS 7⟩]) ⟨#[106, 115, 114]⟩ 4 [⟨1, 0, 5, [⟨18, 8, 5, 0⟩]⟩, ⟨1, 0, 5, [⟨19, 8, 5, 0⟩, ⟨21, 5, 7, 0⟩]⟩, ⟨2, 4, 5, [⟨20, 5, 7, 0⟩]⟩, ⟨2, 4, 5, [⟨1, 7, 8, 0⟩]⟩]) ⟨#[114, 116, 115]⟩ 0 [⟨1, 5, 5, []⟩, ⟨1, 5, 6, jumpS 7⟩]).length = l.length + 3 := (moreP_len _ _ _ _).trans (by omega)
  clear e2
  go_wp2_with (go_at_call 121; refine (read_std _ _ _ _ _ _ ).mono ?_)
  rintro e w16 ⟨rfl, h16⟩
  have c_x3_w16 := h16
  go_wp2_with (go_at_call 121; refine (read_std _ _ _ _ _ _ ).mono ?_)
  rintro e w17 ⟨rfl, h17⟩
  have c_x3_w17 := below_step c_x3_w16 h17
  have c_w16_w17 := h17
  go_wp2_with (go_at_call 122; refine (jump_std _ _).mono ?_)
  rintro e w18 ⟨q18, n18, k18, rfl, z18, h18⟩
  have c_x3_w18 := below_step c_x3_w17 h18
  have c_w16_w18 := below_step c_w16_w17 h18
  have c_w17_w18 := h18
  go_wp2_with (go_at_call 121; refine (read_std _ _ _ _ _ _ ).mono ?_)
  rintro e w19 ⟨rfl, h19⟩
  have c_x3_w19 := below_step c_x3_w18 h19
  have c_w16_w19 := below_step c_w16_w18 h19
  have c_w17_w19 := below_step c_w17_w18 h19
  have c_w18_w19 := h19
  go_wp2_with (go_at_call 115; refine (addPlain_std lo g ⟨#[114, 116, 105]⟩ 0 [⟨1, 5, 4, []⟩, ⟨1, 5, 5, []⟩, ⟨1, 5, 6, jumpS 7⟩] _ _ _ _ _ (atL_below a3 (below_al c_x3_w19 _)) (Nat.le_trans (Nat.le_trans hlo b3.size) (below_al c_x3_w19 _).size) (by omega) (by simp [okMode]) (own_cycles (w := w19) [(⟨1, 5, 4, []⟩, _), (⟨1, 5, 5, []⟩, _), (⟨1, 5, 6, jumpS 7⟩, _)] ⟨⟨_, nil_steps _⟩, ⟨_, nil_steps _⟩, ⟨_, (stepsO_below z18 c_w18_w19)⟩, trivial⟩ rfl rfl (Nat.le_of_ble_eq_true rfl))).mono ?_; rintro e x4 ⟨rfl, a4, d4⟩)
  have b4 := b3.trans (((below_al c_x3_w19 _).mono (Nat.le_trans hlo b3.size)).trans d4)
  clear b3 d4
  have e4 : (moreP (moreP (moreP (moreP l ⟨#[106, 109, 112]⟩ 4 [⟨1, 0, 5, []⟩, ⟨1, 0, 6, jumpS 7⟩]) ⟨#[106, 115, 114]⟩ 4 [⟨1, 0, 5, [⟨18, 8, 5, 0⟩]⟩, ⟨1, 0, 5, [⟨19, 8, 5, 0⟩, ⟨21, 5, 7, 0⟩]⟩, ⟨2, 4, 5, [⟨20, 5, 7, 0⟩]⟩, ⟨2, 4, 5, [⟨1, 7, 8, 0⟩]⟩]) ⟨#[114, 116, 115]⟩ 0 [⟨1, 5, 5, []⟩, ⟨1, 5, 6, jumpS 7⟩]) ⟨#[114, 116, 105]⟩ 0 [⟨1, 5, 4, []⟩, ⟨1, 5, 5, []⟩, ⟨1, 5, 6, jumpS 7⟩]).length = l.length + 4 := (moreP_len _ _ _ _).trans (by omega)
  clear e3
  go_wp2_with fail
  exact bodyPost_end (results_none rfl _ _ _) rfl ⟨rfl, a4, b4⟩
set_option maxHeartbeats 4000000 in
theorem branch_std (lo g : Nat) (name : ByteArray) (v f : Int) (w : World) (l : List In) (hL : atL lo g w l) (hlo : lo ≤ w.heap.size) (hlen : l.length + 1 ≤ 200) :
    Calls Try.prog 123 #[.pointer (some ⟨g, 0, none⟩), .string name, .int .i64 v, .int .i64 f] w fun e w' => e = .returned (.tuple #[]) ∧ atL lo g w' (branchI l name v f) ∧ Below lo w w' := by
  go_enter Try.func123, Try.ntmps123
  have b0 : Below lo w w := Below.refl _ _
  go_wp2_with (go_at_call 121; refine (read_std _ _ _ _ _ _ ).mono ?_)
  rintro e w1 ⟨rfl, h1⟩
  have c_w_w1 := below_step (below_laid1 _ _) h1
  have s1 := steps_built h1 [⟨24, 0, v, f⟩] rfl rfl (Nat.le_of_ble_eq_true rfl)
  go_wp2_with (go_at_call 117; refine (with_std _ _ _ _ ).mono ?_)
  rintro e w2 ⟨rfl, h2⟩
  have c_w_w2 := below_step c_w_w1 h2
  have c_w1_w2 := h2
  go_wp2_with (go_at_call 116; refine (quiet_std _ _ _ _ ).mono ?_)
  rintro e w3 ⟨rfl, h3⟩
  have c_w_w3 := below_step (below_al c_w_w2 _) h3
  have c_w1_w3 := below_step (below_al c_w1_w2 _) h3
  have c_w2_w3 := below_step (below_laid1 _ _) h3
  have s3 := steps_built h3 [⟨23, 7, 5, 0⟩] rfl rfl (Nat.le_of_ble_eq_true rfl)
  go_wp2_with (go_at_call 115; refine (addPlain_std lo g name 7 [⟨1, 0, 5, [⟨24, 0, v, f⟩]⟩, ⟨0, 0, 0, [⟨23, 7, 5, 0⟩]⟩] _ _ _ _ _ (atL_below hL (below_al c_w_w3 _)) (Nat.le_trans (Nat.le_trans hlo b0.size) (below_al c_w_w3 _).size) (by omega) (by simp [okMode]) (own_cycles (w := w3) [(⟨1, 0, 5, [⟨24, 0, v, f⟩]⟩, _), (⟨0, 0, 0, [⟨23, 7, 5, 0⟩]⟩, _)] ⟨⟨_, (stepsO_below s1 c_w1_w3)⟩, ⟨_, s3⟩, trivial⟩ rfl rfl (Nat.le_of_ble_eq_true rfl))).mono ?_; rintro e x1 ⟨rfl, a1, d1⟩)
  have b1 := b0.trans (((below_al c_w_w3 _).mono (Nat.le_trans hlo b0.size)).trans d1)
  clear b0 d1
  have e1 : (moreP l name 7 [⟨1, 0, 5, [⟨24, 0, v, f⟩]⟩, ⟨0, 0, 0, [⟨23, 7, 5, 0⟩]⟩]).length = l.length + 1 := (moreP_len _ _ _ _).trans (by omega)
  go_wp2_with fail
  exact bodyPost_end (results_none rfl _ _ _) rfl ⟨rfl, a1, b1⟩
set_option maxHeartbeats 4000000 in
theorem branches_std (lo g : Nat) (w : World) (l : List In) (hL : atL lo g w l) (hlo : lo ≤ w.heap.size) (hlen : l.length + 6 ≤ 200) :
    Calls Try.prog 79 #[.pointer (some ⟨g, 0, none⟩)] w fun e w' => e = .returned (.tuple #[]) ∧ atL lo g w' (branchesI l) ∧ Below lo w w' := by
  go_enter Try.func79, Try.ntmps79
  have b0 : Below lo w w := Below.refl _ _
  go_wp2_with (go_at_call 123; refine (branch_std lo g ⟨#[98, 101, 113]⟩ 1 2 w _ hL (Nat.le_trans hlo b0.size) (by omega)).mono ?_)
  rintro e x1 ⟨rfl, a1, d1⟩
  have b1 := b0.trans d1
  clear b0 d1
  have e1 : (branchI l ⟨#[98, 101, 113]⟩ 1 2).length = l.length + 1 := (moreP_len _ _ _ _).trans (by omega)
  go_wp2_with (go_at_call 123; refine (branch_std lo g ⟨#[98, 110, 101]⟩ 0 2 x1 _ a1 (Nat.le_trans hlo b1.size) (by omega)).mono ?_)
  rintro e x2 ⟨rfl, a2, d2⟩
  have b2 := b1.trans d2
  clear b1 d2
  have e2 : (branchI (branchI l ⟨#[98, 101, 113]⟩ 1 2) ⟨#[98, 110, 101]⟩ 0 2).length = l.length + 2 := (moreP_len _ _ _ _).trans (by omega)
  clear e1
  go_wp2_with (go_at_call 123; refine (branch_std lo g ⟨#[98, 99, 115]⟩ 1 1 x2 _ a2 (Nat.le_trans hlo b2.size) (by omega)).mono ?_)
  rintro e x3 ⟨rfl, a3, d3⟩
  have b3 := b2.trans d3
  clear b2 d3
  have e3 : (branchI (branchI (branchI l ⟨#[98, 101, 113]⟩ 1 2) ⟨#[98, 110, 101]⟩ 0 2) ⟨#[98, 99, 115]⟩ 1 1).length = l.length + 3 := (moreP_len _ _ _ _).trans (by omega)
  clear e2
  go_wp2_with (go_at_call 123; refine (branch_std lo g ⟨#[98, 99, 99]⟩ 0 1 x3 _ a3 (Nat.le_trans hlo b3.size) (by omega)).mono ?_)
  rintro e x4 ⟨rfl, a4, d4⟩
  have b4 := b3.trans d4
  clear b3 d4
  have e4 : (branchI (branchI (branchI (branchI l ⟨#[98, 101, 113]⟩ 1 2) ⟨#[98, 110, 101]⟩ 0 2) ⟨#[98, 99, 115]⟩ 1 1) ⟨#[98, 99, 99]⟩ 0 1).length = l.length + 4 := (moreP_len _ _ _ _).trans (by omega)
  clear e3
  go_wp2_with (go_at_call 123; refine (branch_std lo g ⟨#[98, 109, 105]⟩ 1 128 x4 _ a4 (Nat.le_trans hlo b4.size) (by omega)).mono ?_)
  rintro e x5 ⟨rfl, a5, d5⟩
  have b5 := b4.trans d5
  clear b4 d5
  have e5 : (branchI (branchI (branchI (branchI (branchI l ⟨#[98, 101, 113]⟩ 1 2) ⟨#[98, 110, 101]⟩ 0 2) ⟨#[98, 99, 115]⟩ 1 1) ⟨#[98, 99, 99]⟩ 0 1) ⟨#[98, 109, 105]⟩ 1 128).length = l.length + 5 := (moreP_len _ _ _ _).trans (by omega)
  clear e4
  go_wp2_with (go_at_call 123; refine (branch_std lo g ⟨#[98, 112, 108]⟩ 0 128 x5 _ a5 (Nat.le_trans hlo b5.size) (by omega)).mono ?_)
  rintro e x6 ⟨rfl, a6, d6⟩
  have b6 := b5.trans d6
  clear b5 d6
  have e6 : (branchI (branchI (branchI (branchI (branchI (branchI l ⟨#[98, 101, 113]⟩ 1 2) ⟨#[98, 110, 101]⟩ 0 2) ⟨#[98, 99, 115]⟩ 1 1) ⟨#[98, 99, 99]⟩ 0 1) ⟨#[98, 109, 105]⟩ 1 128) ⟨#[98, 112, 108]⟩ 0 128).length = l.length + 6 := (moreP_len _ _ _ _).trans (by omega)
  clear e5
  go_wp2_with fail
  exact bodyPost_end (results_none rfl _ _ _) rfl ⟨rfl, a6, b6⟩
end Go.Proofs.Ytdiajkgebicnnaa
