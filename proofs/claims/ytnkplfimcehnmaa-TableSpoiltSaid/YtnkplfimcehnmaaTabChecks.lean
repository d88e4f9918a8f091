/- The walk of the law TableChecks. -/
import Derived.Test.YtnkplfimcehnmaaTabOurs
import Derived.Deep.RegionHeld3
namespace Go.Proofs.Ytnkplfimcehnmaa
open Go.RowKit

theorem check_bare (s : ByteArray) (w : World) (h : s.size ≤ 9223372036854775807) :
    Calls Try.prog 10 #[.agg #[.string s, .slice none 0 0, .slice none 0 0, .slice none 0 0, .slice none 0 0]] w fun e w' => e = .returned (.int .i64 (cpuE ⟨s, [], [], [], []⟩)) ∧ Below w.heap.size w w' :=
  check_any ⟨s, [], [], [], []⟩ _ _ _ _ w (cpuArg_bare w s h)

theorem tables_law (w : World) :
    Calls Try.prog 15 #[] w fun e w' => e = .returned (.bool true) ∧ Below w.heap.size w w' := by
  have e1 : operand 4 = 2 := by decide
  have e2 : cpuE ⟨⟨#[]⟩, [], [], [], []⟩ = 15 := by decide +kernel
  have e3 : cpuE ⟨⟨#[97]⟩, [], [], [], []⟩ = 0 := by decide +kernel
  have z1 : (⟨#[]⟩ : ByteArray).size ≤ 9223372036854775807 := by decide
  have z2 : (⟨#[97]⟩ : ByteArray).size ≤ 9223372036854775807 := by decide
  go_enter Try.func15, Try.ntmps15
  go_wp2_with (first
    | (go_at_call 14; refine (size_any _ _).mono ?_; rintro e w1 ⟨rfl, hb1⟩; rw [e1])
    | (go_at_call 10; with_reducible refine (check_bare ⟨#[]⟩ _ z1).mono ?_; rintro e w2 ⟨rfl, hb2⟩; rw [e2])
    | (go_at_call 10; with_reducible refine (check_bare ⟨#[97]⟩ _ z2).mono ?_; rintro e w3 ⟨rfl, hb3⟩; rw [e3]))
  go_ret
  exact ⟨rfl, hb1.trans ((hb2.mono hb1.size).trans (hb3.mono (Nat.le_trans hb1.size hb2.size)))⟩

theorem tableChecks_walk (s : ByteArray) (c : Cp) (v0 v1 v2 v3 : Value) (w : World) (hs : s.size ≤ 9223372036854775807) (h : cpuArg w v0 v1 v2 v3 c) :
    Calls Try.prog 4 #[.string s, .agg #[.string c.name, v0, v1, v2, v3]] w fun e w' => e = .returned (.bool true) ∧ Below w.heap.size w w' := by
  have h' := cpuArg_alloc h (.cells #[.string c.name, v0, v1, v2, v3] 26)
  obtain ⟨N, hN⟩ : ∃ N, nameB s = N := ⟨_, rfl⟩
  obtain ⟨E, hE⟩ : ∃ E, cpuE c = E := ⟨_, rfl⟩
  go_enter Try.func4, Try.ntmps4
  go_wp2_with fail
  go_region_held3 (fun w' => w'.cell? ⟨w.heap.size, 0, none⟩ = some (.string c.name) ∧ w'.cell? ⟨w.heap.size, 1, none⟩ = some v0 ∧ w'.cell? ⟨w.heap.size, 2, none⟩ = some v1 ∧ w'.cell? ⟨w.heap.size, 3, none⟩ = some v2 ∧ w'.cell? ⟨w.heap.size, 4, none⟩ = some v3 ∧
      Below (w.alloc (.cells #[.string c.name, v0, v1, v2, v3] 26)).heap.size (w.alloc (.cells #[.string c.name, v0, v1, v2, v3] 26)) w')
    (first | exact box_keep rfl (by assumption) | exact box_keep rfl (Below.refl _ _) | exact box_keep rfl (Below.drew (Below.refl _ _)) | exact box_keep rfl (Below.drew (by assumption)))
    (first
      | (go_at_call 15; refine (tables_law _).mono ?_; rintro e w1 ⟨rfl, hb1⟩; have B1 : Below (w.alloc (.cells #[.string c.name, v0, v1, v2, v3] 26)).heap.size (w.alloc (.cells #[.string c.name, v0, v1, v2, v3] 26)) w1 := below_next (by first | assumption | exact Below.refl _ _ | exact (Below.refl _ _).drew) hb1)
      | (go_at_call 16; refine (name_any _ _ hs).mono ?_; rintro e w2 ⟨rfl, hb2⟩; rw [hN]; have B2 : Below (w.alloc (.cells #[.string c.name, v0, v1, v2, v3] 26)).heap.size (w.alloc (.cells #[.string c.name, v0, v1, v2, v3] 26)) w2 := below_next (by first | assumption | exact Below.refl _ _ | exact (Below.refl _ _).drew) hb2)
      | (go_at_call 17; refine (named_any _ _ hs).mono ?_; rintro e w' ⟨rfl, rfl⟩; rw [hN])
      | (go_at_call 10; refine (check_any c v0 v1 v2 v3 _ (cpuArg_below h' (by first | assumption | exact Below.refl _ _ | exact (Below.refl _ _).drew) (Nat.le_refl _))).mono ?_; rintro e w3 ⟨rfl, hb3⟩; rw [hE]; have B3 : Below (w.alloc (.cells #[.string c.name, v0, v1, v2, v3] 26)).heap.size (w.alloc (.cells #[.string c.name, v0, v1, v2, v3] 26)) w3 := below_next (by first | assumption | exact Below.refl _ _ | exact (Below.refl _ _).drew) hb3)
      | (go_at_call 18; refine (cpuErr_arg c v0 v1 v2 v3 _ (cpuArg_below h' (by first | assumption | exact Below.refl _ _ | exact (Below.refl _ _).drew) (Nat.le_refl _))).mono ?_; rintro e w4 ⟨rfl, hb4⟩; rw [hE]; have B4 : Below (w.alloc (.cells #[.string c.name, v0, v1, v2, v3] 26)).heap.size (w.alloc (.cells #[.string c.name, v0, v1, v2, v3] 26)) w4 := below_next (by first | assumption | exact Below.refl _ _ | exact (Below.refl _ _).drew) hb4))
  go_wp2_with fail
  go_ret
  exact ⟨rfl, ((Below.refl _ w).alloc (Nat.le_refl _) _).trans (B4.mono (by simp))⟩
end Go.Proofs.Ytnkplfimcehnmaa
