/- The reference's list of instructions: its walk. -/
import Derived.Test.YtbgjnegojoaimaaGreatDoorStdTextL
namespace Go.Proofs.YtbgjnegojoaimaaGreatDoor
open Go.RowKit
set_option maxRecDepth 100000

set_option maxHeartbeats 20000000 in
theorem stdText_any (w : World) (hlib : libW w) (hlw : 2 < w.heap.size ∧ 0 < w.heap.size) :
    Calls Tryz.prog 5 #[] w fun e w' => ∃ a n c, e = .returned (.slice a n c) ∧ strsO w.heap.size w' (.slice a n c) txL54 ∧ Below w.heap.size w w' := by
  have c25 : (⟨#[114, 80, 84, 40, 48, 68, 44, 108, 68, 84, 41]⟩ : ByteArray) ++ ⟨#[32]⟩ = ⟨#[114, 80, 84, 40, 48, 68, 44, 108, 68, 84, 41, 32]⟩ := by kernel_rfl
  have c27 : (⟨#[114, 80, 84, 40, 108, 68, 84, 41]⟩ : ByteArray) ++ ⟨#[32]⟩ = ⟨#[114, 80, 84, 40, 108, 68, 84, 41, 32]⟩ := by kernel_rfl
  have c29 : (⟨#[114, 80, 84, 40, 108, 68, 84, 41, 32]⟩ : ByteArray) ++ ⟨#[114, 80, 84, 40, 104, 68, 84, 41]⟩ = ⟨#[114, 80, 84, 40, 108, 68, 84, 41, 32, 114, 80, 84, 40, 104, 68, 84, 41]⟩ := by kernel_rfl
  have c30 : (⟨#[114, 80, 84, 40, 108, 68, 84, 41, 32, 114, 80, 84, 40, 104, 68, 84, 41]⟩ : ByteArray) ++ ⟨#[32]⟩ = ⟨#[114, 80, 84, 40, 108, 68, 84, 41, 32, 114, 80, 84, 40, 104, 68, 84, 41, 32]⟩ := by kernel_rfl
  have c35 : (⟨#[114, 80, 84, 40, 108, 68, 84, 41, 32, 114, 80, 84, 40, 104, 68, 84, 41]⟩ : ByteArray) ++ ⟨#[32, 45, 40, 105, 68, 88, 41, 32]⟩ = ⟨#[114, 80, 84, 40, 108, 68, 84, 41, 32, 114, 80, 84, 40, 104, 68, 84, 41, 32, 45, 40, 105, 68, 88, 41, 32]⟩ := by kernel_rfl
  have c40 : (⟨#[114, 80, 84, 40, 108, 68, 84, 41, 32, 114, 80, 84, 40, 104, 68, 84, 41]⟩ : ByteArray) ++ ⟨#[32, 45, 40, 105, 68, 89, 41, 32]⟩ = ⟨#[114, 80, 84, 40, 108, 68, 84, 41, 32, 114, 80, 84, 40, 104, 68, 84, 41, 32, 45, 40, 105, 68, 89, 41, 32]⟩ := by kernel_rfl
  have c42 : (⟨#[114, 80, 84, 40, 48, 68, 44, 108, 68, 84, 41]⟩ : ByteArray) ++ ⟨#[32, 114, 65, 84, 32, 114, 78, 85, 40, 108, 68, 84, 44, 104, 68, 85, 44, 105, 68, 89, 41, 32]⟩ = ⟨#[114, 80, 84, 40, 48, 68, 44, 108, 68, 84, 41, 32, 114, 65, 84, 32, 114, 78, 85, 40, 108, 68, 84, 44, 104, 68, 85, 44, 105, 68, 89, 41, 32]⟩ := by kernel_rfl
  have b1 := below_one w (.cells ⟨leads9.map Value.string⟩ 9)
  have b2 := below_al b1 (.cells #[.slice (some ⟨w.heap.size, 0, none⟩) 9 9] 27)
  have b3 := below_al b2 (.cells #[.slice none 0 0] 27)
  have lb0 := libW_below hlib b3
  have bl0 := rowB_alloc (rowB_alloc (rowB_new w 9 ⟨leads9.map Value.string⟩) (.cells #[.slice (some ⟨w.heap.size, 0, none⟩) 9 9] 27)) (.cells #[.slice none 0 0] 27)
  have gl0 := rowB_alloc (rowB_new (w.alloc (.cells ⟨leads9.map Value.string⟩ 9)) 27 #[.slice (some ⟨w.heap.size, 0, none⟩) 9 9]) (.cells #[.slice none 0 0] 27)
  have g0 := rowB_new ((w.alloc (.cells ⟨leads9.map Value.string⟩ 9)).alloc (.cells #[.slice (some ⟨w.heap.size, 0, none⟩) 9 9] 27)) 27 #[.slice none 0 0]
  rw [World.size_alloc] at gl0
  rw [World.size_alloc, World.size_alloc] at g0
  have a0 : atT (w.heap.size + 2) (w.heap.size + 1 + 1) _ [] := ⟨Nat.le_refl _, none, 0, 0, g0, ownArr_nil _ _ _ _ _⟩
  have k0 : w.heap.size + 2 ≤ (((w.alloc (.cells ⟨leads9.map Value.string⟩ 9)).alloc (.cells #[.slice (some ⟨w.heap.size, 0, none⟩) 9 9] 27)).alloc (.cells #[.slice none 0 0] 27)).heap.size := by simp
  clear g0 b1 b2 hlib
  go_enter Tryz.func5, Tryz.ntmps5
  go_upto_region 7 with (fail)
  change Code.wp _ _ _ _ (((w.alloc (.cells ⟨leads9.map Value.string⟩ 9)).alloc (.cells #[.slice (some ⟨w.heap.size, 0, none⟩) 9 9] 27)).alloc (.cells #[.slice none 0 0] 27))
  generalize ((w.alloc (.cells ⟨leads9.map Value.string⟩ 9)).alloc (.cells #[.slice (some ⟨w.heap.size, 0, none⟩) 9 9] 27)).alloc (.cells #[.slice none 0 0] 27) = x0 at *
  clear c25 c27 c29 c30 c35 c40 c42
  have d0 : Below (w.heap.size + 2) x0 x0 := Below.refl _ _
  go_wp2_with (go_at_call 23; refine (read_txt _ _).mono ?_)
  rintro e y ⟨rfl, rfl⟩
  go_wp2_with (go_at_call 22; refine (addT_read _ _ _ _ ⟨#[108, 100, 97]⟩ ⟨#[109, 65, 84, 44, 122, 65]⟩ [1, 2, 3, 4, 5, 6, 8] x0 [] a0 (Nat.le_trans k0 d0.size) (by decide) (by decide) (by decide) (by decide) gl0 bl0 (by omega) (by omega)).mono ?_)
  rintro e x1 ⟨rfl, a1, f1, p1⟩
  have d1 := d0.trans f1
  have gl1 := rowB_below gl0 f1 (by omega)
  have bl1 := rowB_below bl0 f1 (by omega)
  have lb1 := libW_low lb0 f1 (by omega)
  clear p1
  clear a0 d0 gl0 bl0 lb0 f1
  go_wp2_with (go_at_call 23; refine (read_txt _ _).mono ?_)
  rintro e y ⟨rfl, rfl⟩
  go_wp2_with (go_at_call 22; refine (addT_read _ _ _ _ ⟨#[108, 100, 120]⟩ ⟨#[109, 88, 84, 44, 122, 88]⟩ [1, 2, 4] x1 txL1 a1 (Nat.le_trans k0 d1.size) (by rw [txL1_len]; decide) (by decide) (by decide) (by decide) gl1 bl1 (by omega) (by omega)).mono ?_)
  rintro e x2 ⟨rfl, a2, f2, p2⟩
  have d2 := d1.trans f2
  have gl2 := rowB_below gl1 f2 (by omega)
  have bl2 := rowB_below bl1 f2 (by omega)
  have lb2 := libW_low lb1 f2 (by omega)
  clear p2
  clear a1 d1 gl1 bl1 lb1 f2
  go_wp2_with (go_at_call 23; refine (read_txt _ _).mono ?_)
  rintro e y ⟨rfl, rfl⟩
  go_wp2_with (go_at_call 22; refine (addT_read _ _ _ _ ⟨#[108, 100, 121]⟩ ⟨#[109, 89, 84, 44, 122, 89]⟩ [1, 2, 4] x2 txL2 a2 (Nat.le_trans k0 d2.size) (by rw [txL2_len]; decide) (by decide) (by decide) (by decide) gl2 bl2 (by omega) (by omega)).mono ?_)
  rintro e x3 ⟨rfl, a3, f3, p3⟩
  have d3 := d2.trans f3
  have gl3 := rowB_below gl2 f3 (by omega)
  have bl3 := rowB_below bl2 f3 (by omega)
  have lb3 := libW_low lb2 f3 (by omega)
  clear p3
  clear a2 d2 gl2 bl2 lb2 f3
  go_wp2_with (go_at_call 26; refine (fix_txt _ _).mono ?_)
  rintro e y ⟨rfl, rfl⟩
  go_wp2_with (go_at_call 22; refine (addT_fix _ _ _ _ ⟨#[115, 116, 97]⟩ ⟨#[119, 65, 65]⟩ [2, 3, 4, 5, 6, 8] x3 txL3 a3 (Nat.le_trans k0 d3.size) (by rw [txL3_len]; decide) (by decide) (by decide) (by decide) gl3 bl3 (by omega) (by omega)).mono ?_)
  rintro e x4 ⟨rfl, a4, f4, p4⟩
  have d4 := d3.trans f4
  have gl4 := rowB_below gl3 f4 (by omega)
  have bl4 := rowB_below bl3 f4 (by omega)
  have lb4 := libW_low lb3 f4 (by omega)
  clear p4
  clear a3 d3 gl3 bl3 lb3 f4
  go_wp2_with (go_at_call 26; refine (fix_txt _ _).mono ?_)
  rintro e y ⟨rfl, rfl⟩
  go_wp2_with (go_at_call 22; refine (addT_fix _ _ _ _ ⟨#[115, 116, 120]⟩ ⟨#[119, 65, 88]⟩ [2, 4] x4 txL4 a4 (Nat.le_trans k0 d4.size) (by rw [txL4_len]; decide) (by decide) (by decide) (by decide) gl4 bl4 (by omega) (by omega)).mono ?_)
  rintro e x5 ⟨rfl, a5, f5, p5⟩
  have d5 := d4.trans f5
  have gl5 := rowB_below gl4 f5 (by omega)
  have bl5 := rowB_below bl4 f5 (by omega)
  have lb5 := libW_low lb4 f5 (by omega)
  clear p5
  clear a4 d4 gl4 bl4 lb4 f5
  go_wp2_with (go_at_call 26; refine (fix_txt _ _).mono ?_)
  rintro e y ⟨rfl, rfl⟩
  go_wp2_with (go_at_call 22; refine (addT_fix _ _ _ _ ⟨#[115, 116, 121]⟩ ⟨#[119, 65, 89]⟩ [2, 4] x5 txL5 a5 (Nat.le_trans k0 d5.size) (by rw [txL5_len]; decide) (by decide) (by decide) (by decide) gl5 bl5 (by omega) (by omega)).mono ?_)
  rintro e x6 ⟨rfl, a6, f6, p6⟩
  have d6 := d5.trans f6
  have gl6 := rowB_below gl5 f6 (by omega)
  have bl6 := rowB_below bl5 f6 (by omega)
  have lb6 := libW_low lb5 f6 (by omega)
  clear p6
  clear a5 d5 gl5 bl5 lb5 f6
  have y1 := below_one x6 (.cells #[.string ⟨#[97, 100, 99]⟩, .string ⟨#[115, 98, 99]⟩, .string ⟨#[97, 110, 100]⟩, .string ⟨#[111, 114, 97]⟩, .string ⟨#[101, 111, 114]⟩, .string ⟨#[99, 109, 112]⟩] 9)
  have nb7 := rowB_new x6 9 #[.string ⟨#[97, 100, 99]⟩, .string ⟨#[115, 98, 99]⟩, .string ⟨#[97, 110, 100]⟩, .string ⟨#[111, 114, 97]⟩, .string ⟨#[101, 111, 114]⟩, .string ⟨#[99, 109, 112]⟩]
  have sp7 := sepT_new a6 y1 (Nat.le_refl _)
  have a7 := atT_below a6 y1
  have d7 := d6.trans (y1.mono (Nat.le_trans k0 d6.size))
  have gl7 := rowB_alloc gl6 (.cells #[.string ⟨#[97, 100, 99]⟩, .string ⟨#[115, 98, 99]⟩, .string ⟨#[97, 110, 100]⟩, .string ⟨#[111, 114, 97]⟩, .string ⟨#[101, 111, 114]⟩, .string ⟨#[99, 109, 112]⟩] 9)
  have bl7 := rowB_alloc bl6 (.cells #[.string ⟨#[97, 100, 99]⟩, .string ⟨#[115, 98, 99]⟩, .string ⟨#[97, 110, 100]⟩, .string ⟨#[111, 114, 97]⟩, .string ⟨#[101, 111, 114]⟩, .string ⟨#[99, 109, 112]⟩] 9)
  have lb7 := libW_below lb6 y1
  go_wp2_with fail
  generalize x6.alloc (.cells #[.string ⟨#[97, 100, 99]⟩, .string ⟨#[115, 98, 99]⟩, .string ⟨#[97, 110, 100]⟩, .string ⟨#[111, 114, 97]⟩, .string ⟨#[101, 111, 114]⟩, .string ⟨#[99, 109, 112]⟩] 9) = x7 at *
  generalize x6.heap.size = q7 at *
  clear y1 a6 d6 gl6 bl6 lb6
  go_loopw [77] (fun i wr => ∃ k : Nat, k ≤ 6 ∧ i = .int .i64 k ∧ stT w x0 wr (pre7 k) ∧ rowB wr q7 9 #[.string ⟨#[97, 100, 99]⟩, .string ⟨#[115, 98, 99]⟩, .string ⟨#[97, 110, 100]⟩, .string ⟨#[111, 114, 97]⟩, .string ⟨#[101, 111, 114]⟩, .string ⟨#[99, 109, 112]⟩] ∧ sepT (w.heap.size + 1 + 1) wr q7) (fun i _ => 6 - (intOf i).toNat)
  case atStart => exact ⟨0, Nat.zero_le _, rfl, ⟨a7, d7, gl7, bl7, lb7⟩, nb7, sp7⟩
  case round =>
    clear a7 d7 gl7 bl7 lb7 nb7 sp7
    obtain ⟨k, hk, rfl, ⟨a7, d7, gl7, bl7, lb7⟩, nb7, sp7⟩ := hrel
    have hx0 : ∃ x, x = wr := ⟨_, rfl⟩
    obtain ⟨x7', hx0⟩ := hx0
    subst hx0
    by_cases hlt : k < 6
    · rcases (by omega : k = 0 ∨ k = 1 ∨ k = 2 ∨ k = 3 ∨ k = 4 ∨ k = 5) with rfl | rfl | rfl | rfl | rfl | rfl
      · skip
        have t0 := rowB_cell nb7 0 (v := .string ⟨#[97, 100, 99]⟩) rfl
        have hU : ∀ h : 0 < (⟨#[43, 126, 38, 124, 94, 61]⟩ : ByteArray).size, Utf8.encode ((((⟨#[43, 126, 38, 124, 94, 61]⟩ : ByteArray)[0]'h).toNat : Nat) : Int) = ⟨#[43]⟩ := fun h => by kernel_rfl
        have hC1 : (⟨#[43]⟩ : ByteArray) ++ ⟨#[65, 84]⟩ = ⟨#[43, 65, 84]⟩ := by kernel_rfl
        go_wp2_with (go_at_call 23; refine (read_txt _ _).mono ?_)
        rintro e y ⟨rfl, rfl⟩
        go_wp2_with (go_at_call 22; refine (addT_read _ _ _ _ ⟨#[97, 100, 99]⟩ ⟨#[43, 65, 84]⟩ [1, 2, 4, 5] x7' txL7 a7 (Nat.le_trans k0 d7.size) (by rw [txL7_len]; decide) (by decide) (by decide) (by decide) gl7 bl7 (by omega) (by omega)).mono ?_)
        rintro e x8 ⟨rfl, a8, f8, p8⟩
        have d8 := d7.trans f8
        have gl8 := rowB_below gl7 f8 (by omega)
        have bl8 := rowB_below bl7 f8 (by omega)
        obtain ⟨nb8, sp8⟩ := p8 _ _ _ nb7 sp7
        clear nb7 sp7
        have lb8 := libW_low lb7 f8 (by omega)
        clear p8
        clear a7 d7 gl7 bl7 lb7 f8
        go_wp2_with fail
        go_roundw
        case rel => exact ⟨1, by omega, by go_num, ⟨a8, d8, gl8, bl8, lb8⟩, nb8, sp8⟩
        case measure => simp [intOf]
      · skip
        have t0 := rowB_cell nb7 1 (v := .string ⟨#[115, 98, 99]⟩) rfl
        have hU : ∀ h : 1 < (⟨#[43, 126, 38, 124, 94, 61]⟩ : ByteArray).size, Utf8.encode ((((⟨#[43, 126, 38, 124, 94, 61]⟩ : ByteArray)[1]'h).toNat : Nat) : Int) = ⟨#[126]⟩ := fun h => by kernel_rfl
        have hC2 : (⟨#[126]⟩ : ByteArray) ++ ⟨#[65, 84]⟩ = ⟨#[126, 65, 84]⟩ := by kernel_rfl
        go_wp2_with (go_at_call 23; refine (read_txt _ _).mono ?_)
        rintro e y ⟨rfl, rfl⟩
        go_wp2_with (go_at_call 22; refine (addT_read _ _ _ _ ⟨#[115, 98, 99]⟩ ⟨#[126, 65, 84]⟩ [1, 2, 4, 5] x7' txL8 a7 (Nat.le_trans k0 d7.size) (by rw [txL8_len]; decide) (by decide) (by decide) (by decide) gl7 bl7 (by omega) (by omega)).mono ?_)
        rintro e x9 ⟨rfl, a9, f9, p9⟩
        have d9 := d7.trans f9
        have gl9 := rowB_below gl7 f9 (by omega)
        have bl9 := rowB_below bl7 f9 (by omega)
        obtain ⟨nb9, sp9⟩ := p9 _ _ _ nb7 sp7
        clear nb7 sp7
        have lb9 := libW_low lb7 f9 (by omega)
        clear p9
        clear a7 d7 gl7 bl7 lb7 f9
        go_wp2_with fail
        go_roundw
        case rel => exact ⟨2, by omega, by go_num, ⟨a9, d9, gl9, bl9, lb9⟩, nb9, sp9⟩
        case measure => simp [intOf]
      · skip
        have t0 := rowB_cell nb7 2 (v := .string ⟨#[97, 110, 100]⟩) rfl
        have hU : ∀ h : 2 < (⟨#[43, 126, 38, 124, 94, 61]⟩ : ByteArray).size, Utf8.encode ((((⟨#[43, 126, 38, 124, 94, 61]⟩ : ByteArray)[2]'h).toNat : Nat) : Int) = ⟨#[38]⟩ := fun h => by kernel_rfl
        have hC3 : (⟨#[38]⟩ : ByteArray) ++ ⟨#[65, 84]⟩ = ⟨#[38, 65, 84]⟩ := by kernel_rfl
        go_wp2_with (go_at_call 23; refine (read_txt _ _).mono ?_)
        rintro e y ⟨rfl, rfl⟩
        go_wp2_with (go_at_call 22; refine (addT_read _ _ _ _ ⟨#[97, 110, 100]⟩ ⟨#[38, 65, 84]⟩ [1, 2, 4, 5] x7' txL9 a7 (Nat.le_trans k0 d7.size) (by rw [txL9_len]; decide) (by decide) (by decide) (by decide) gl7 bl7 (by omega) (by omega)).mono ?_)
        rintro e x10 ⟨rfl, a10, f10, p10⟩
        have d10 := d7.trans f10
        have gl10 := rowB_below gl7 f10 (by omega)
        have bl10 := rowB_below bl7 f10 (by omega)
        obtain ⟨nb10, sp10⟩ := p10 _ _ _ nb7 sp7
        clear nb7 sp7
        have lb10 := libW_low lb7 f10 (by omega)
        clear p10
        clear a7 d7 gl7 bl7 lb7 f10
        go_wp2_with fail
        go_roundw
        case rel => exact ⟨3, by omega, by go_num, ⟨a10, d10, gl10, bl10, lb10⟩, nb10, sp10⟩
        case measure => simp [intOf]
      · skip
        have t0 := rowB_cell nb7 3 (v := .string ⟨#[111, 114, 97]⟩) rfl
        have hU : ∀ h : 3 < (⟨#[43, 126, 38, 124, 94, 61]⟩ : ByteArray).size, Utf8.encode ((((⟨#[43, 126, 38, 124, 94, 61]⟩ : ByteArray)[3]'h).toNat : Nat) : Int) = ⟨#[124]⟩ := fun h => by kernel_rfl
        have hC4 : (⟨#[124]⟩ : ByteArray) ++ ⟨#[65, 84]⟩ = ⟨#[124, 65, 84]⟩ := by kernel_rfl
        go_wp2_with (go_at_call 23; refine (read_txt _ _).mono ?_)
        rintro e y ⟨rfl, rfl⟩
        go_wp2_with (go_at_call 22; refine (addT_read _ _ _ _ ⟨#[111, 114, 97]⟩ ⟨#[124, 65, 84]⟩ [1, 2, 4, 5] x7' txL10 a7 (Nat.le_trans k0 d7.size) (by rw [txL10_len]; decide) (by decide) (by decide) (by decide) gl7 bl7 (by omega) (by omega)).mono ?_)
        rintro e x11 ⟨rfl, a11, f11, p11⟩
        have d11 := d7.trans f11
        have gl11 := rowB_below gl7 f11 (by omega)
        have bl11 := rowB_below bl7 f11 (by omega)
        obtain ⟨nb11, sp11⟩ := p11 _ _ _ nb7 sp7
        clear nb7 sp7
        have lb11 := libW_low lb7 f11 (by omega)
        clear p11
        clear a7 d7 gl7 bl7 lb7 f11
        go_wp2_with fail
        go_roundw
        case rel => exact ⟨4, by omega, by go_num, ⟨a11, d11, gl11, bl11, lb11⟩, nb11, sp11⟩
        case measure => simp [intOf]
      · skip
        have t0 := rowB_cell nb7 4 (v := .string ⟨#[101, 111, 114]⟩) rfl
        have hU : ∀ h : 4 < (⟨#[43, 126, 38, 124, 94, 61]⟩ : ByteArray).size, Utf8.encode ((((⟨#[43, 126, 38, 124, 94, 61]⟩ : ByteArray)[4]'h).toNat : Nat) : Int) = ⟨#[94]⟩ := fun h => by kernel_rfl
        have hC5 : (⟨#[94]⟩ : ByteArray) ++ ⟨#[65, 84]⟩ = ⟨#[94, 65, 84]⟩ := by kernel_rfl
        go_wp2_with (go_at_call 23; refine (read_txt _ _).mono ?_)
        rintro e y ⟨rfl, rfl⟩
        go_wp2_with (go_at_call 22; refine (addT_read _ _ _ _ ⟨#[101, 111, 114]⟩ ⟨#[94, 65, 84]⟩ [1, 2, 4, 5] x7' txL11 a7 (Nat.le_trans k0 d7.size) (by rw [txL11_len]; decide) (by decide) (by decide) (by decide) gl7 bl7 (by omega) (by omega)).mono ?_)
        rintro e x12 ⟨rfl, a12, f12, p12⟩
        have d12 := d7.trans f12
        have gl12 := rowB_below gl7 f12 (by omega)
        have bl12 := rowB_below bl7 f12 (by omega)
        obtain ⟨nb12, sp12⟩ := p12 _ _ _ nb7 sp7
        clear nb7 sp7
        have lb12 := libW_low lb7 f12 (by omega)
        clear p12
        clear a7 d7 gl7 bl7 lb7 f12
        go_wp2_with fail
        go_roundw
        case rel => exact ⟨5, by omega, by go_num, ⟨a12, d12, gl12, bl12, lb12⟩, nb12, sp12⟩
        case measure => simp [intOf]
      · skip
        have t0 := rowB_cell nb7 5 (v := .string ⟨#[99, 109, 112]⟩) rfl
        have hU : ∀ h : 5 < (⟨#[43, 126, 38, 124, 94, 61]⟩ : ByteArray).size, Utf8.encode ((((⟨#[43, 126, 38, 124, 94, 61]⟩ : ByteArray)[5]'h).toNat : Nat) : Int) = ⟨#[61]⟩ := fun h => by kernel_rfl
        have hC6 : (⟨#[61]⟩ : ByteArray) ++ ⟨#[65, 84]⟩ = ⟨#[61, 65, 84]⟩ := by kernel_rfl
        go_wp2_with (go_at_call 23; refine (read_txt _ _).mono ?_)
        rintro e y ⟨rfl, rfl⟩
        go_wp2_with (go_at_call 22; refine (addT_read _ _ _ _ ⟨#[99, 109, 112]⟩ ⟨#[61, 65, 84]⟩ [1, 2, 4, 5] x7' txL12 a7 (Nat.le_trans k0 d7.size) (by rw [txL12_len]; decide) (by decide) (by decide) (by decide) gl7 bl7 (by omega) (by omega)).mono ?_)
        rintro e x13 ⟨rfl, a13, f13, p13⟩
        have d13 := d7.trans f13
        have gl13 := rowB_below gl7 f13 (by omega)
        have bl13 := rowB_below bl7 f13 (by omega)
        obtain ⟨nb13, sp13⟩ := p13 _ _ _ nb7 sp7
        clear nb7 sp7
        have lb13 := libW_low lb7 f13 (by omega)
        clear p13
        clear a7 d7 gl7 bl7 lb7 f13
        go_wp2_with fail
        go_roundw
        case rel => exact ⟨6, by omega, by go_num, ⟨a13, d13, gl13, bl13, lb13⟩, nb13, sp13⟩
        case measure => simp [intOf]
    · obtain rfl : k = 6 := by omega
      clear nb7 sp7 hlt hk
      have a13 := a7
      have d13 := d7
      have gl13 := gl7
      have bl13 := bl7
      have lb13 := lb7
      clear a7 d7 gl7 bl7 lb7
      obtain ⟨x13, hx0⟩ : ∃ x, x = x7' := ⟨_, rfl⟩
      subst hx0
      go_wp2_with (go_at_call 23; refine (read_txt _ _).mono ?_)
      rintro e y ⟨rfl, rfl⟩
      go_wp2_with (go_at_call 22; refine (addT_read _ _ _ _ ⟨#[99, 112, 120]⟩ ⟨#[61, 88, 84]⟩ [1, 2] x13 txL13 a13 (Nat.le_trans k0 d13.size) (by rw [txL13_len]; decide) (by decide) (by decide) (by decide) gl13 bl13 (by omega) (by omega)).mono ?_)
      rintro e x14 ⟨rfl, a14, f14, p14⟩
      have d14 := d13.trans f14
      have gl14 := rowB_below gl13 f14 (by omega)
      have bl14 := rowB_below bl13 f14 (by omega)
      have lb14 := libW_low lb13 f14 (by omega)
      clear p14
      clear a13 d13 gl13 bl13 lb13 f14
      go_wp2_with (go_at_call 23; refine (read_txt _ _).mono ?_)
      rintro e y ⟨rfl, rfl⟩
      go_wp2_with (go_at_call 22; refine (addT_read _ _ _ _ ⟨#[99, 112, 121]⟩ ⟨#[61, 89, 84]⟩ [1, 2] x14 txL14 a14 (Nat.le_trans k0 d14.size) (by rw [txL14_len]; decide) (by decide) (by decide) (by decide) gl14 bl14 (by omega) (by omega)).mono ?_)
      rintro e x15 ⟨rfl, a15, f15, p15⟩
      have d15 := d14.trans f15
      have gl15 := rowB_below gl14 f15 (by omega)
      have bl15 := rowB_below bl14 f15 (by omega)
      have lb15 := libW_low lb14 f15 (by omega)
      clear p15
      clear a14 d14 gl14 bl14 lb14 f15
      have y1 := below_one x15 (.cells #[.string ⟨#[105, 110, 99]⟩, .string ⟨#[100, 101, 99]⟩] 9)
      have nb16 := rowB_new x15 9 #[.string ⟨#[105, 110, 99]⟩, .string ⟨#[100, 101, 99]⟩]
      have sp16 := sepT_new a15 y1 (Nat.le_refl _)
      have a16 := atT_below a15 y1
      have d16 := d15.trans (y1.mono (Nat.le_trans k0 d15.size))
      have gl16 := rowB_alloc gl15 (.cells #[.string ⟨#[105, 110, 99]⟩, .string ⟨#[100, 101, 99]⟩] 9)
      have bl16 := rowB_alloc bl15 (.cells #[.string ⟨#[105, 110, 99]⟩, .string ⟨#[100, 101, 99]⟩] 9)
      have lb16 := libW_below lb15 y1
      go_wp2_with fail
      generalize x15.alloc (.cells #[.string ⟨#[105, 110, 99]⟩, .string ⟨#[100, 101, 99]⟩] 9) = x16 at *
      generalize x15.heap.size = q16 at *
      clear y1 a15 d15 gl15 bl15 lb15
      go_loopw [105] (fun i wr => ∃ k : Nat, k ≤ 2 ∧ i = .int .i64 k ∧ stT w x0 wr (pre16 k) ∧ rowB wr q16 9 #[.string ⟨#[105, 110, 99]⟩, .string ⟨#[100, 101, 99]⟩] ∧ sepT (w.heap.size + 1 + 1) wr q16) (fun i _ => 2 - (intOf i).toNat)
      case atStart => exact ⟨0, Nat.zero_le _, rfl, ⟨a16, d16, gl16, bl16, lb16⟩, nb16, sp16⟩
      case round =>
        clear a16 d16 gl16 bl16 lb16 nb16 sp16
        obtain ⟨k, hk, rfl, ⟨a16, d16, gl16, bl16, lb16⟩, nb16, sp16⟩ := hrel
        have hx0 : ∃ x, x = wr := ⟨_, rfl⟩
        obtain ⟨x16', hx0⟩ := hx0
        subst hx0
        by_cases hlt : k < 2
        · rcases (by omega : k = 0 ∨ k = 1) with rfl | rfl
          · skip
            have t0 := rowB_cell nb16 0 (v := .string ⟨#[105, 110, 99]⟩) rfl
            have hU : ∀ h : 0 < (⟨#[117, 100]⟩ : ByteArray).size, Utf8.encode ((((⟨#[117, 100]⟩ : ByteArray)[0]'h).toNat : Nat) : Int) = ⟨#[117]⟩ := fun h => by kernel_rfl
            have hC7 : (⟨#[114, 65, 84, 40]⟩ : ByteArray) ++ ⟨#[117]⟩ = ⟨#[114, 65, 84, 40, 117]⟩ := by kernel_rfl
            have hC8 : (⟨#[114, 65, 84, 40, 117]⟩ : ByteArray) ++ ⟨#[84, 41, 32, 119, 65, 84]⟩ = ⟨#[114, 65, 84, 40, 117, 84, 41, 32, 119, 65, 84]⟩ := by kernel_rfl
            go_wp2_with (go_at_call 26; refine (fix_txt _ _).mono ?_)
            rintro e y ⟨rfl, rfl⟩
            go_wp2_with (go_at_call 22; refine (addT_fix _ _ _ _ ⟨#[105, 110, 99]⟩ ⟨#[114, 65, 84, 40, 117, 84, 41, 32, 119, 65, 84]⟩ [2, 4] x16' txL16 a16 (Nat.le_trans k0 d16.size) (by rw [txL16_len]; decide) (by decide) (by decide) (by decide) gl16 bl16 (by omega) (by omega)).mono ?_)
            rintro e x17 ⟨rfl, a17, f17, p17⟩
            have d17 := d16.trans f17
            have gl17 := rowB_below gl16 f17 (by omega)
            have bl17 := rowB_below bl16 f17 (by omega)
            obtain ⟨nb17, sp17⟩ := p17 _ _ _ nb16 sp16
            clear nb16 sp16
            have lb17 := libW_low lb16 f17 (by omega)
            clear p17
            clear a16 d16 gl16 bl16 lb16 f17
            go_wp2_with fail
            go_roundw
            case rel => exact ⟨1, by omega, by go_num, ⟨a17, d17, gl17, bl17, lb17⟩, nb17, sp17⟩
            case measure => simp [intOf]
          · skip
            have t0 := rowB_cell nb16 1 (v := .string ⟨#[100, 101, 99]⟩) rfl
            have hU : ∀ h : 1 < (⟨#[117, 100]⟩ : ByteArray).size, Utf8.encode ((((⟨#[117, 100]⟩ : ByteArray)[1]'h).toNat : Nat) : Int) = ⟨#[100]⟩ := fun h => by kernel_rfl
            have hC9 : (⟨#[114, 65, 84, 40]⟩ : ByteArray) ++ ⟨#[100]⟩ = ⟨#[114, 65, 84, 40, 100]⟩ := by kernel_rfl
            have hC10 : (⟨#[114, 65, 84, 40, 100]⟩ : ByteArray) ++ ⟨#[84, 41, 32, 119, 65, 84]⟩ = ⟨#[114, 65, 84, 40, 100, 84, 41, 32, 119, 65, 84]⟩ := by kernel_rfl
            go_wp2_with (go_at_call 26; refine (fix_txt _ _).mono ?_)
            rintro e y ⟨rfl, rfl⟩
            go_wp2_with (go_at_call 22; refine (addT_fix _ _ _ _ ⟨#[100, 101, 99]⟩ ⟨#[114, 65, 84, 40, 100, 84, 41, 32, 119, 65, 84]⟩ [2, 4] x16' txL17 a16 (Nat.le_trans k0 d16.size) (by rw [txL17_len]; decide) (by decide) (by decide) (by decide) gl16 bl16 (by omega) (by omega)).mono ?_)
            rintro e x18 ⟨rfl, a18, f18, p18⟩
            have d18 := d16.trans f18
            have gl18 := rowB_below gl16 f18 (by omega)
            have bl18 := rowB_below bl16 f18 (by omega)
            obtain ⟨nb18, sp18⟩ := p18 _ _ _ nb16 sp16
            clear nb16 sp16
            have lb18 := libW_low lb16 f18 (by omega)
            clear p18
            clear a16 d16 gl16 bl16 lb16 f18
            go_wp2_with fail
            go_roundw
            case rel => exact ⟨2, by omega, by go_num, ⟨a18, d18, gl18, bl18, lb18⟩, nb18, sp18⟩
            case measure => simp [intOf]
        · obtain rfl : k = 2 := by omega
          clear nb16 sp16 hlt hk
          have a18 := a16
          have d18 := d16
          have gl18 := gl16
          have bl18 := bl16
          have lb18 := lb16
          clear a16 d16 gl16 bl16 lb16
          obtain ⟨x18, hx0⟩ : ∃ x, x = x16' := ⟨_, rfl⟩
          subst hx0
          have y1 := below_one x18 (.cells #[.string ⟨#[97, 115, 108]⟩, .string ⟨#[108, 115, 114]⟩, .string ⟨#[114, 111, 108]⟩, .string ⟨#[114, 111, 114]⟩] 9)
          have nb19 := rowB_new x18 9 #[.string ⟨#[97, 115, 108]⟩, .string ⟨#[108, 115, 114]⟩, .string ⟨#[114, 111, 108]⟩, .string ⟨#[114, 111, 114]⟩]
          have sp19 := sepT_new a18 y1 (Nat.le_refl _)
          have a19 := atT_below a18 y1
          have d19 := d18.trans (y1.mono (Nat.le_trans k0 d18.size))
          have gl19 := rowB_alloc gl18 (.cells #[.string ⟨#[97, 115, 108]⟩, .string ⟨#[108, 115, 114]⟩, .string ⟨#[114, 111, 108]⟩, .string ⟨#[114, 111, 114]⟩] 9)
          have bl19 := rowB_alloc bl18 (.cells #[.string ⟨#[97, 115, 108]⟩, .string ⟨#[108, 115, 114]⟩, .string ⟨#[114, 111, 108]⟩, .string ⟨#[114, 111, 114]⟩] 9)
          have lb19 := libW_below lb18 y1
          go_wp2_with fail
          generalize x18.alloc (.cells #[.string ⟨#[97, 115, 108]⟩, .string ⟨#[108, 115, 114]⟩, .string ⟨#[114, 111, 108]⟩, .string ⟨#[114, 111, 114]⟩] 9) = x19 at *
          generalize x18.heap.size = q19 at *
          clear y1 a18 d18 gl18 bl18 lb18
          go_loopw [124] (fun i wr => ∃ k : Nat, k ≤ 4 ∧ i = .int .i64 k ∧ stT w x0 wr (pre19 k) ∧ rowB wr q19 9 #[.string ⟨#[97, 115, 108]⟩, .string ⟨#[108, 115, 114]⟩, .string ⟨#[114, 111, 108]⟩, .string ⟨#[114, 111, 114]⟩] ∧ sepT (w.heap.size + 1 + 1) wr q19) (fun i _ => 4 - (intOf i).toNat)
          case atStart => exact ⟨0, Nat.zero_le _, rfl, ⟨a19, d19, gl19, bl19, lb19⟩, nb19, sp19⟩
          case round =>
            clear a19 d19 gl19 bl19 lb19 nb19 sp19
            obtain ⟨k, hk, rfl, ⟨a19, d19, gl19, bl19, lb19⟩, nb19, sp19⟩ := hrel
            have hx0 : ∃ x, x = wr := ⟨_, rfl⟩
            obtain ⟨x19', hx0⟩ := hx0
            subst hx0
            by_cases hlt : k < 4
            · rcases (by omega : k = 0 ∨ k = 1 ∨ k = 2 ∨ k = 3) with rfl | rfl | rfl | rfl
              · skip
                have t0 := rowB_cell nb19 0 (v := .string ⟨#[97, 115, 108]⟩) rfl
                have hU : ∀ h : 0 < (⟨#[60, 62, 91, 93]⟩ : ByteArray).size, Utf8.encode ((((⟨#[60, 62, 91, 93]⟩ : ByteArray)[0]'h).toNat : Nat) : Int) = ⟨#[60]⟩ := fun h => by kernel_rfl
                have hC11 : (⟨#[45, 40]⟩ : ByteArray) ++ ⟨#[60]⟩ = ⟨#[45, 40, 60]⟩ := by kernel_rfl
                have hC12 : (⟨#[45, 40, 60]⟩ : ByteArray) ++ ⟨#[65, 41]⟩ = ⟨#[45, 40, 60, 65, 41]⟩ := by kernel_rfl
                have hC13 : (⟨#[114, 65, 84, 40]⟩ : ByteArray) ++ ⟨#[60]⟩ = ⟨#[114, 65, 84, 40, 60]⟩ := by kernel_rfl
                have hC14 : (⟨#[114, 65, 84, 40, 60]⟩ : ByteArray) ++ ⟨#[84, 41, 32, 119, 65, 84]⟩ = ⟨#[114, 65, 84, 40, 60, 84, 41, 32, 119, 65, 84]⟩ := by kernel_rfl
                go_wp2_with (go_at_call 26; refine (fix_txt _ _).mono ?_)
                rintro e y ⟨rfl, rfl⟩
                go_wp2_with (go_at_call 22; refine (addT_fix _ _ _ _ ⟨#[97, 115, 108]⟩ ⟨#[45, 40, 60, 65, 41]⟩ [0] x19' txL19 a19 (Nat.le_trans k0 d19.size) (by rw [txL19_len]; decide) (by decide) (by decide) (by decide) gl19 bl19 (by omega) (by omega)).mono ?_)
                rintro e x20 ⟨rfl, a20, f20, p20⟩
                have d20 := d19.trans f20
                have gl20 := rowB_below gl19 f20 (by omega)
                have bl20 := rowB_below bl19 f20 (by omega)
                obtain ⟨nb20, sp20⟩ := p20 _ _ _ nb19 sp19
                clear nb19 sp19
                have lb20 := libW_low lb19 f20 (by omega)
                clear p20
                clear a19 d19 gl19 bl19 lb19 f20
                have t1 := t0
                clear t1
                go_wp2_with (go_at_call 26; refine (fix_txt _ _).mono ?_)
                rintro e y ⟨rfl, rfl⟩
                go_wp2_with (go_at_call 22; refine (addT_fix _ _ _ _ ⟨#[97, 115, 108]⟩ ⟨#[114, 65, 84, 40, 60, 84, 41, 32, 119, 65, 84]⟩ [2] x20 txL20 a20 (Nat.le_trans k0 d20.size) (by rw [txL20_len]; decide) (by decide) (by decide) (by decide) gl20 bl20 (by omega) (by omega)).mono ?_)
                rintro e x21 ⟨rfl, a21, f21, p21⟩
                have d21 := d20.trans f21
                have gl21 := rowB_below gl20 f21 (by omega)
                have bl21 := rowB_below bl20 f21 (by omega)
                obtain ⟨nb21, sp21⟩ := p21 _ _ _ nb20 sp20
                clear nb20 sp20
                have lb21 := libW_low lb20 f21 (by omega)
                clear p21
                clear a20 d20 gl20 bl20 lb20 f21
                go_wp2_with fail
                go_roundw
                case rel =>
                  refine ⟨_, _, _, _, _, _, _, _, _, _, _, _, _, _, _, _, _, _, _, _, _, _, _, _, _, _, _, _, _, _, ?_, rfl⟩
                  exact ⟨1, by omega, by go_num, ⟨a21, d21, gl21, bl21, lb21⟩, nb21, sp21⟩
                case measure => simp [intOf]
              · skip
                have t0 := rowB_cell nb19 1 (v := .string ⟨#[108, 115, 114]⟩) rfl
                have hU : ∀ h : 1 < (⟨#[60, 62, 91, 93]⟩ : ByteArray).size, Utf8.encode ((((⟨#[60, 62, 91, 93]⟩ : ByteArray)[1]'h).toNat : Nat) : Int) = ⟨#[62]⟩ := fun h => by kernel_rfl
                have hC15 : (⟨#[45, 40]⟩ : ByteArray) ++ ⟨#[62]⟩ = ⟨#[45, 40, 62]⟩ := by kernel_rfl
                have hC16 : (⟨#[45, 40, 62]⟩ : ByteArray) ++ ⟨#[65, 41]⟩ = ⟨#[45, 40, 62, 65, 41]⟩ := by kernel_rfl
                have hC17 : (⟨#[114, 65, 84, 40]⟩ : ByteArray) ++ ⟨#[62]⟩ = ⟨#[114, 65, 84, 40, 62]⟩ := by kernel_rfl
                have hC18 : (⟨#[114, 65, 84, 40, 62]⟩ : ByteArray) ++ ⟨#[84, 41, 32, 119, 65, 84]⟩ = ⟨#[114, 65, 84, 40, 62, 84, 41, 32, 119, 65, 84]⟩ := by kernel_rfl
                go_wp2_with (go_at_call 26; refine (fix_txt _ _).mono ?_)
                rintro e y ⟨rfl, rfl⟩
                go_wp2_with (go_at_call 22; refine (addT_fix _ _ _ _ ⟨#[108, 115, 114]⟩ ⟨#[45, 40, 62, 65, 41]⟩ [0] x19' txL21 a19 (Nat.le_trans k0 d19.size) (by rw [txL21_len]; decide) (by decide) (by decide) (by decide) gl19 bl19 (by omega) (by omega)).mono ?_)
                rintro e x22 ⟨rfl, a22, f22, p22⟩
                have d22 := d19.trans f22
                have gl22 := rowB_below gl19 f22 (by omega)
                have bl22 := rowB_below bl19 f22 (by omega)
                obtain ⟨nb22, sp22⟩ := p22 _ _ _ nb19 sp19
                clear nb19 sp19
                have lb22 := libW_low lb19 f22 (by omega)
                clear p22
                clear a19 d19 gl19 bl19 lb19 f22
                have t1 := t0
                clear t1
                go_wp2_with (go_at_call 26; refine (fix_txt _ _).mono ?_)
                rintro e y ⟨rfl, rfl⟩
                go_wp2_with (go_at_call 22; refine (addT_fix _ _ _ _ ⟨#[108, 115, 114]⟩ ⟨#[114, 65, 84, 40, 62, 84, 41, 32, 119, 65, 84]⟩ [2] x22 txL22 a22 (Nat.le_trans k0 d22.size) (by rw [txL22_len]; decide) (by decide) (by decide) (by decide) gl22 bl22 (by omega) (by omega)).mono ?_)
                rintro e x23 ⟨rfl, a23, f23, p23⟩
                have d23 := d22.trans f23
                have gl23 := rowB_below gl22 f23 (by omega)
                have bl23 := rowB_below bl22 f23 (by omega)
                obtain ⟨nb23, sp23⟩ := p23 _ _ _ nb22 sp22
                clear nb22 sp22
                have lb23 := libW_low lb22 f23 (by omega)
                clear p23
                clear a22 d22 gl22 bl22 lb22 f23
                go_wp2_with fail
                go_roundw
                case rel =>
                  refine ⟨_, _, _, _, _, _, _, _, _, _, _, _, _, _, _, _, _, _, _, _, _, _, _, _, _, _, _, _, _, _, ?_, rfl⟩
                  exact ⟨2, by omega, by go_num, ⟨a23, d23, gl23, bl23, lb23⟩, nb23, sp23⟩
                case measure => simp [intOf]
              · skip
                have t0 := rowB_cell nb19 2 (v := .string ⟨#[114, 111, 108]⟩) rfl
                have hU : ∀ h : 2 < (⟨#[60, 62, 91, 93]⟩ : ByteArray).size, Utf8.encode ((((⟨#[60, 62, 91, 93]⟩ : ByteArray)[2]'h).toNat : Nat) : Int) = ⟨#[91]⟩ := fun h => by kernel_rfl
                have hC19 : (⟨#[45, 40]⟩ : ByteArray) ++ ⟨#[91]⟩ = ⟨#[45, 40, 91]⟩ := by kernel_rfl
                have hC20 : (⟨#[45, 40, 91]⟩ : ByteArray) ++ ⟨#[65, 41]⟩ = ⟨#[45, 40, 91, 65, 41]⟩ := by kernel_rfl
                have hC21 : (⟨#[114, 65, 84, 40]⟩ : ByteArray) ++ ⟨#[91]⟩ = ⟨#[114, 65, 84, 40, 91]⟩ := by kernel_rfl
                have hC22 : (⟨#[114, 65, 84, 40, 91]⟩ : ByteArray) ++ ⟨#[84, 41, 32, 119, 65, 84]⟩ = ⟨#[114, 65, 84, 40, 91, 84, 41, 32, 119, 65, 84]⟩ := by kernel_rfl
                go_wp2_with (go_at_call 26; refine (fix_txt _ _).mono ?_)
                rintro e y ⟨rfl, rfl⟩
                go_wp2_with (go_at_call 22; refine (addT_fix _ _ _ _ ⟨#[114, 111, 108]⟩ ⟨#[45, 40, 91, 65, 41]⟩ [0] x19' txL23 a19 (Nat.le_trans k0 d19.size) (by rw [txL23_len]; decide) (by decide) (by decide) (by decide) gl19 bl19 (by omega) (by omega)).mono ?_)
                rintro e x24 ⟨rfl, a24, f24, p24⟩
                have d24 := d19.trans f24
                have gl24 := rowB_below gl19 f24 (by omega)
                have bl24 := rowB_below bl19 f24 (by omega)
                obtain ⟨nb24, sp24⟩ := p24 _ _ _ nb19 sp19
                clear nb19 sp19
                have lb24 := libW_low lb19 f24 (by omega)
                clear p24
                clear a19 d19 gl19 bl19 lb19 f24
                have t1 := t0
                clear t1
                go_wp2_with (go_at_call 26; refine (fix_txt _ _).mono ?_)
                rintro e y ⟨rfl, rfl⟩
                go_wp2_with (go_at_call 22; refine (addT_fix _ _ _ _ ⟨#[114, 111, 108]⟩ ⟨#[114, 65, 84, 40, 91, 84, 41, 32, 119, 65, 84]⟩ [2] x24 txL24 a24 (Nat.le_trans k0 d24.size) (by rw [txL24_len]; decide) (by decide) (by decide) (by decide) gl24 bl24 (by omega) (by omega)).mono ?_)
                rintro e x25 ⟨rfl, a25, f25, p25⟩
                have d25 := d24.trans f25
                have gl25 := rowB_below gl24 f25 (by omega)
                have bl25 := rowB_below bl24 f25 (by omega)
                obtain ⟨nb25, sp25⟩ := p25 _ _ _ nb24 sp24
                clear nb24 sp24
                have lb25 := libW_low lb24 f25 (by omega)
                clear p25
                clear a24 d24 gl24 bl24 lb24 f25
                go_wp2_with fail
                go_roundw
                case rel =>
                  refine ⟨_, _, _, _, _, _, _, _, _, _, _, _, _, _, _, _, _, _, _, _, _, _, _, _, _, _, _, _, _, _, ?_, rfl⟩
                  exact ⟨3, by omega, by go_num, ⟨a25, d25, gl25, bl25, lb25⟩, nb25, sp25⟩
                case measure => simp [intOf]
              · skip
                have t0 := rowB_cell nb19 3 (v := .string ⟨#[114, 111, 114]⟩) rfl
                have hU : ∀ h : 3 < (⟨#[60, 62, 91, 93]⟩ : ByteArray).size, Utf8.encode ((((⟨#[60, 62, 91, 93]⟩ : ByteArray)[3]'h).toNat : Nat) : Int) = ⟨#[93]⟩ := fun h => by kernel_rfl
                have hC23 : (⟨#[45, 40]⟩ : ByteArray) ++ ⟨#[93]⟩ = ⟨#[45, 40, 93]⟩ := by kernel_rfl
                have hC24 : (⟨#[45, 40, 93]⟩ : ByteArray) ++ ⟨#[65, 41]⟩ = ⟨#[45, 40, 93, 65, 41]⟩ := by kernel_rfl
                have hC25 : (⟨#[114, 65, 84, 40]⟩ : ByteArray) ++ ⟨#[93]⟩ = ⟨#[114, 65, 84, 40, 93]⟩ := by kernel_rfl
                have hC26 : (⟨#[114, 65, 84, 40, 93]⟩ : ByteArray) ++ ⟨#[84, 41, 32, 119, 65, 84]⟩ = ⟨#[114, 65, 84, 40, 93, 84, 41, 32, 119, 65, 84]⟩ := by kernel_rfl
                go_wp2_with (go_at_call 26; refine (fix_txt _ _).mono ?_)
                rintro e y ⟨rfl, rfl⟩
                go_wp2_with (go_at_call 22; refine (addT_fix _ _ _ _ ⟨#[114, 111, 114]⟩ ⟨#[45, 40, 93, 65, 41]⟩ [0] x19' txL25 a19 (Nat.le_trans k0 d19.size) (by rw [txL25_len]; decide) (by decide) (by decide) (by decide) gl19 bl19 (by omega) (by omega)).mono ?_)
                rintro e x26 ⟨rfl, a26, f26, p26⟩
                have d26 := d19.trans f26
                have gl26 := rowB_below gl19 f26 (by omega)
                have bl26 := rowB_below bl19 f26 (by omega)
                obtain ⟨nb26, sp26⟩ := p26 _ _ _ nb19 sp19
                clear nb19 sp19
                have lb26 := libW_low lb19 f26 (by omega)
                clear p26
                clear a19 d19 gl19 bl19 lb19 f26
                have t1 := t0
                clear t1
                go_wp2_with (go_at_call 26; refine (fix_txt _ _).mono ?_)
                rintro e y ⟨rfl, rfl⟩
                go_wp2_with (go_at_call 22; refine (addT_fix _ _ _ _ ⟨#[114, 111, 114]⟩ ⟨#[114, 65, 84, 40, 93, 84, 41, 32, 119, 65, 84]⟩ [2] x26 txL26 a26 (Nat.le_trans k0 d26.size) (by rw [txL26_len]; decide) (by decide) (by decide) (by decide) gl26 bl26 (by omega) (by omega)).mono ?_)
                rintro e x27 ⟨rfl, a27, f27, p27⟩
                have d27 := d26.trans f27
                have gl27 := rowB_below gl26 f27 (by omega)
                have bl27 := rowB_below bl26 f27 (by omega)
                obtain ⟨nb27, sp27⟩ := p27 _ _ _ nb26 sp26
                clear nb26 sp26
                have lb27 := libW_low lb26 f27 (by omega)
                clear p27
                clear a26 d26 gl26 bl26 lb26 f27
                go_wp2_with fail
                go_roundw
                case rel =>
                  refine ⟨_, _, _, _, _, _, _, _, _, _, _, _, _, _, _, _, _, _, _, _, _, _, _, _, _, _, _, _, _, _, ?_, rfl⟩
                  exact ⟨4, by omega, by go_num, ⟨a27, d27, gl27, bl27, lb27⟩, nb27, sp27⟩
                case measure => simp [intOf]
            · obtain rfl : k = 4 := by omega
              clear nb19 sp19 hlt hk
              have a27 := a19
              have d27 := d19
              have gl27 := gl19
              have bl27 := bl19
              have lb27 := lb19
              clear a19 d19 gl19 bl19 lb19
              obtain ⟨x27, hx0⟩ : ∃ x, x = x19' := ⟨_, rfl⟩
              subst hx0
              go_wp2_with (go_at_call 28; refine (fields_std fieldsS fieldsL (by decide +kernel) (by decide +kernel) fieldsS_fields _ lb27).mono ?_)
              rintro e y ⟨rfl, rfl⟩
              have y1 := below_one x27 (.cells ⟨fieldsL.map Value.string⟩ 9)
              have nb28 := rowB_new x27 9 ⟨fieldsL.map Value.string⟩
              have sp28 := sepT_new a27 y1 (Nat.le_refl _)
              have a28 := atT_below a27 y1
              have d28 := d27.trans (y1.mono (Nat.le_trans k0 d27.size))
              have gl28 := rowB_alloc gl27 (.cells ⟨fieldsL.map Value.string⟩ 9)
              have bl28 := rowB_alloc bl27 (.cells ⟨fieldsL.map Value.string⟩ 9)
              have lb28 := libW_below lb27 y1
              go_wp2_with fail
              generalize x27.alloc (.cells ⟨fieldsL.map Value.string⟩ 9) = x28 at *
              generalize x27.heap.size = q28 at *
              clear y1 a27 d27 gl27 bl27 lb27
              go_loopw [153] (fun i wr => ∃ k : Nat, k ≤ 19 ∧ i = .int .i64 k ∧ stT w x0 wr (pre28 k) ∧ rowB wr q28 9 ⟨fieldsL.map Value.string⟩ ∧ sepT (w.heap.size + 1 + 1) wr q28) (fun i _ => 19 - (intOf i).toNat)
              case atStart => exact ⟨0, Nat.zero_le _, rfl, ⟨a28, d28, gl28, bl28, lb28⟩, nb28, sp28⟩
              case round =>
                clear a28 d28 gl28 bl28 lb28 nb28 sp28
                obtain ⟨k, hk, rfl, ⟨a28, d28, gl28, bl28, lb28⟩, nb28, sp28⟩ := hrel
                have hx0 : ∃ x, x = wr := ⟨_, rfl⟩
                obtain ⟨x28', hx0⟩ := hx0
                subst hx0
                by_cases hlt : k < 19
                · rcases (by omega : k = 0 ∨ k = 1 ∨ k = 2 ∨ k = 3 ∨ k = 4 ∨ k = 5 ∨ k = 6 ∨ k = 7 ∨ k = 8 ∨ k = 9 ∨ k = 10 ∨ k = 11 ∨ k = 12 ∨ k = 13 ∨ k = 14 ∨ k = 15 ∨ k = 16 ∨ k = 17 ∨ k = 18) with rfl | rfl | rfl | rfl | rfl | rfl | rfl | rfl | rfl | rfl | rfl | rfl | rfl | rfl | rfl | rfl | rfl | rfl | rfl
                  · skip
                    have t0 := rowB_cell nb28 0 (v := .string ⟨#[116, 97, 120, 58, 45, 40, 109, 88, 65, 44, 122, 88, 41]⟩) rfl
                    go_wp2_with (go_at_call 29; refine (cut_std ⟨#[116, 97, 120, 58, 45, 40, 109, 88, 65, 44, 122, 88, 41]⟩ ⟨#[116, 97, 120]⟩ ⟨#[45, 40, 109, 88, 65, 44, 122, 88, 41]⟩ (by decide +kernel) (by decide +kernel) _ lb28).mono ?_)
                    rintro e xc ⟨rfl, f0⟩
                    obtain ⟨nbc, spc⟩ := keepT_below a28 f0 _ _ _ nb28 sp28
                    clear t0 nb28 sp28
                    have ac := atT_below a28 f0
                    have dc := d28.trans (f0.mono (Nat.le_trans k0 d28.size))
                    have glc := rowB_below gl28 f0 (rowB_lt gl28)
                    have blc := rowB_below bl28 f0 (rowB_lt bl28)
                    have lbc := libW_below lb28 f0
                    clear a28 d28 gl28 bl28 lb28 f0
                    go_wp2_with (go_at_call 26; refine (fix_txt _ _).mono ?_)
                    rintro e y ⟨rfl, rfl⟩
                    go_wp2_with (go_at_call 22; refine (addT_fix _ _ _ _ ⟨#[116, 97, 120]⟩ ⟨#[45, 40, 109, 88, 65, 44, 122, 88, 41]⟩ [0] xc txL28 ac (Nat.le_trans k0 dc.size) (by rw [txL28_len]; decide) (by decide) (by decide) (by decide) glc blc (by omega) (by omega)).mono ?_)
                    rintro e x29 ⟨rfl, a29, f29, p29⟩
                    have d29 := dc.trans f29
                    have gl29 := rowB_below glc f29 (by omega)
                    have bl29 := rowB_below blc f29 (by omega)
                    obtain ⟨nb29, sp29⟩ := p29 _ _ _ nbc spc
                    clear nbc spc
                    have lb29 := libW_low lbc f29 (by omega)
                    clear p29
                    clear ac dc glc blc lbc f29
                    go_wp2_with fail
                    go_roundw
                    case rel => exact ⟨1, by omega, by go_num, ⟨a29, d29, gl29, bl29, lb29⟩, nb29, sp29⟩
                    case measure => simp [intOf]
                  · skip
                    have t0 := rowB_cell nb28 1 (v := .string ⟨#[116, 97, 121, 58, 45, 40, 109, 89, 65, 44, 122, 89, 41]⟩) rfl
                    go_wp2_with (go_at_call 29; refine (cut_std ⟨#[116, 97, 121, 58, 45, 40, 109, 89, 65, 44, 122, 89, 41]⟩ ⟨#[116, 97, 121]⟩ ⟨#[45, 40, 109, 89, 65, 44, 122, 89, 41]⟩ (by decide +kernel) (by decide +kernel) _ lb28).mono ?_)
                    rintro e xc ⟨rfl, f0⟩
                    obtain ⟨nbc, spc⟩ := keepT_below a28 f0 _ _ _ nb28 sp28
                    clear t0 nb28 sp28
                    have ac := atT_below a28 f0
                    have dc := d28.trans (f0.mono (Nat.le_trans k0 d28.size))
                    have glc := rowB_below gl28 f0 (rowB_lt gl28)
                    have blc := rowB_below bl28 f0 (rowB_lt bl28)
                    have lbc := libW_below lb28 f0
                    clear a28 d28 gl28 bl28 lb28 f0
                    go_wp2_with (go_at_call 26; refine (fix_txt _ _).mono ?_)
                    rintro e y ⟨rfl, rfl⟩
                    go_wp2_with (go_at_call 22; refine (addT_fix _ _ _ _ ⟨#[116, 97, 121]⟩ ⟨#[45, 40, 109, 89, 65, 44, 122, 89, 41]⟩ [0] xc txL29 ac (Nat.le_trans k0 dc.size) (by rw [txL29_len]; decide) (by decide) (by decide) (by decide) glc blc (by omega) (by omega)).mono ?_)
                    rintro e x30 ⟨rfl, a30, f30, p30⟩
                    have d30 := dc.trans f30
                    have gl30 := rowB_below glc f30 (by omega)
                    have bl30 := rowB_below blc f30 (by omega)
                    obtain ⟨nb30, sp30⟩ := p30 _ _ _ nbc spc
                    clear nbc spc
                    have lb30 := libW_low lbc f30 (by omega)
                    clear p30
                    clear ac dc glc blc lbc f30
                    go_wp2_with fail
                    go_roundw
                    case rel => exact ⟨2, by omega, by go_num, ⟨a30, d30, gl30, bl30, lb30⟩, nb30, sp30⟩
                    case measure => simp [intOf]
                  · skip
                    have t0 := rowB_cell nb28 2 (v := .string ⟨#[116, 120, 97, 58, 45, 40, 109, 65, 88, 44, 122, 65, 41]⟩) rfl
                    go_wp2_with (go_at_call 29; refine (cut_std ⟨#[116, 120, 97, 58, 45, 40, 109, 65, 88, 44, 122, 65, 41]⟩ ⟨#[116, 120, 97]⟩ ⟨#[45, 40, 109, 65, 88, 44, 122, 65, 41]⟩ (by decide +kernel) (by decide +kernel) _ lb28).mono ?_)
                    rintro e xc ⟨rfl, f0⟩
                    obtain ⟨nbc, spc⟩ := keepT_below a28 f0 _ _ _ nb28 sp28
                    clear t0 nb28 sp28
                    have ac := atT_below a28 f0
                    have dc := d28.trans (f0.mono (Nat.le_trans k0 d28.size))
                    have glc := rowB_below gl28 f0 (rowB_lt gl28)
                    have blc := rowB_below bl28 f0 (rowB_lt bl28)
                    have lbc := libW_below lb28 f0
                    clear a28 d28 gl28 bl28 lb28 f0
                    go_wp2_with (go_at_call 26; refine (fix_txt _ _).mono ?_)
                    rintro e y ⟨rfl, rfl⟩
                    go_wp2_with (go_at_call 22; refine (addT_fix _ _ _ _ ⟨#[116, 120, 97]⟩ ⟨#[45, 40, 109, 65, 88, 44, 122, 65, 41]⟩ [0] xc txL30 ac (Nat.le_trans k0 dc.size) (by rw [txL30_len]; decide) (by decide) (by decide) (by decide) glc blc (by omega) (by omega)).mono ?_)
                    rintro e x31 ⟨rfl, a31, f31, p31⟩
                    have d31 := dc.trans f31
                    have gl31 := rowB_below glc f31 (by omega)
                    have bl31 := rowB_below blc f31 (by omega)
                    obtain ⟨nb31, sp31⟩ := p31 _ _ _ nbc spc
                    clear nbc spc
                    have lb31 := libW_low lbc f31 (by omega)
                    clear p31
                    clear ac dc glc blc lbc f31
                    go_wp2_with fail
                    go_roundw
                    case rel => exact ⟨3, by omega, by go_num, ⟨a31, d31, gl31, bl31, lb31⟩, nb31, sp31⟩
                    case measure => simp [intOf]
                  · skip
                    have t0 := rowB_cell nb28 3 (v := .string ⟨#[116, 121, 97, 58, 45, 40, 109, 65, 89, 44, 122, 65, 41]⟩) rfl
                    go_wp2_with (go_at_call 29; refine (cut_std ⟨#[116, 121, 97, 58, 45, 40, 109, 65, 89, 44, 122, 65, 41]⟩ ⟨#[116, 121, 97]⟩ ⟨#[45, 40, 109, 65, 89, 44, 122, 65, 41]⟩ (by decide +kernel) (by decide +kernel) _ lb28).mono ?_)
                    rintro e xc ⟨rfl, f0⟩
                    obtain ⟨nbc, spc⟩ := keepT_below a28 f0 _ _ _ nb28 sp28
                    clear t0 nb28 sp28
                    have ac := atT_below a28 f0
                    have dc := d28.trans (f0.mono (Nat.le_trans k0 d28.size))
                    have glc := rowB_below gl28 f0 (rowB_lt gl28)
                    have blc := rowB_below bl28 f0 (rowB_lt bl28)
                    have lbc := libW_below lb28 f0
                    clear a28 d28 gl28 bl28 lb28 f0
                    go_wp2_with (go_at_call 26; refine (fix_txt _ _).mono ?_)
                    rintro e y ⟨rfl, rfl⟩
                    go_wp2_with (go_at_call 22; refine (addT_fix _ _ _ _ ⟨#[116, 121, 97]⟩ ⟨#[45, 40, 109, 65, 89, 44, 122, 65, 41]⟩ [0] xc txL31 ac (Nat.le_trans k0 dc.size) (by rw [txL31_len]; decide) (by decide) (by decide) (by decide) glc blc (by omega) (by omega)).mono ?_)
                    rintro e x32 ⟨rfl, a32, f32, p32⟩
                    have d32 := dc.trans f32
                    have gl32 := rowB_below glc f32 (by omega)
                    have bl32 := rowB_below blc f32 (by omega)
                    obtain ⟨nb32, sp32⟩ := p32 _ _ _ nbc spc
                    clear nbc spc
                    have lb32 := libW_low lbc f32 (by omega)
                    clear p32
                    clear ac dc glc blc lbc f32
                    go_wp2_with fail
                    go_roundw
                    case rel => exact ⟨4, by omega, by go_num, ⟨a32, d32, gl32, bl32, lb32⟩, nb32, sp32⟩
                    case measure => simp [intOf]
                  · skip
                    have t0 := rowB_cell nb28 4 (v := .string ⟨#[116, 115, 120, 58, 45, 40, 109, 88, 83, 44, 122, 88, 41]⟩) rfl
                    go_wp2_with (go_at_call 29; refine (cut_std ⟨#[116, 115, 120, 58, 45, 40, 109, 88, 83, 44, 122, 88, 41]⟩ ⟨#[116, 115, 120]⟩ ⟨#[45, 40, 109, 88, 83, 44, 122, 88, 41]⟩ (by decide +kernel) (by decide +kernel) _ lb28).mono ?_)
                    rintro e xc ⟨rfl, f0⟩
                    obtain ⟨nbc, spc⟩ := keepT_below a28 f0 _ _ _ nb28 sp28
                    clear t0 nb28 sp28
                    have ac := atT_below a28 f0
                    have dc := d28.trans (f0.mono (Nat.le_trans k0 d28.size))
                    have glc := rowB_below gl28 f0 (rowB_lt gl28)
                    have blc := rowB_below bl28 f0 (rowB_lt bl28)
                    have lbc := libW_below lb28 f0
                    clear a28 d28 gl28 bl28 lb28 f0
                    go_wp2_with (go_at_call 26; refine (fix_txt _ _).mono ?_)
                    rintro e y ⟨rfl, rfl⟩
                    go_wp2_with (go_at_call 22; refine (addT_fix _ _ _ _ ⟨#[116, 115, 120]⟩ ⟨#[45, 40, 109, 88, 83, 44, 122, 88, 41]⟩ [0] xc txL32 ac (Nat.le_trans k0 dc.size) (by rw [txL32_len]; decide) (by decide) (by decide) (by decide) glc blc (by omega) (by omega)).mono ?_)
                    rintro e x33 ⟨rfl, a33, f33, p33⟩
                    have d33 := dc.trans f33
                    have gl33 := rowB_below glc f33 (by omega)
                    have bl33 := rowB_below blc f33 (by omega)
                    obtain ⟨nb33, sp33⟩ := p33 _ _ _ nbc spc
                    clear nbc spc
                    have lb33 := libW_low lbc f33 (by omega)
                    clear p33
                    clear ac dc glc blc lbc f33
                    go_wp2_with fail
                    go_roundw
                    case rel => exact ⟨5, by omega, by go_num, ⟨a33, d33, gl33, bl33, lb33⟩, nb33, sp33⟩
                    case measure => simp [intOf]
                  · skip
                    have t0 := rowB_cell nb28 5 (v := .string ⟨#[116, 120, 115, 58, 45, 40, 109, 83, 88, 41]⟩) rfl
                    go_wp2_with (go_at_call 29; refine (cut_std ⟨#[116, 120, 115, 58, 45, 40, 109, 83, 88, 41]⟩ ⟨#[116, 120, 115]⟩ ⟨#[45, 40, 109, 83, 88, 41]⟩ (by decide +kernel) (by decide +kernel) _ lb28).mono ?_)
                    rintro e xc ⟨rfl, f0⟩
                    obtain ⟨nbc, spc⟩ := keepT_below a28 f0 _ _ _ nb28 sp28
                    clear t0 nb28 sp28
                    have ac := atT_below a28 f0
                    have dc := d28.trans (f0.mono (Nat.le_trans k0 d28.size))
                    have glc := rowB_below gl28 f0 (rowB_lt gl28)
                    have blc := rowB_below bl28 f0 (rowB_lt bl28)
                    have lbc := libW_below lb28 f0
                    clear a28 d28 gl28 bl28 lb28 f0
                    go_wp2_with (go_at_call 26; refine (fix_txt _ _).mono ?_)
                    rintro e y ⟨rfl, rfl⟩
                    go_wp2_with (go_at_call 22; refine (addT_fix _ _ _ _ ⟨#[116, 120, 115]⟩ ⟨#[45, 40, 109, 83, 88, 41]⟩ [0] xc txL33 ac (Nat.le_trans k0 dc.size) (by rw [txL33_len]; decide) (by decide) (by decide) (by decide) glc blc (by omega) (by omega)).mono ?_)
                    rintro e x34 ⟨rfl, a34, f34, p34⟩
                    have d34 := dc.trans f34
                    have gl34 := rowB_below glc f34 (by omega)
                    have bl34 := rowB_below blc f34 (by omega)
                    obtain ⟨nb34, sp34⟩ := p34 _ _ _ nbc spc
                    clear nbc spc
                    have lb34 := libW_low lbc f34 (by omega)
                    clear p34
                    clear ac dc glc blc lbc f34
                    go_wp2_with fail
                    go_roundw
                    case rel => exact ⟨6, by omega, by go_num, ⟨a34, d34, gl34, bl34, lb34⟩, nb34, sp34⟩
                    case measure => simp [intOf]
                  · skip
                    have t0 := rowB_cell nb28 6 (v := .string ⟨#[105, 110, 120, 58, 45, 40, 117, 88, 41]⟩) rfl
                    go_wp2_with (go_at_call 29; refine (cut_std ⟨#[105, 110, 120, 58, 45, 40, 117, 88, 41]⟩ ⟨#[105, 110, 120]⟩ ⟨#[45, 40, 117, 88, 41]⟩ (by decide +kernel) (by decide +kernel) _ lb28).mono ?_)
                    rintro e xc ⟨rfl, f0⟩
                    obtain ⟨nbc, spc⟩ := keepT_below a28 f0 _ _ _ nb28 sp28
                    clear t0 nb28 sp28
                    have ac := atT_below a28 f0
                    have dc := d28.trans (f0.mono (Nat.le_trans k0 d28.size))
                    have glc := rowB_below gl28 f0 (rowB_lt gl28)
                    have blc := rowB_below bl28 f0 (rowB_lt bl28)
                    have lbc := libW_below lb28 f0
                    clear a28 d28 gl28 bl28 lb28 f0
                    go_wp2_with (go_at_call 26; refine (fix_txt _ _).mono ?_)
                    rintro e y ⟨rfl, rfl⟩
                    go_wp2_with (go_at_call 22; refine (addT_fix _ _ _ _ ⟨#[105, 110, 120]⟩ ⟨#[45, 40, 117, 88, 41]⟩ [0] xc txL34 ac (Nat.le_trans k0 dc.size) (by rw [txL34_len]; decide) (by decide) (by decide) (by decide) glc blc (by omega) (by omega)).mono ?_)
                    rintro e x35 ⟨rfl, a35, f35, p35⟩
                    have d35 := dc.trans f35
                    have gl35 := rowB_below glc f35 (by omega)
                    have bl35 := rowB_below blc f35 (by omega)
                    obtain ⟨nb35, sp35⟩ := p35 _ _ _ nbc spc
                    clear nbc spc
                    have lb35 := libW_low lbc f35 (by omega)
                    clear p35
                    clear ac dc glc blc lbc f35
                    go_wp2_with fail
                    go_roundw
                    case rel => exact ⟨7, by omega, by go_num, ⟨a35, d35, gl35, bl35, lb35⟩, nb35, sp35⟩
                    case measure => simp [intOf]
                  · skip
                    have t0 := rowB_cell nb28 7 (v := .string ⟨#[105, 110, 121, 58, 45, 40, 117, 89, 41]⟩) rfl
                    go_wp2_with (go_at_call 29; refine (cut_std ⟨#[105, 110, 121, 58, 45, 40, 117, 89, 41]⟩ ⟨#[105, 110, 121]⟩ ⟨#[45, 40, 117, 89, 41]⟩ (by decide +kernel) (by decide +kernel) _ lb28).mono ?_)
                    rintro e xc ⟨rfl, f0⟩
                    obtain ⟨nbc, spc⟩ := keepT_below a28 f0 _ _ _ nb28 sp28
                    clear t0 nb28 sp28
                    have ac := atT_below a28 f0
                    have dc := d28.trans (f0.mono (Nat.le_trans k0 d28.size))
                    have glc := rowB_below gl28 f0 (rowB_lt gl28)
                    have blc := rowB_below bl28 f0 (rowB_lt bl28)
                    have lbc := libW_below lb28 f0
                    clear a28 d28 gl28 bl28 lb28 f0
                    go_wp2_with (go_at_call 26; refine (fix_txt _ _).mono ?_)
                    rintro e y ⟨rfl, rfl⟩
                    go_wp2_with (go_at_call 22; refine (addT_fix _ _ _ _ ⟨#[105, 110, 121]⟩ ⟨#[45, 40, 117, 89, 41]⟩ [0] xc txL35 ac (Nat.le_trans k0 dc.size) (by rw [txL35_len]; decide) (by decide) (by decide) (by decide) glc blc (by omega) (by omega)).mono ?_)
                    rintro e x36 ⟨rfl, a36, f36, p36⟩
                    have d36 := dc.trans f36
                    have gl36 := rowB_below glc f36 (by omega)
                    have bl36 := rowB_below blc f36 (by omega)
                    obtain ⟨nb36, sp36⟩ := p36 _ _ _ nbc spc
                    clear nbc spc
                    have lb36 := libW_low lbc f36 (by omega)
                    clear p36
                    clear ac dc glc blc lbc f36
                    go_wp2_with fail
                    go_roundw
                    case rel => exact ⟨8, by omega, by go_num, ⟨a36, d36, gl36, bl36, lb36⟩, nb36, sp36⟩
                    case measure => simp [intOf]
                  · skip
                    have t0 := rowB_cell nb28 8 (v := .string ⟨#[100, 101, 120, 58, 45, 40, 100, 88, 41]⟩) rfl
                    go_wp2_with (go_at_call 29; refine (cut_std ⟨#[100, 101, 120, 58, 45, 40, 100, 88, 41]⟩ ⟨#[100, 101, 120]⟩ ⟨#[45, 40, 100, 88, 41]⟩ (by decide +kernel) (by decide +kernel) _ lb28).mono ?_)
                    rintro e xc ⟨rfl, f0⟩
                    obtain ⟨nbc, spc⟩ := keepT_below a28 f0 _ _ _ nb28 sp28
                    clear t0 nb28 sp28
                    have ac := atT_below a28 f0
                    have dc := d28.trans (f0.mono (Nat.le_trans k0 d28.size))
                    have glc := rowB_below gl28 f0 (rowB_lt gl28)
                    have blc := rowB_below bl28 f0 (rowB_lt bl28)
                    have lbc := libW_below lb28 f0
                    clear a28 d28 gl28 bl28 lb28 f0
                    go_wp2_with (go_at_call 26; refine (fix_txt _ _).mono ?_)
                    rintro e y ⟨rfl, rfl⟩
                    go_wp2_with (go_at_call 22; refine (addT_fix _ _ _ _ ⟨#[100, 101, 120]⟩ ⟨#[45, 40, 100, 88, 41]⟩ [0] xc txL36 ac (Nat.le_trans k0 dc.size) (by rw [txL36_len]; decide) (by decide) (by decide) (by decide) glc blc (by omega) (by omega)).mono ?_)
                    rintro e x37 ⟨rfl, a37, f37, p37⟩
                    have d37 := dc.trans f37
                    have gl37 := rowB_below glc f37 (by omega)
                    have bl37 := rowB_below blc f37 (by omega)
                    obtain ⟨nb37, sp37⟩ := p37 _ _ _ nbc spc
                    clear nbc spc
                    have lb37 := libW_low lbc f37 (by omega)
                    clear p37
                    clear ac dc glc blc lbc f37
                    go_wp2_with fail
                    go_roundw
                    case rel => exact ⟨9, by omega, by go_num, ⟨a37, d37, gl37, bl37, lb37⟩, nb37, sp37⟩
                    case measure => simp [intOf]
                  · skip
                    have t0 := rowB_cell nb28 9 (v := .string ⟨#[100, 101, 121, 58, 45, 40, 100, 89, 41]⟩) rfl
                    go_wp2_with (go_at_call 29; refine (cut_std ⟨#[100, 101, 121, 58, 45, 40, 100, 89, 41]⟩ ⟨#[100, 101, 121]⟩ ⟨#[45, 40, 100, 89, 41]⟩ (by decide +kernel) (by decide +kernel) _ lb28).mono ?_)
                    rintro e xc ⟨rfl, f0⟩
                    obtain ⟨nbc, spc⟩ := keepT_below a28 f0 _ _ _ nb28 sp28
                    clear t0 nb28 sp28
                    have ac := atT_below a28 f0
                    have dc := d28.trans (f0.mono (Nat.le_trans k0 d28.size))
                    have glc := rowB_below gl28 f0 (rowB_lt gl28)
                    have blc := rowB_below bl28 f0 (rowB_lt bl28)
                    have lbc := libW_below lb28 f0
                    clear a28 d28 gl28 bl28 lb28 f0
                    go_wp2_with (go_at_call 26; refine (fix_txt _ _).mono ?_)
                    rintro e y ⟨rfl, rfl⟩
                    go_wp2_with (go_at_call 22; refine (addT_fix _ _ _ _ ⟨#[100, 101, 121]⟩ ⟨#[45, 40, 100, 89, 41]⟩ [0] xc txL37 ac (Nat.le_trans k0 dc.size) (by rw [txL37_len]; decide) (by decide) (by decide) (by decide) glc blc (by omega) (by omega)).mono ?_)
                    rintro e x38 ⟨rfl, a38, f38, p38⟩
                    have d38 := dc.trans f38
                    have gl38 := rowB_below glc f38 (by omega)
                    have bl38 := rowB_below blc f38 (by omega)
                    obtain ⟨nb38, sp38⟩ := p38 _ _ _ nbc spc
                    clear nbc spc
                    have lb38 := libW_low lbc f38 (by omega)
                    clear p38
                    clear ac dc glc blc lbc f38
                    go_wp2_with fail
                    go_roundw
                    case rel => exact ⟨10, by omega, by go_num, ⟨a38, d38, gl38, bl38, lb38⟩, nb38, sp38⟩
                    case measure => simp [intOf]
                  · skip
                    have t0 := rowB_cell nb28 10 (v := .string ⟨#[99, 108, 99, 58, 45, 40, 99, 49, 41]⟩) rfl
                    go_wp2_with (go_at_call 29; refine (cut_std ⟨#[99, 108, 99, 58, 45, 40, 99, 49, 41]⟩ ⟨#[99, 108, 99]⟩ ⟨#[45, 40, 99, 49, 41]⟩ (by decide +kernel) (by decide +kernel) _ lb28).mono ?_)
                    rintro e xc ⟨rfl, f0⟩
                    obtain ⟨nbc, spc⟩ := keepT_below a28 f0 _ _ _ nb28 sp28
                    clear t0 nb28 sp28
                    have ac := atT_below a28 f0
                    have dc := d28.trans (f0.mono (Nat.le_trans k0 d28.size))
                    have glc := rowB_below gl28 f0 (rowB_lt gl28)
                    have blc := rowB_below bl28 f0 (rowB_lt bl28)
                    have lbc := libW_below lb28 f0
                    clear a28 d28 gl28 bl28 lb28 f0
                    go_wp2_with (go_at_call 26; refine (fix_txt _ _).mono ?_)
                    rintro e y ⟨rfl, rfl⟩
                    go_wp2_with (go_at_call 22; refine (addT_fix _ _ _ _ ⟨#[99, 108, 99]⟩ ⟨#[45, 40, 99, 49, 41]⟩ [0] xc txL38 ac (Nat.le_trans k0 dc.size) (by rw [txL38_len]; decide) (by decide) (by decide) (by decide) glc blc (by omega) (by omega)).mono ?_)
                    rintro e x39 ⟨rfl, a39, f39, p39⟩
                    have d39 := dc.trans f39
                    have gl39 := rowB_below glc f39 (by omega)
                    have bl39 := rowB_below blc f39 (by omega)
                    obtain ⟨nb39, sp39⟩ := p39 _ _ _ nbc spc
                    clear nbc spc
                    have lb39 := libW_low lbc f39 (by omega)
                    clear p39
                    clear ac dc glc blc lbc f39
                    go_wp2_with fail
                    go_roundw
                    case rel => exact ⟨11, by omega, by go_num, ⟨a39, d39, gl39, bl39, lb39⟩, nb39, sp39⟩
                    case measure => simp [intOf]
                  · skip
                    have t0 := rowB_cell nb28 11 (v := .string ⟨#[115, 101, 99, 58, 45, 40, 115, 49, 41]⟩) rfl
                    go_wp2_with (go_at_call 29; refine (cut_std ⟨#[115, 101, 99, 58, 45, 40, 115, 49, 41]⟩ ⟨#[115, 101, 99]⟩ ⟨#[45, 40, 115, 49, 41]⟩ (by decide +kernel) (by decide +kernel) _ lb28).mono ?_)
                    rintro e xc ⟨rfl, f0⟩
                    obtain ⟨nbc, spc⟩ := keepT_below a28 f0 _ _ _ nb28 sp28
                    clear t0 nb28 sp28
                    have ac := atT_below a28 f0
                    have dc := d28.trans (f0.mono (Nat.le_trans k0 d28.size))
                    have glc := rowB_below gl28 f0 (rowB_lt gl28)
                    have blc := rowB_below bl28 f0 (rowB_lt bl28)
                    have lbc := libW_below lb28 f0
                    clear a28 d28 gl28 bl28 lb28 f0
                    go_wp2_with (go_at_call 26; refine (fix_txt _ _).mono ?_)
                    rintro e y ⟨rfl, rfl⟩
                    go_wp2_with (go_at_call 22; refine (addT_fix _ _ _ _ ⟨#[115, 101, 99]⟩ ⟨#[45, 40, 115, 49, 41]⟩ [0] xc txL39 ac (Nat.le_trans k0 dc.size) (by rw [txL39_len]; decide) (by decide) (by decide) (by decide) glc blc (by omega) (by omega)).mono ?_)
                    rintro e x40 ⟨rfl, a40, f40, p40⟩
                    have d40 := dc.trans f40
                    have gl40 := rowB_below glc f40 (by omega)
                    have bl40 := rowB_below blc f40 (by omega)
                    obtain ⟨nb40, sp40⟩ := p40 _ _ _ nbc spc
                    clear nbc spc
                    have lb40 := libW_low lbc f40 (by omega)
                    clear p40
                    clear ac dc glc blc lbc f40
                    go_wp2_with fail
                    go_roundw
                    case rel => exact ⟨12, by omega, by go_num, ⟨a40, d40, gl40, bl40, lb40⟩, nb40, sp40⟩
                    case measure => simp [intOf]
                  · skip
                    have t0 := rowB_cell nb28 12 (v := .string ⟨#[99, 108, 105, 58, 45, 40, 99, 52, 41]⟩) rfl
                    go_wp2_with (go_at_call 29; refine (cut_std ⟨#[99, 108, 105, 58, 45, 40, 99, 52, 41]⟩ ⟨#[99, 108, 105]⟩ ⟨#[45, 40, 99, 52, 41]⟩ (by decide +kernel) (by decide +kernel) _ lb28).mono ?_)
                    rintro e xc ⟨rfl, f0⟩
                    obtain ⟨nbc, spc⟩ := keepT_below a28 f0 _ _ _ nb28 sp28
                    clear t0 nb28 sp28
                    have ac := atT_below a28 f0
                    have dc := d28.trans (f0.mono (Nat.le_trans k0 d28.size))
                    have glc := rowB_below gl28 f0 (rowB_lt gl28)
                    have blc := rowB_below bl28 f0 (rowB_lt bl28)
                    have lbc := libW_below lb28 f0
                    clear a28 d28 gl28 bl28 lb28 f0
                    go_wp2_with (go_at_call 26; refine (fix_txt _ _).mono ?_)
                    rintro e y ⟨rfl, rfl⟩
                    go_wp2_with (go_at_call 22; refine (addT_fix _ _ _ _ ⟨#[99, 108, 105]⟩ ⟨#[45, 40, 99, 52, 41]⟩ [0] xc txL40 ac (Nat.le_trans k0 dc.size) (by rw [txL40_len]; decide) (by decide) (by decide) (by decide) glc blc (by omega) (by omega)).mono ?_)
                    rintro e x41 ⟨rfl, a41, f41, p41⟩
                    have d41 := dc.trans f41
                    have gl41 := rowB_below glc f41 (by omega)
                    have bl41 := rowB_below blc f41 (by omega)
                    obtain ⟨nb41, sp41⟩ := p41 _ _ _ nbc spc
                    clear nbc spc
                    have lb41 := libW_low lbc f41 (by omega)
                    clear p41
                    clear ac dc glc blc lbc f41
                    go_wp2_with fail
                    go_roundw
                    case rel => exact ⟨13, by omega, by go_num, ⟨a41, d41, gl41, bl41, lb41⟩, nb41, sp41⟩
                    case measure => simp [intOf]
                  · skip
                    have t0 := rowB_cell nb28 13 (v := .string ⟨#[115, 101, 105, 58, 45, 40, 115, 52, 41]⟩) rfl
                    go_wp2_with (go_at_call 29; refine (cut_std ⟨#[115, 101, 105, 58, 45, 40, 115, 52, 41]⟩ ⟨#[115, 101, 105]⟩ ⟨#[45, 40, 115, 52, 41]⟩ (by decide +kernel) (by decide +kernel) _ lb28).mono ?_)
                    rintro e xc ⟨rfl, f0⟩
                    obtain ⟨nbc, spc⟩ := keepT_below a28 f0 _ _ _ nb28 sp28
                    clear t0 nb28 sp28
                    have ac := atT_below a28 f0
                    have dc := d28.trans (f0.mono (Nat.le_trans k0 d28.size))
                    have glc := rowB_below gl28 f0 (rowB_lt gl28)
                    have blc := rowB_below bl28 f0 (rowB_lt bl28)
                    have lbc := libW_below lb28 f0
                    clear a28 d28 gl28 bl28 lb28 f0
                    go_wp2_with (go_at_call 26; refine (fix_txt _ _).mono ?_)
                    rintro e y ⟨rfl, rfl⟩
                    go_wp2_with (go_at_call 22; refine (addT_fix _ _ _ _ ⟨#[115, 101, 105]⟩ ⟨#[45, 40, 115, 52, 41]⟩ [0] xc txL41 ac (Nat.le_trans k0 dc.size) (by rw [txL41_len]; decide) (by decide) (by decide) (by decide) glc blc (by omega) (by omega)).mono ?_)
                    rintro e x42 ⟨rfl, a42, f42, p42⟩
                    have d42 := dc.trans f42
                    have gl42 := rowB_below glc f42 (by omega)
                    have bl42 := rowB_below blc f42 (by omega)
                    obtain ⟨nb42, sp42⟩ := p42 _ _ _ nbc spc
                    clear nbc spc
                    have lb42 := libW_low lbc f42 (by omega)
                    clear p42
                    clear ac dc glc blc lbc f42
                    go_wp2_with fail
                    go_roundw
                    case rel => exact ⟨14, by omega, by go_num, ⟨a42, d42, gl42, bl42, lb42⟩, nb42, sp42⟩
                    case measure => simp [intOf]
                  · skip
                    have t0 := rowB_cell nb28 14 (v := .string ⟨#[110, 111, 112, 58, 45]⟩) rfl
                    go_wp2_with (go_at_call 29; refine (cut_std ⟨#[110, 111, 112, 58, 45]⟩ ⟨#[110, 111, 112]⟩ ⟨#[45]⟩ (by decide +kernel) (by decide +kernel) _ lb28).mono ?_)
                    rintro e xc ⟨rfl, f0⟩
                    obtain ⟨nbc, spc⟩ := keepT_below a28 f0 _ _ _ nb28 sp28
                    clear t0 nb28 sp28
                    have ac := atT_below a28 f0
                    have dc := d28.trans (f0.mono (Nat.le_trans k0 d28.size))
                    have glc := rowB_below gl28 f0 (rowB_lt gl28)
                    have blc := rowB_below bl28 f0 (rowB_lt bl28)
                    have lbc := libW_below lb28 f0
                    clear a28 d28 gl28 bl28 lb28 f0
                    go_wp2_with (go_at_call 26; refine (fix_txt _ _).mono ?_)
                    rintro e y ⟨rfl, rfl⟩
                    go_wp2_with (go_at_call 22; refine (addT_fix _ _ _ _ ⟨#[110, 111, 112]⟩ ⟨#[45]⟩ [0] xc txL42 ac (Nat.le_trans k0 dc.size) (by rw [txL42_len]; decide) (by decide) (by decide) (by decide) glc blc (by omega) (by omega)).mono ?_)
                    rintro e x43 ⟨rfl, a43, f43, p43⟩
                    have d43 := dc.trans f43
                    have gl43 := rowB_below glc f43 (by omega)
                    have bl43 := rowB_below blc f43 (by omega)
                    obtain ⟨nb43, sp43⟩ := p43 _ _ _ nbc spc
                    clear nbc spc
                    have lb43 := libW_low lbc f43 (by omega)
                    clear p43
                    clear ac dc glc blc lbc f43
                    go_wp2_with fail
                    go_roundw
                    case rel => exact ⟨15, by omega, by go_num, ⟨a43, d43, gl43, bl43, lb43⟩, nb43, sp43⟩
                    case measure => simp [intOf]
                  · skip
                    have t0 := rowB_cell nb28 15 (v := .string ⟨#[112, 104, 97, 58, 119, 33, 65]⟩) rfl
                    go_wp2_with (go_at_call 29; refine (cut_std ⟨#[112, 104, 97, 58, 119, 33, 65]⟩ ⟨#[112, 104, 97]⟩ ⟨#[119, 33, 65]⟩ (by decide +kernel) (by decide +kernel) _ lb28).mono ?_)
                    rintro e xc ⟨rfl, f0⟩
                    obtain ⟨nbc, spc⟩ := keepT_below a28 f0 _ _ _ nb28 sp28
                    clear t0 nb28 sp28
                    have ac := atT_below a28 f0
                    have dc := d28.trans (f0.mono (Nat.le_trans k0 d28.size))
                    have glc := rowB_below gl28 f0 (rowB_lt gl28)
                    have blc := rowB_below bl28 f0 (rowB_lt bl28)
                    have lbc := libW_below lb28 f0
                    clear a28 d28 gl28 bl28 lb28 f0
                    go_wp2_with (go_at_call 26; refine (fix_txt _ _).mono ?_)
                    rintro e y ⟨rfl, rfl⟩
                    go_wp2_with (go_at_call 22; refine (addT_fix _ _ _ _ ⟨#[112, 104, 97]⟩ ⟨#[119, 33, 65]⟩ [0] xc txL43 ac (Nat.le_trans k0 dc.size) (by rw [txL43_len]; decide) (by decide) (by decide) (by decide) glc blc (by omega) (by omega)).mono ?_)
                    rintro e x44 ⟨rfl, a44, f44, p44⟩
                    have d44 := dc.trans f44
                    have gl44 := rowB_below glc f44 (by omega)
                    have bl44 := rowB_below blc f44 (by omega)
                    obtain ⟨nb44, sp44⟩ := p44 _ _ _ nbc spc
                    clear nbc spc
                    have lb44 := libW_low lbc f44 (by omega)
                    clear p44
                    clear ac dc glc blc lbc f44
                    go_wp2_with fail
                    go_roundw
                    case rel => exact ⟨16, by omega, by go_num, ⟨a44, d44, gl44, bl44, lb44⟩, nb44, sp44⟩
                    case measure => simp [intOf]
                  · skip
                    have t0 := rowB_cell nb28 16 (v := .string ⟨#[112, 108, 97, 58, 114, 63, 65, 40, 122, 65, 41]⟩) rfl
                    go_wp2_with (go_at_call 29; refine (cut_std ⟨#[112, 108, 97, 58, 114, 63, 65, 40, 122, 65, 41]⟩ ⟨#[112, 108, 97]⟩ ⟨#[114, 63, 65, 40, 122, 65, 41]⟩ (by decide +kernel) (by decide +kernel) _ lb28).mono ?_)
                    rintro e xc ⟨rfl, f0⟩
                    obtain ⟨nbc, spc⟩ := keepT_below a28 f0 _ _ _ nb28 sp28
                    clear t0 nb28 sp28
                    have ac := atT_below a28 f0
                    have dc := d28.trans (f0.mono (Nat.le_trans k0 d28.size))
                    have glc := rowB_below gl28 f0 (rowB_lt gl28)
                    have blc := rowB_below bl28 f0 (rowB_lt bl28)
                    have lbc := libW_below lb28 f0
                    clear a28 d28 gl28 bl28 lb28 f0
                    go_wp2_with (go_at_call 26; refine (fix_txt _ _).mono ?_)
                    rintro e y ⟨rfl, rfl⟩
                    go_wp2_with (go_at_call 22; refine (addT_fix _ _ _ _ ⟨#[112, 108, 97]⟩ ⟨#[114, 63, 65, 40, 122, 65, 41]⟩ [0] xc txL44 ac (Nat.le_trans k0 dc.size) (by rw [txL44_len]; decide) (by decide) (by decide) (by decide) glc blc (by omega) (by omega)).mono ?_)
                    rintro e x45 ⟨rfl, a45, f45, p45⟩
                    have d45 := dc.trans f45
                    have gl45 := rowB_below glc f45 (by omega)
                    have bl45 := rowB_below blc f45 (by omega)
                    obtain ⟨nb45, sp45⟩ := p45 _ _ _ nbc spc
                    clear nbc spc
                    have lb45 := libW_low lbc f45 (by omega)
                    clear p45
                    clear ac dc glc blc lbc f45
                    go_wp2_with fail
                    go_roundw
                    case rel => exact ⟨17, by omega, by go_num, ⟨a45, d45, gl45, bl45, lb45⟩, nb45, sp45⟩
                    case measure => simp [intOf]
                  · skip
                    have t0 := rowB_cell nb28 17 (v := .string ⟨#[112, 104, 112, 58, 119, 33, 80]⟩) rfl
                    go_wp2_with (go_at_call 29; refine (cut_std ⟨#[112, 104, 112, 58, 119, 33, 80]⟩ ⟨#[112, 104, 112]⟩ ⟨#[119, 33, 80]⟩ (by decide +kernel) (by decide +kernel) _ lb28).mono ?_)
                    rintro e xc ⟨rfl, f0⟩
                    obtain ⟨nbc, spc⟩ := keepT_below a28 f0 _ _ _ nb28 sp28
                    clear t0 nb28 sp28
                    have ac := atT_below a28 f0
                    have dc := d28.trans (f0.mono (Nat.le_trans k0 d28.size))
                    have glc := rowB_below gl28 f0 (rowB_lt gl28)
                    have blc := rowB_below bl28 f0 (rowB_lt bl28)
                    have lbc := libW_below lb28 f0
                    clear a28 d28 gl28 bl28 lb28 f0
                    go_wp2_with (go_at_call 26; refine (fix_txt _ _).mono ?_)
                    rintro e y ⟨rfl, rfl⟩
                    go_wp2_with (go_at_call 22; refine (addT_fix _ _ _ _ ⟨#[112, 104, 112]⟩ ⟨#[119, 33, 80]⟩ [0] xc txL45 ac (Nat.le_trans k0 dc.size) (by rw [txL45_len]; decide) (by decide) (by decide) (by decide) glc blc (by omega) (by omega)).mono ?_)
                    rintro e x46 ⟨rfl, a46, f46, p46⟩
                    have d46 := dc.trans f46
                    have gl46 := rowB_below glc f46 (by omega)
                    have bl46 := rowB_below blc f46 (by omega)
                    obtain ⟨nb46, sp46⟩ := p46 _ _ _ nbc spc
                    clear nbc spc
                    have lb46 := libW_low lbc f46 (by omega)
                    clear p46
                    clear ac dc glc blc lbc f46
                    go_wp2_with fail
                    go_roundw
                    case rel => exact ⟨18, by omega, by go_num, ⟨a46, d46, gl46, bl46, lb46⟩, nb46, sp46⟩
                    case measure => simp [intOf]
                  · skip
                    have t0 := rowB_cell nb28 18 (v := .string ⟨#[112, 108, 112, 58, 114, 63, 80]⟩) rfl
                    go_wp2_with (go_at_call 29; refine (cut_std ⟨#[112, 108, 112, 58, 114, 63, 80]⟩ ⟨#[112, 108, 112]⟩ ⟨#[114, 63, 80]⟩ (by decide +kernel) (by decide +kernel) _ lb28).mono ?_)
                    rintro e xc ⟨rfl, f0⟩
                    obtain ⟨nbc, spc⟩ := keepT_below a28 f0 _ _ _ nb28 sp28
                    clear t0 nb28 sp28
                    have ac := atT_below a28 f0
                    have dc := d28.trans (f0.mono (Nat.le_trans k0 d28.size))
                    have glc := rowB_below gl28 f0 (rowB_lt gl28)
                    have blc := rowB_below bl28 f0 (rowB_lt bl28)
                    have lbc := libW_below lb28 f0
                    clear a28 d28 gl28 bl28 lb28 f0
                    go_wp2_with (go_at_call 26; refine (fix_txt _ _).mono ?_)
                    rintro e y ⟨rfl, rfl⟩
                    go_wp2_with (go_at_call 22; refine (addT_fix _ _ _ _ ⟨#[112, 108, 112]⟩ ⟨#[114, 63, 80]⟩ [0] xc txL46 ac (Nat.le_trans k0 dc.size) (by rw [txL46_len]; decide) (by decide) (by decide) (by decide) glc blc (by omega) (by omega)).mono ?_)
                    rintro e x47 ⟨rfl, a47, f47, p47⟩
                    have d47 := dc.trans f47
                    have gl47 := rowB_below glc f47 (by omega)
                    have bl47 := rowB_below blc f47 (by omega)
                    obtain ⟨nb47, sp47⟩ := p47 _ _ _ nbc spc
                    clear nbc spc
                    have lb47 := libW_low lbc f47 (by omega)
                    clear p47
                    clear ac dc glc blc lbc f47
                    go_wp2_with fail
                    go_roundw
                    case rel => exact ⟨19, by omega, by go_num, ⟨a47, d47, gl47, bl47, lb47⟩, nb47, sp47⟩
                    case measure => simp [intOf]
                · obtain rfl : k = 19 := by omega
                  clear nb28 sp28 hlt hk
                  have a47 := a28
                  have d47 := d28
                  have gl47 := gl28
                  have bl47 := bl28
                  have lb47 := lb28
                  clear a28 d28 gl28 bl28 lb28
                  obtain ⟨x47, hx0⟩ : ∃ x, x = x28' := ⟨_, rfl⟩
                  subst hx0
                  have hC27 : (⟨#[106, 109, 112, 32, 52, 32, 114, 80, 84, 32, 114, 80, 85]⟩ : ByteArray) ++ ⟨#[40, 108, 67, 84, 44, 104, 67, 85, 41]⟩ = ⟨#[106, 109, 112, 32, 52, 32, 114, 80, 84, 32, 114, 80, 85, 40, 108, 67, 84, 44, 104, 67, 85, 41]⟩ := by kernel_rfl
                  have hC28 : (⟨#[114, 116, 115, 32, 48, 32, 114, 63, 84, 32, 114, 63, 85]⟩ : ByteArray) ++ ⟨#[40, 108, 67, 84, 44, 104, 67, 85, 41]⟩ = ⟨#[114, 116, 115, 32, 48, 32, 114, 63, 84, 32, 114, 63, 85, 40, 108, 67, 84, 44, 104, 67, 85, 41]⟩ := by kernel_rfl
                  have hC29 : (⟨#[114, 116, 105, 32, 48, 32, 114, 63, 80, 32, 114, 63, 84, 32, 114, 63, 85]⟩ : ByteArray) ++ ⟨#[40, 108, 67, 84, 44, 104, 67, 85, 41]⟩ = ⟨#[114, 116, 105, 32, 48, 32, 114, 63, 80, 32, 114, 63, 84, 32, 114, 63, 85, 40, 108, 67, 84, 44, 104, 67, 85, 41]⟩ := by kernel_rfl
                  clear gl47 bl47 lb47
                  obtain ⟨hg, p, n, c, hrow, hown⟩ := a47
                  have hxs := Nat.le_trans k0 d47.size
                  have hc0 : x47.cell? ⟨w.heap.size + 1 + 1, 0, none⟩ = some (.slice p n c) := rowB_cell hrow 0 rfl
                  have o1 := strsO_below hown (below_one x47 (.cells #[.string ⟨#[106, 109, 112, 32, 52, 32, 114, 80, 84, 32, 114, 80, 85, 40, 108, 67, 84, 44, 104, 67, 85, 41]⟩, .string ⟨#[106, 115, 114, 32, 52, 32, 114, 80, 84, 40, 108, 68, 84, 41, 32, 114, 80, 84, 40, 104, 68, 84, 44, 71, 84, 67, 41, 32, 119, 33, 84, 40, 103, 84, 67, 41, 32, 119, 33, 84, 40, 109, 67, 68, 41]⟩, .string ⟨#[114, 116, 115, 32, 48, 32, 114, 63, 84, 32, 114, 63, 85, 40, 108, 67, 84, 44, 104, 67, 85, 41]⟩, .string ⟨#[114, 116, 105, 32, 48, 32, 114, 63, 80, 32, 114, 63, 84, 32, 114, 63, 85, 40, 108, 67, 84, 44, 104, 67, 85, 41]⟩] 9))
                  have y1 := own_strs (w := x47) (cells := #[.string ⟨#[106, 109, 112, 32, 52, 32, 114, 80, 84, 32, 114, 80, 85, 40, 108, 67, 84, 44, 104, 67, 85, 41]⟩, .string ⟨#[106, 115, 114, 32, 52, 32, 114, 80, 84, 40, 108, 68, 84, 41, 32, 114, 80, 84, 40, 104, 68, 84, 44, 71, 84, 67, 41, 32, 119, 33, 84, 40, 103, 84, 67, 41, 32, 119, 33, 84, 40, 109, 67, 68, 41]⟩, .string ⟨#[114, 116, 115, 32, 48, 32, 114, 63, 84, 32, 114, 63, 85, 40, 108, 67, 84, 44, 104, 67, 85, 41]⟩, .string ⟨#[114, 116, 105, 32, 48, 32, 114, 63, 80, 32, 114, 63, 84, 32, 114, 63, 85, 40, 108, 67, 84, 44, 104, 67, 85, 41]⟩]) [⟨#[106, 109, 112, 32, 52, 32, 114, 80, 84, 32, 114, 80, 85, 40, 108, 67, 84, 44, 104, 67, 85, 41]⟩, ⟨#[106, 115, 114, 32, 52, 32, 114, 80, 84, 40, 108, 68, 84, 41, 32, 114, 80, 84, 40, 104, 68, 84, 44, 71, 84, 67, 41, 32, 119, 33, 84, 40, 103, 84, 67, 41, 32, 119, 33, 84, 40, 109, 67, 68, 41]⟩, ⟨#[114, 116, 115, 32, 48, 32, 114, 63, 84, 32, 114, 63, 85, 40, 108, 67, 84, 44, 104, 67, 85, 41]⟩, ⟨#[114, 116, 105, 32, 48, 32, 114, 63, 80, 32, 114, 63, 84, 32, 114, 63, 85, 40, 108, 67, 84, 44, 104, 67, 85, 41]⟩] rfl rfl (Nat.le_of_ble_eq_true rfl)
                  go_wp2_with (at_builtin; refine wpList_strs rfl _ _ rfl (w.heap.size + 2) _ _ _ rfl rfl txL47 [⟨#[106, 109, 112, 32, 52, 32, 114, 80, 84, 32, 114, 80, 85, 40, 108, 67, 84, 44, 104, 67, 85, 41]⟩, ⟨#[106, 115, 114, 32, 52, 32, 114, 80, 84, 40, 108, 68, 84, 41, 32, 114, 80, 84, 40, 104, 68, 84, 44, 71, 84, 67, 41, 32, 119, 33, 84, 40, 103, 84, 67, 41, 32, 119, 33, 84, 40, 109, 67, 68, 41]⟩, ⟨#[114, 116, 115, 32, 48, 32, 114, 63, 84, 32, 114, 63, 85, 40, 108, 67, 84, 44, 104, 67, 85, 41]⟩, ⟨#[114, 116, 105, 32, 48, 32, 114, 63, 80, 32, 114, 63, 84, 32, 114, 63, 85, 40, 108, 67, 84, 44, 104, 67, 85, 41]⟩] o1 y1 (by rw [txL47_len]; decide) (by simp; omega) ?_)
                  intro p2 n2 c2 w2 o2 g2
                  obtain ⟨row2, a48, bb⟩ := lines_put hg hxs hrow hown o2 g2
                  have d48 := d47.trans bb
                  have z2 := rowB_free row2 0
                  have q2 : w2.cell? ⟨w.heap.size + 1 + 1, 0, none⟩ = some (.slice p n c) := rowB_cell row2 0 rfl
                  clear o2 g2 bb hown hrow hc0 o1 y1 row2 d47 hxs hg hC27 hC28 hC29
                  have y1 := below_one (w2.setCell ⟨w.heap.size + 1 + 1, 0, none⟩ (.slice p2 n2 c2)) (.cells #[.string ⟨#[98, 101, 113]⟩, .string ⟨#[98, 110, 101]⟩, .string ⟨#[98, 99, 115]⟩, .string ⟨#[98, 99, 99]⟩, .string ⟨#[98, 109, 105]⟩, .string ⟨#[98, 112, 108]⟩] 9)
                  have nb := rowB_new (w2.setCell ⟨w.heap.size + 1 + 1, 0, none⟩ (.slice p2 n2 c2)) 9 #[.string ⟨#[98, 101, 113]⟩, .string ⟨#[98, 110, 101]⟩, .string ⟨#[98, 99, 115]⟩, .string ⟨#[98, 99, 99]⟩, .string ⟨#[98, 109, 105]⟩, .string ⟨#[98, 112, 108]⟩]
                  have sp := sepT_new a48 y1 (Nat.le_refl _)
                  have a' := atT_below a48 y1
                  have d' := d48.trans (y1.mono (Nat.le_trans k0 d48.size))
                  clear y1 a48 d48
                  go_wp2_with fail
                  generalize hq : (w2.setCell ⟨w.heap.size + 1 + 1, 0, none⟩ (.slice p2 n2 c2)).heap.size = q5 at *
                  have hq' : w2.heap.size = q5 := by rw [← hq]; simp
                  clear hq
                  generalize (w2.setCell ⟨w.heap.size + 1 + 1, 0, none⟩ (.slice p2 n2 c2)).alloc (.cells #[.string ⟨#[98, 101, 113]⟩, .string ⟨#[98, 110, 101]⟩, .string ⟨#[98, 99, 115]⟩, .string ⟨#[98, 99, 99]⟩, .string ⟨#[98, 109, 105]⟩, .string ⟨#[98, 112, 108]⟩] 9) = x5 at *
                  try rw [hq']
                  clear hq' z2 q2
                  go_loopw [182] (fun i wr => ∃ k : Nat, k ≤ 6 ∧ i = .int .i64 k ∧ atT (w.heap.size + 2) (w.heap.size + 1 + 1) wr (pre5 k) ∧ Below (w.heap.size + 2) x0 wr ∧ rowB wr q5 9 #[.string ⟨#[98, 101, 113]⟩, .string ⟨#[98, 110, 101]⟩, .string ⟨#[98, 99, 115]⟩, .string ⟨#[98, 99, 99]⟩, .string ⟨#[98, 109, 105]⟩, .string ⟨#[98, 112, 108]⟩] ∧ sepT (w.heap.size + 1 + 1) wr q5) (fun i _ => 6 - (intOf i).toNat)
                  case atStart => exact ⟨0, Nat.zero_le _, rfl, a', d', nb, sp⟩
                  case round =>
                    clear a' d' nb sp
                    obtain ⟨k, hk, rfl, a', d', nb, sp⟩ := hrel
                    obtain ⟨x6', hx0⟩ : ∃ x, x = wr := ⟨_, rfl⟩
                    subst hx0
                    by_cases hlt : k < 6
                    · rcases (by omega : k = 0 ∨ k = 1 ∨ k = 2 ∨ k = 3 ∨ k = 4 ∨ k = 5) with rfl | rfl | rfl | rfl | rfl | rfl
                      · obtain ⟨hg, p, n, c, hrow, hown⟩ := a'
                        have t0 := rowB_cell nb 0 (v := .string ⟨#[98, 101, 113]⟩) rfl
                        have hW : IntKind.i64.wrap 5 = 5 := by decide
                        have hU1 : ∀ h : 5 < (⟨#[48, 49, 48, 49, 48, 49]⟩ : ByteArray).size, Utf8.encode ((((⟨#[48, 49, 48, 49, 48, 49]⟩ : ByteArray)[5]'h).toNat : Nat) : Int) = ⟨#[49]⟩ := fun h => by kernel_rfl
                        have hU2 : ∀ h : 0 < (⟨#[122, 122, 99, 99, 110, 110]⟩ : ByteArray).size, Utf8.encode ((((⟨#[122, 122, 99, 99, 110, 110]⟩ : ByteArray)[0]'h).toNat : Nat) : Int) = ⟨#[122]⟩ := fun h => by kernel_rfl
                        have hC30 : (⟨#[98, 101, 113]⟩ : ByteArray) ++ ⟨#[32, 55, 32, 114, 80, 84, 40, 102]⟩ = ⟨#[98, 101, 113, 32, 55, 32, 114, 80, 84, 40, 102]⟩ := by kernel_rfl
                        have hC31 : (⟨#[98, 101, 113, 32, 55, 32, 114, 80, 84, 40, 102]⟩ : ByteArray) ++ ⟨#[49]⟩ = ⟨#[98, 101, 113, 32, 55, 32, 114, 80, 84, 40, 102, 49]⟩ := by kernel_rfl
                        have hC32 : (⟨#[98, 101, 113, 32, 55, 32, 114, 80, 84, 40, 102, 49]⟩ : ByteArray) ++ ⟨#[122]⟩ = ⟨#[98, 101, 113, 32, 55, 32, 114, 80, 84, 40, 102, 49, 122]⟩ := by kernel_rfl
                        have hC33 : (⟨#[98, 101, 113, 32, 55, 32, 114, 80, 84, 40, 102, 49, 122]⟩ : ByteArray) ++ ⟨#[41, 32, 45, 40, 114, 67, 84, 41]⟩ = ⟨#[98, 101, 113, 32, 55, 32, 114, 80, 84, 40, 102, 49, 122, 41, 32, 45, 40, 114, 67, 84, 41]⟩ := by kernel_rfl
                        go_upto_region 43 with (fail)
                        refine wp_region_mix (fun w' => w'.cell? ⟨w.heap.size + 1 + 1, 0, none⟩ = some (.slice p n c)) [(0, 1), (1, 0), (2, 0), (3, 0), (4, 0), (5, 0), (6, 0), (7, 0), (8, 0), (9, 0), (10, 0), (11, 0), (12, 0), (13, 3), (14, 2), (15, 2)] (by kernel_rfl) (by kernel_rfl) (fun _ _ _ _ _ h => h) ?_
                        simp only [List.map_cons, List.map_nil, opOf, List.getD_cons_zero, List.getD_cons_succ]
                        change wpMix _ _ _ _ _ _ x6'.drew
                        have ed : Below x6'.heap.size x6' x6'.drew := (Below.refl _ _).drew
                        have hA : atT (w.heap.size + 2) (w.heap.size + 1 + 1) x6'.drew (pre5 0) := atT_below ⟨hg, p, n, c, hrow, hown⟩ ed
                        have hrow' : rowB x6'.drew (w.heap.size + 1 + 1) 27 #[.slice p n c] := hrow
                        have hown' := strsO_below hown ed
                        obtain ⟨nb', sp'⟩ := keepT_below (lo := w.heap.size + 2) ⟨hg, p, n, c, hrow, hown⟩ ed _ _ _ nb sp
                        have dd := d'.trans (ed.mono (Nat.le_trans k0 d'.size))
                        have hc : x6'.drew.cell? ⟨w.heap.size + 1 + 1, 0, none⟩ = some (.slice p n c) := rowB_cell hrow' 0 rfl
                        clear nb sp d' hrow hown ed t0 hA
                        generalize x6'.drew = v at *
                        have hvs := Nat.le_trans k0 dd.size
                        refine wpMix_held (.slice p n c) rfl hc (fun w' hw' => by go_simp) ?_
                        simp only [Act.put, List.setIfInBounds_toArray, List.set_cons_zero, List.set_cons_succ]
                        refine wpMix_still (fun K hK => ?_)
                        go_simp
                        refine hK _ ?_
                        clear hK K
                        refine wpMix_still (fun K hK => ?_)
                        go_simp
                        refine hK _ ?_
                        clear hK K
                        refine wpMix_still (fun K hK => ?_)
                        go_simp
                        refine hK _ ?_
                        clear hK K
                        refine wpMix_still (fun K hK => ?_)
                        go_simp
                        refine hK _ ?_
                        clear hK K
                        refine wpMix_still (fun K hK => ?_)
                        go_simp
                        refine hK _ ?_
                        clear hK K
                        refine wpMix_still (fun K hK => ?_)
                        go_simp
                        refine hK _ ?_
                        clear hK K
                        refine wpMix_still (fun K hK => ?_)
                        go_simp
                        refine hK _ ?_
                        clear hK K
                        refine wpMix_still (fun K hK => ?_)
                        go_simp
                        refine hK _ ?_
                        clear hK K
                        refine wpMix_still (fun K hK => ?_)
                        go_simp
                        refine hK _ ?_
                        clear hK K
                        refine wpMix_still (fun K hK => ?_)
                        go_simp
                        refine hK _ ?_
                        clear hK K
                        refine wpMix_still (fun K hK => ?_)
                        go_simp
                        refine hK _ ?_
                        clear hK K
                        refine wpMix_still (fun K hK => ?_)
                        go_simp
                        refine hK _ ?_
                        clear hK K
                        refine wpMix_call ?_
                        go_wp2_with fail
                        have r2 := rowB_alloc hrow' (.cells #[.string ⟨#[98, 101, 113, 32, 55, 32, 114, 80, 84, 40, 102, 49, 122, 41, 32, 45, 40, 114, 67, 84, 41]⟩] 9)
                        have q2 : (v.alloc (.cells #[.string ⟨#[98, 101, 113, 32, 55, 32, 114, 80, 84, 40, 102, 49, 122, 41, 32, 45, 40, 114, 67, 84, 41]⟩] 9)).cell? ⟨w.heap.size + 1 + 1, 0, none⟩ = some (.slice p n c) := rowB_cell r2 0 rfl
                        first | refine ⟨fun _ => q2, ?_⟩ | refine ⟨q2, ?_⟩
                        have o2 := strsO_below hown' (below_one v (.cells #[.string ⟨#[98, 101, 113, 32, 55, 32, 114, 80, 84, 40, 102, 49, 122, 41, 32, 45, 40, 114, 67, 84, 41]⟩] 9))
                        have n2 := rowB_new v 9 #[.string ⟨#[98, 101, 113, 32, 55, 32, 114, 80, 84, 40, 102, 49, 122, 41, 32, 45, 40, 114, 67, 84, 41]⟩]
                        clear r2 q2 hW hU1 hU2 hC30 hC31 hC32 hC33
                        refine wpMix_call ?_
                        go_wp2_with (at_builtin; refine wpList_str1 rfl _ _ rfl (w.heap.size + 2) _ (pre5 0) rfl o2 v.heap.size ⟨#[98, 101, 113, 32, 55, 32, 114, 80, 84, 40, 102, 49, 122, 41, 32, 45, 40, 114, 67, 84, 41]⟩ rfl n2 (by show txL48.length ≤ 1000; rw [txL48_len]; decide) (by simp; omega) ?_)
                        intro b3 n3 c3 w3 o3 g3 at3
                        obtain ⟨row3, a3, d3, k3⟩ := line_put hg hvs hrow' hown' o3 g3 (by first | exact at3 | (simp; simpa using at3))
                        obtain ⟨nb3, sp3⟩ := k3 _ _ _ nb' sp'
                        have dd3 := dd.trans d3
                        have z3 := rowB_free row3 0
                        have q3 : w3.cell? ⟨w.heap.size + 1 + 1, 0, none⟩ = some (.slice p n c) := rowB_cell row3 0 rfl
                        clear o2 n2 o3 g3 at3 row3 d3 k3 nb' sp' dd hrow' hown' hc
                        go_wp2_with fail
                        try refine ⟨fun h => (by cases h), ?_⟩
                        refine wpMix_call ?_
                        go_wp2_with fail
                        try refine ⟨fun h => (by cases h), ?_⟩
                        refine wpMix_nil ?_
                        clear z3 q3
                        go_wp2_with fail
                        go_roundw
                        case rel => exact ⟨1, by omega, by go_num, a3, dd3, nb3, sp3⟩
                        case measure => simp [intOf]
                      · obtain ⟨hg, p, n, c, hrow, hown⟩ := a'
                        have t0 := rowB_cell nb 1 (v := .string ⟨#[98, 110, 101]⟩) rfl
                        have hW : IntKind.i64.wrap 4 = 4 := by decide
                        have hU1 : ∀ h : 4 < (⟨#[48, 49, 48, 49, 48, 49]⟩ : ByteArray).size, Utf8.encode ((((⟨#[48, 49, 48, 49, 48, 49]⟩ : ByteArray)[4]'h).toNat : Nat) : Int) = ⟨#[48]⟩ := fun h => by kernel_rfl
                        have hU2 : ∀ h : 1 < (⟨#[122, 122, 99, 99, 110, 110]⟩ : ByteArray).size, Utf8.encode ((((⟨#[122, 122, 99, 99, 110, 110]⟩ : ByteArray)[1]'h).toNat : Nat) : Int) = ⟨#[122]⟩ := fun h => by kernel_rfl
                        have hC34 : (⟨#[98, 110, 101]⟩ : ByteArray) ++ ⟨#[32, 55, 32, 114, 80, 84, 40, 102]⟩ = ⟨#[98, 110, 101, 32, 55, 32, 114, 80, 84, 40, 102]⟩ := by kernel_rfl
                        have hC35 : (⟨#[98, 110, 101, 32, 55, 32, 114, 80, 84, 40, 102]⟩ : ByteArray) ++ ⟨#[48]⟩ = ⟨#[98, 110, 101, 32, 55, 32, 114, 80, 84, 40, 102, 48]⟩ := by kernel_rfl
                        have hC36 : (⟨#[98, 110, 101, 32, 55, 32, 114, 80, 84, 40, 102, 48]⟩ : ByteArray) ++ ⟨#[122]⟩ = ⟨#[98, 110, 101, 32, 55, 32, 114, 80, 84, 40, 102, 48, 122]⟩ := by kernel_rfl
                        have hC37 : (⟨#[98, 110, 101, 32, 55, 32, 114, 80, 84, 40, 102, 48, 122]⟩ : ByteArray) ++ ⟨#[41, 32, 45, 40, 114, 67, 84, 41]⟩ = ⟨#[98, 110, 101, 32, 55, 32, 114, 80, 84, 40, 102, 48, 122, 41, 32, 45, 40, 114, 67, 84, 41]⟩ := by kernel_rfl
                        go_upto_region 43 with (fail)
                        refine wp_region_mix (fun w' => w'.cell? ⟨w.heap.size + 1 + 1, 0, none⟩ = some (.slice p n c)) [(0, 1), (1, 0), (2, 0), (3, 0), (4, 0), (5, 0), (6, 0), (7, 0), (8, 0), (9, 0), (10, 0), (11, 0), (12, 0), (13, 3), (14, 2), (15, 2)] (by kernel_rfl) (by kernel_rfl) (fun _ _ _ _ _ h => h) ?_
                        simp only [List.map_cons, List.map_nil, opOf, List.getD_cons_zero, List.getD_cons_succ]
                        change wpMix _ _ _ _ _ _ x6'.drew
                        have ed : Below x6'.heap.size x6' x6'.drew := (Below.refl _ _).drew
                        have hA : atT (w.heap.size + 2) (w.heap.size + 1 + 1) x6'.drew (pre5 1) := atT_below ⟨hg, p, n, c, hrow, hown⟩ ed
                        have hrow' : rowB x6'.drew (w.heap.size + 1 + 1) 27 #[.slice p n c] := hrow
                        have hown' := strsO_below hown ed
                        obtain ⟨nb', sp'⟩ := keepT_below (lo := w.heap.size + 2) ⟨hg, p, n, c, hrow, hown⟩ ed _ _ _ nb sp
                        have dd := d'.trans (ed.mono (Nat.le_trans k0 d'.size))
                        have hc : x6'.drew.cell? ⟨w.heap.size + 1 + 1, 0, none⟩ = some (.slice p n c) := rowB_cell hrow' 0 rfl
                        clear nb sp d' hrow hown ed t0 hA
                        generalize x6'.drew = v at *
                        have hvs := Nat.le_trans k0 dd.size
                        refine wpMix_held (.slice p n c) rfl hc (fun w' hw' => by go_simp) ?_
                        simp only [Act.put, List.setIfInBounds_toArray, List.set_cons_zero, List.set_cons_succ]
                        refine wpMix_still (fun K hK => ?_)
                        go_simp
                        refine hK _ ?_
                        clear hK K
                        refine wpMix_still (fun K hK => ?_)
                        go_simp
                        refine hK _ ?_
                        clear hK K
                        refine wpMix_still (fun K hK => ?_)
                        go_simp
                        refine hK _ ?_
                        clear hK K
                        refine wpMix_still (fun K hK => ?_)
                        go_simp
                        refine hK _ ?_
                        clear hK K
                        refine wpMix_still (fun K hK => ?_)
                        go_simp
                        refine hK _ ?_
                        clear hK K
                        refine wpMix_still (fun K hK => ?_)
                        go_simp
                        refine hK _ ?_
                        clear hK K
                        refine wpMix_still (fun K hK => ?_)
                        go_simp
                        refine hK _ ?_
                        clear hK K
                        refine wpMix_still (fun K hK => ?_)
                        go_simp
                        refine hK _ ?_
                        clear hK K
                        refine wpMix_still (fun K hK => ?_)
                        go_simp
                        refine hK _ ?_
                        clear hK K
                        refine wpMix_still (fun K hK => ?_)
                        go_simp
                        refine hK _ ?_
                        clear hK K
                        refine wpMix_still (fun K hK => ?_)
                        go_simp
                        refine hK _ ?_
                        clear hK K
                        refine wpMix_still (fun K hK => ?_)
                        go_simp
                        refine hK _ ?_
                        clear hK K
                        refine wpMix_call ?_
                        go_wp2_with fail
                        have r2 := rowB_alloc hrow' (.cells #[.string ⟨#[98, 110, 101, 32, 55, 32, 114, 80, 84, 40, 102, 48, 122, 41, 32, 45, 40, 114, 67, 84, 41]⟩] 9)
                        have q2 : (v.alloc (.cells #[.string ⟨#[98, 110, 101, 32, 55, 32, 114, 80, 84, 40, 102, 48, 122, 41, 32, 45, 40, 114, 67, 84, 41]⟩] 9)).cell? ⟨w.heap.size + 1 + 1, 0, none⟩ = some (.slice p n c) := rowB_cell r2 0 rfl
                        first | refine ⟨fun _ => q2, ?_⟩ | refine ⟨q2, ?_⟩
                        have o2 := strsO_below hown' (below_one v (.cells #[.string ⟨#[98, 110, 101, 32, 55, 32, 114, 80, 84, 40, 102, 48, 122, 41, 32, 45, 40, 114, 67, 84, 41]⟩] 9))
                        have n2 := rowB_new v 9 #[.string ⟨#[98, 110, 101, 32, 55, 32, 114, 80, 84, 40, 102, 48, 122, 41, 32, 45, 40, 114, 67, 84, 41]⟩]
                        clear r2 q2 hW hU1 hU2 hC34 hC35 hC36 hC37
                        refine wpMix_call ?_
                        go_wp2_with (at_builtin; refine wpList_str1 rfl _ _ rfl (w.heap.size + 2) _ (pre5 1) rfl o2 v.heap.size ⟨#[98, 110, 101, 32, 55, 32, 114, 80, 84, 40, 102, 48, 122, 41, 32, 45, 40, 114, 67, 84, 41]⟩ rfl n2 (by show txL49.length ≤ 1000; rw [txL49_len]; decide) (by simp; omega) ?_)
                        intro b3 n3 c3 w3 o3 g3 at3
                        obtain ⟨row3, a3, d3, k3⟩ := line_put hg hvs hrow' hown' o3 g3 (by first | exact at3 | (simp; simpa using at3))
                        obtain ⟨nb3, sp3⟩ := k3 _ _ _ nb' sp'
                        have dd3 := dd.trans d3
                        have z3 := rowB_free row3 0
                        have q3 : w3.cell? ⟨w.heap.size + 1 + 1, 0, none⟩ = some (.slice p n c) := rowB_cell row3 0 rfl
                        clear o2 n2 o3 g3 at3 row3 d3 k3 nb' sp' dd hrow' hown' hc
                        go_wp2_with fail
                        try refine ⟨fun h => (by cases h), ?_⟩
                        refine wpMix_call ?_
                        go_wp2_with fail
                        try refine ⟨fun h => (by cases h), ?_⟩
                        refine wpMix_nil ?_
                        clear z3 q3
                        go_wp2_with fail
                        go_roundw
                        case rel => exact ⟨2, by omega, by go_num, a3, dd3, nb3, sp3⟩
                        case measure => simp [intOf]
                      · obtain ⟨hg, p, n, c, hrow, hown⟩ := a'
                        have t0 := rowB_cell nb 2 (v := .string ⟨#[98, 99, 115]⟩) rfl
                        have hW : IntKind.i64.wrap 3 = 3 := by decide
                        have hU1 : ∀ h : 3 < (⟨#[48, 49, 48, 49, 48, 49]⟩ : ByteArray).size, Utf8.encode ((((⟨#[48, 49, 48, 49, 48, 49]⟩ : ByteArray)[3]'h).toNat : Nat) : Int) = ⟨#[49]⟩ := fun h => by kernel_rfl
                        have hU2 : ∀ h : 2 < (⟨#[122, 122, 99, 99, 110, 110]⟩ : ByteArray).size, Utf8.encode ((((⟨#[122, 122, 99, 99, 110, 110]⟩ : ByteArray)[2]'h).toNat : Nat) : Int) = ⟨#[99]⟩ := fun h => by kernel_rfl
                        have hC38 : (⟨#[98, 99, 115]⟩ : ByteArray) ++ ⟨#[32, 55, 32, 114, 80, 84, 40, 102]⟩ = ⟨#[98, 99, 115, 32, 55, 32, 114, 80, 84, 40, 102]⟩ := by kernel_rfl
                        have hC39 : (⟨#[98, 99, 115, 32, 55, 32, 114, 80, 84, 40, 102]⟩ : ByteArray) ++ ⟨#[49]⟩ = ⟨#[98, 99, 115, 32, 55, 32, 114, 80, 84, 40, 102, 49]⟩ := by kernel_rfl
                        have hC40 : (⟨#[98, 99, 115, 32, 55, 32, 114, 80, 84, 40, 102, 49]⟩ : ByteArray) ++ ⟨#[99]⟩ = ⟨#[98, 99, 115, 32, 55, 32, 114, 80, 84, 40, 102, 49, 99]⟩ := by kernel_rfl
                        have hC41 : (⟨#[98, 99, 115, 32, 55, 32, 114, 80, 84, 40, 102, 49, 99]⟩ : ByteArray) ++ ⟨#[41, 32, 45, 40, 114, 67, 84, 41]⟩ = ⟨#[98, 99, 115, 32, 55, 32, 114, 80, 84, 40, 102, 49, 99, 41, 32, 45, 40, 114, 67, 84, 41]⟩ := by kernel_rfl
                        go_upto_region 43 with (fail)
                        refine wp_region_mix (fun w' => w'.cell? ⟨w.heap.size + 1 + 1, 0, none⟩ = some (.slice p n c)) [(0, 1), (1, 0), (2, 0), (3, 0), (4, 0), (5, 0), (6, 0), (7, 0), (8, 0), (9, 0), (10, 0), (11, 0), (12, 0), (13, 3), (14, 2), (15, 2)] (by kernel_rfl) (by kernel_rfl) (fun _ _ _ _ _ h => h) ?_
                        simp only [List.map_cons, List.map_nil, opOf, List.getD_cons_zero, List.getD_cons_succ]
                        change wpMix _ _ _ _ _ _ x6'.drew
                        have ed : Below x6'.heap.size x6' x6'.drew := (Below.refl _ _).drew
                        have hA : atT (w.heap.size + 2) (w.heap.size + 1 + 1) x6'.drew (pre5 2) := atT_below ⟨hg, p, n, c, hrow, hown⟩ ed
                        have hrow' : rowB x6'.drew (w.heap.size + 1 + 1) 27 #[.slice p n c] := hrow
                        have hown' := strsO_below hown ed
                        obtain ⟨nb', sp'⟩ := keepT_below (lo := w.heap.size + 2) ⟨hg, p, n, c, hrow, hown⟩ ed _ _ _ nb sp
                        have dd := d'.trans (ed.mono (Nat.le_trans k0 d'.size))
                        have hc : x6'.drew.cell? ⟨w.heap.size + 1 + 1, 0, none⟩ = some (.slice p n c) := rowB_cell hrow' 0 rfl
                        clear nb sp d' hrow hown ed t0 hA
                        generalize x6'.drew = v at *
                        have hvs := Nat.le_trans k0 dd.size
                        refine wpMix_held (.slice p n c) rfl hc (fun w' hw' => by go_simp) ?_
                        simp only [Act.put, List.setIfInBounds_toArray, List.set_cons_zero, List.set_cons_succ]
                        refine wpMix_still (fun K hK => ?_)
                        go_simp
                        refine hK _ ?_
                        clear hK K
                        refine wpMix_still (fun K hK => ?_)
                        go_simp
                        refine hK _ ?_
                        clear hK K
                        refine wpMix_still (fun K hK => ?_)
                        go_simp
                        refine hK _ ?_
                        clear hK K
                        refine wpMix_still (fun K hK => ?_)
                        go_simp
                        refine hK _ ?_
                        clear hK K
                        refine wpMix_still (fun K hK => ?_)
                        go_simp
                        refine hK _ ?_
                        clear hK K
                        refine wpMix_still (fun K hK => ?_)
                        go_simp
                        refine hK _ ?_
                        clear hK K
                        refine wpMix_still (fun K hK => ?_)
                        go_simp
                        refine hK _ ?_
                        clear hK K
                        refine wpMix_still (fun K hK => ?_)
                        go_simp
                        refine hK _ ?_
                        clear hK K
                        refine wpMix_still (fun K hK => ?_)
                        go_simp
                        refine hK _ ?_
                        clear hK K
                        refine wpMix_still (fun K hK => ?_)
                        go_simp
                        refine hK _ ?_
                        clear hK K
                        refine wpMix_still (fun K hK => ?_)
                        go_simp
                        refine hK _ ?_
                        clear hK K
                        refine wpMix_still (fun K hK => ?_)
                        go_simp
                        refine hK _ ?_
                        clear hK K
                        refine wpMix_call ?_
                        go_wp2_with fail
                        have r2 := rowB_alloc hrow' (.cells #[.string ⟨#[98, 99, 115, 32, 55, 32, 114, 80, 84, 40, 102, 49, 99, 41, 32, 45, 40, 114, 67, 84, 41]⟩] 9)
                        have q2 : (v.alloc (.cells #[.string ⟨#[98, 99, 115, 32, 55, 32, 114, 80, 84, 40, 102, 49, 99, 41, 32, 45, 40, 114, 67, 84, 41]⟩] 9)).cell? ⟨w.heap.size + 1 + 1, 0, none⟩ = some (.slice p n c) := rowB_cell r2 0 rfl
                        first | refine ⟨fun _ => q2, ?_⟩ | refine ⟨q2, ?_⟩
                        have o2 := strsO_below hown' (below_one v (.cells #[.string ⟨#[98, 99, 115, 32, 55, 32, 114, 80, 84, 40, 102, 49, 99, 41, 32, 45, 40, 114, 67, 84, 41]⟩] 9))
                        have n2 := rowB_new v 9 #[.string ⟨#[98, 99, 115, 32, 55, 32, 114, 80, 84, 40, 102, 49, 99, 41, 32, 45, 40, 114, 67, 84, 41]⟩]
                        clear r2 q2 hW hU1 hU2 hC38 hC39 hC40 hC41
                        refine wpMix_call ?_
                        go_wp2_with (at_builtin; refine wpList_str1 rfl _ _ rfl (w.heap.size + 2) _ (pre5 2) rfl o2 v.heap.size ⟨#[98, 99, 115, 32, 55, 32, 114, 80, 84, 40, 102, 49, 99, 41, 32, 45, 40, 114, 67, 84, 41]⟩ rfl n2 (by show txL50.length ≤ 1000; rw [txL50_len]; decide) (by simp; omega) ?_)
                        intro b3 n3 c3 w3 o3 g3 at3
                        obtain ⟨row3, a3, d3, k3⟩ := line_put hg hvs hrow' hown' o3 g3 (by first | exact at3 | (simp; simpa using at3))
                        obtain ⟨nb3, sp3⟩ := k3 _ _ _ nb' sp'
                        have dd3 := dd.trans d3
                        have z3 := rowB_free row3 0
                        have q3 : w3.cell? ⟨w.heap.size + 1 + 1, 0, none⟩ = some (.slice p n c) := rowB_cell row3 0 rfl
                        clear o2 n2 o3 g3 at3 row3 d3 k3 nb' sp' dd hrow' hown' hc
                        go_wp2_with fail
                        try refine ⟨fun h => (by cases h), ?_⟩
                        refine wpMix_call ?_
                        go_wp2_with fail
                        try refine ⟨fun h => (by cases h), ?_⟩
                        refine wpMix_nil ?_
                        clear z3 q3
                        go_wp2_with fail
                        go_roundw
                        case rel => exact ⟨3, by omega, by go_num, a3, dd3, nb3, sp3⟩
                        case measure => simp [intOf]
                      · obtain ⟨hg, p, n, c, hrow, hown⟩ := a'
                        have t0 := rowB_cell nb 3 (v := .string ⟨#[98, 99, 99]⟩) rfl
                        have hW : IntKind.i64.wrap 2 = 2 := by decide
                        have hU1 : ∀ h : 2 < (⟨#[48, 49, 48, 49, 48, 49]⟩ : ByteArray).size, Utf8.encode ((((⟨#[48, 49, 48, 49, 48, 49]⟩ : ByteArray)[2]'h).toNat : Nat) : Int) = ⟨#[48]⟩ := fun h => by kernel_rfl
                        have hU2 : ∀ h : 3 < (⟨#[122, 122, 99, 99, 110, 110]⟩ : ByteArray).size, Utf8.encode ((((⟨#[122, 122, 99, 99, 110, 110]⟩ : ByteArray)[3]'h).toNat : Nat) : Int) = ⟨#[99]⟩ := fun h => by kernel_rfl
                        have hC42 : (⟨#[98, 99, 99]⟩ : ByteArray) ++ ⟨#[32, 55, 32, 114, 80, 84, 40, 102]⟩ = ⟨#[98, 99, 99, 32, 55, 32, 114, 80, 84, 40, 102]⟩ := by kernel_rfl
                        have hC43 : (⟨#[98, 99, 99, 32, 55, 32, 114, 80, 84, 40, 102]⟩ : ByteArray) ++ ⟨#[48]⟩ = ⟨#[98, 99, 99, 32, 55, 32, 114, 80, 84, 40, 102, 48]⟩ := by kernel_rfl
                        have hC44 : (⟨#[98, 99, 99, 32, 55, 32, 114, 80, 84, 40, 102, 48]⟩ : ByteArray) ++ ⟨#[99]⟩ = ⟨#[98, 99, 99, 32, 55, 32, 114, 80, 84, 40, 102, 48, 99]⟩ := by kernel_rfl
                        have hC45 : (⟨#[98, 99, 99, 32, 55, 32, 114, 80, 84, 40, 102, 48, 99]⟩ : ByteArray) ++ ⟨#[41, 32, 45, 40, 114, 67, 84, 41]⟩ = ⟨#[98, 99, 99, 32, 55, 32, 114, 80, 84, 40, 102, 48, 99, 41, 32, 45, 40, 114, 67, 84, 41]⟩ := by kernel_rfl
                        go_upto_region 43 with (fail)
                        refine wp_region_mix (fun w' => w'.cell? ⟨w.heap.size + 1 + 1, 0, none⟩ = some (.slice p n c)) [(0, 1), (1, 0), (2, 0), (3, 0), (4, 0), (5, 0), (6, 0), (7, 0), (8, 0), (9, 0), (10, 0), (11, 0), (12, 0), (13, 3), (14, 2), (15, 2)] (by kernel_rfl) (by kernel_rfl) (fun _ _ _ _ _ h => h) ?_
                        simp only [List.map_cons, List.map_nil, opOf, List.getD_cons_zero, List.getD_cons_succ]
                        change wpMix _ _ _ _ _ _ x6'.drew
                        have ed : Below x6'.heap.size x6' x6'.drew := (Below.refl _ _).drew
                        have hA : atT (w.heap.size + 2) (w.heap.size + 1 + 1) x6'.drew (pre5 3) := atT_below ⟨hg, p, n, c, hrow, hown⟩ ed
                        have hrow' : rowB x6'.drew (w.heap.size + 1 + 1) 27 #[.slice p n c] := hrow
                        have hown' := strsO_below hown ed
                        obtain ⟨nb', sp'⟩ := keepT_below (lo := w.heap.size + 2) ⟨hg, p, n, c, hrow, hown⟩ ed _ _ _ nb sp
                        have dd := d'.trans (ed.mono (Nat.le_trans k0 d'.size))
                        have hc : x6'.drew.cell? ⟨w.heap.size + 1 + 1, 0, none⟩ = some (.slice p n c) := rowB_cell hrow' 0 rfl
                        clear nb sp d' hrow hown ed t0 hA
                        generalize x6'.drew = v at *
                        have hvs := Nat.le_trans k0 dd.size
                        refine wpMix_held (.slice p n c) rfl hc (fun w' hw' => by go_simp) ?_
                        simp only [Act.put, List.setIfInBounds_toArray, List.set_cons_zero, List.set_cons_succ]
                        refine wpMix_still (fun K hK => ?_)
                        go_simp
                        refine hK _ ?_
                        clear hK K
                        refine wpMix_still (fun K hK => ?_)
                        go_simp
                        refine hK _ ?_
                        clear hK K
                        refine wpMix_still (fun K hK => ?_)
                        go_simp
                        refine hK _ ?_
                        clear hK K
                        refine wpMix_still (fun K hK => ?_)
                        go_simp
                        refine hK _ ?_
                        clear hK K
                        refine wpMix_still (fun K hK => ?_)
                        go_simp
                        refine hK _ ?_
                        clear hK K
                        refine wpMix_still (fun K hK => ?_)
                        go_simp
                        refine hK _ ?_
                        clear hK K
                        refine wpMix_still (fun K hK => ?_)
                        go_simp
                        refine hK _ ?_
                        clear hK K
                        refine wpMix_still (fun K hK => ?_)
                        go_simp
                        refine hK _ ?_
                        clear hK K
                        refine wpMix_still (fun K hK => ?_)
                        go_simp
                        refine hK _ ?_
                        clear hK K
                        refine wpMix_still (fun K hK => ?_)
                        go_simp
                        refine hK _ ?_
                        clear hK K
                        refine wpMix_still (fun K hK => ?_)
                        go_simp
                        refine hK _ ?_
                        clear hK K
                        refine wpMix_still (fun K hK => ?_)
                        go_simp
                        refine hK _ ?_
                        clear hK K
                        refine wpMix_call ?_
                        go_wp2_with fail
                        have r2 := rowB_alloc hrow' (.cells #[.string ⟨#[98, 99, 99, 32, 55, 32, 114, 80, 84, 40, 102, 48, 99, 41, 32, 45, 40, 114, 67, 84, 41]⟩] 9)
                        have q2 : (v.alloc (.cells #[.string ⟨#[98, 99, 99, 32, 55, 32, 114, 80, 84, 40, 102, 48, 99, 41, 32, 45, 40, 114, 67, 84, 41]⟩] 9)).cell? ⟨w.heap.size + 1 + 1, 0, none⟩ = some (.slice p n c) := rowB_cell r2 0 rfl
                        first | refine ⟨fun _ => q2, ?_⟩ | refine ⟨q2, ?_⟩
                        have o2 := strsO_below hown' (below_one v (.cells #[.string ⟨#[98, 99, 99, 32, 55, 32, 114, 80, 84, 40, 102, 48, 99, 41, 32, 45, 40, 114, 67, 84, 41]⟩] 9))
                        have n2 := rowB_new v 9 #[.string ⟨#[98, 99, 99, 32, 55, 32, 114, 80, 84, 40, 102, 48, 99, 41, 32, 45, 40, 114, 67, 84, 41]⟩]
                        clear r2 q2 hW hU1 hU2 hC42 hC43 hC44 hC45
                        refine wpMix_call ?_
                        go_wp2_with (at_builtin; refine wpList_str1 rfl _ _ rfl (w.heap.size + 2) _ (pre5 3) rfl o2 v.heap.size ⟨#[98, 99, 99, 32, 55, 32, 114, 80, 84, 40, 102, 48, 99, 41, 32, 45, 40, 114, 67, 84, 41]⟩ rfl n2 (by show txL51.length ≤ 1000; rw [txL51_len]; decide) (by simp; omega) ?_)
                        intro b3 n3 c3 w3 o3 g3 at3
                        obtain ⟨row3, a3, d3, k3⟩ := line_put hg hvs hrow' hown' o3 g3 (by first | exact at3 | (simp; simpa using at3))
                        obtain ⟨nb3, sp3⟩ := k3 _ _ _ nb' sp'
                        have dd3 := dd.trans d3
                        have z3 := rowB_free row3 0
                        have q3 : w3.cell? ⟨w.heap.size + 1 + 1, 0, none⟩ = some (.slice p n c) := rowB_cell row3 0 rfl
                        clear o2 n2 o3 g3 at3 row3 d3 k3 nb' sp' dd hrow' hown' hc
                        go_wp2_with fail
                        try refine ⟨fun h => (by cases h), ?_⟩
                        refine wpMix_call ?_
                        go_wp2_with fail
                        try refine ⟨fun h => (by cases h), ?_⟩
                        refine wpMix_nil ?_
                        clear z3 q3
                        go_wp2_with fail
                        go_roundw
                        case rel => exact ⟨4, by omega, by go_num, a3, dd3, nb3, sp3⟩
                        case measure => simp [intOf]
                      · obtain ⟨hg, p, n, c, hrow, hown⟩ := a'
                        have t0 := rowB_cell nb 4 (v := .string ⟨#[98, 109, 105]⟩) rfl
                        have hW : IntKind.i64.wrap 1 = 1 := by decide
                        have hU1 : ∀ h : 1 < (⟨#[48, 49, 48, 49, 48, 49]⟩ : ByteArray).size, Utf8.encode ((((⟨#[48, 49, 48, 49, 48, 49]⟩ : ByteArray)[1]'h).toNat : Nat) : Int) = ⟨#[49]⟩ := fun h => by kernel_rfl
                        have hU2 : ∀ h : 4 < (⟨#[122, 122, 99, 99, 110, 110]⟩ : ByteArray).size, Utf8.encode ((((⟨#[122, 122, 99, 99, 110, 110]⟩ : ByteArray)[4]'h).toNat : Nat) : Int) = ⟨#[110]⟩ := fun h => by kernel_rfl
                        have hC46 : (⟨#[98, 109, 105]⟩ : ByteArray) ++ ⟨#[32, 55, 32, 114, 80, 84, 40, 102]⟩ = ⟨#[98, 109, 105, 32, 55, 32, 114, 80, 84, 40, 102]⟩ := by kernel_rfl
                        have hC47 : (⟨#[98, 109, 105, 32, 55, 32, 114, 80, 84, 40, 102]⟩ : ByteArray) ++ ⟨#[49]⟩ = ⟨#[98, 109, 105, 32, 55, 32, 114, 80, 84, 40, 102, 49]⟩ := by kernel_rfl
                        have hC48 : (⟨#[98, 109, 105, 32, 55, 32, 114, 80, 84, 40, 102, 49]⟩ : ByteArray) ++ ⟨#[110]⟩ = ⟨#[98, 109, 105, 32, 55, 32, 114, 80, 84, 40, 102, 49, 110]⟩ := by kernel_rfl
                        have hC49 : (⟨#[98, 109, 105, 32, 55, 32, 114, 80, 84, 40, 102, 49, 110]⟩ : ByteArray) ++ ⟨#[41, 32, 45, 40, 114, 67, 84, 41]⟩ = ⟨#[98, 109, 105, 32, 55, 32, 114, 80, 84, 40, 102, 49, 110, 41, 32, 45, 40, 114, 67, 84, 41]⟩ := by kernel_rfl
                        go_upto_region 43 with (fail)
                        refine wp_region_mix (fun w' => w'.cell? ⟨w.heap.size + 1 + 1, 0, none⟩ = some (.slice p n c)) [(0, 1), (1, 0), (2, 0), (3, 0), (4, 0), (5, 0), (6, 0), (7, 0), (8, 0), (9, 0), (10, 0), (11, 0), (12, 0), (13, 3), (14, 2), (15, 2)] (by kernel_rfl) (by kernel_rfl) (fun _ _ _ _ _ h => h) ?_
                        simp only [List.map_cons, List.map_nil, opOf, List.getD_cons_zero, List.getD_cons_succ]
                        change wpMix _ _ _ _ _ _ x6'.drew
                        have ed : Below x6'.heap.size x6' x6'.drew := (Below.refl _ _).drew
                        have hA : atT (w.heap.size + 2) (w.heap.size + 1 + 1) x6'.drew (pre5 4) := atT_below ⟨hg, p, n, c, hrow, hown⟩ ed
                        have hrow' : rowB x6'.drew (w.heap.size + 1 + 1) 27 #[.slice p n c] := hrow
                        have hown' := strsO_below hown ed
                        obtain ⟨nb', sp'⟩ := keepT_below (lo := w.heap.size + 2) ⟨hg, p, n, c, hrow, hown⟩ ed _ _ _ nb sp
                        have dd := d'.trans (ed.mono (Nat.le_trans k0 d'.size))
                        have hc : x6'.drew.cell? ⟨w.heap.size + 1 + 1, 0, none⟩ = some (.slice p n c) := rowB_cell hrow' 0 rfl
                        clear nb sp d' hrow hown ed t0 hA
                        generalize x6'.drew = v at *
                        have hvs := Nat.le_trans k0 dd.size
                        refine wpMix_held (.slice p n c) rfl hc (fun w' hw' => by go_simp) ?_
                        simp only [Act.put, List.setIfInBounds_toArray, List.set_cons_zero, List.set_cons_succ]
                        refine wpMix_still (fun K hK => ?_)
                        go_simp
                        refine hK _ ?_
                        clear hK K
                        refine wpMix_still (fun K hK => ?_)
                        go_simp
                        refine hK _ ?_
                        clear hK K
                        refine wpMix_still (fun K hK => ?_)
                        go_simp
                        refine hK _ ?_
                        clear hK K
                        refine wpMix_still (fun K hK => ?_)
                        go_simp
                        refine hK _ ?_
                        clear hK K
                        refine wpMix_still (fun K hK => ?_)
                        go_simp
                        refine hK _ ?_
                        clear hK K
                        refine wpMix_still (fun K hK => ?_)
                        go_simp
                        refine hK _ ?_
                        clear hK K
                        refine wpMix_still (fun K hK => ?_)
                        go_simp
                        refine hK _ ?_
                        clear hK K
                        refine wpMix_still (fun K hK => ?_)
                        go_simp
                        refine hK _ ?_
                        clear hK K
                        refine wpMix_still (fun K hK => ?_)
                        go_simp
                        refine hK _ ?_
                        clear hK K
                        refine wpMix_still (fun K hK => ?_)
                        go_simp
                        refine hK _ ?_
                        clear hK K
                        refine wpMix_still (fun K hK => ?_)
                        go_simp
                        refine hK _ ?_
                        clear hK K
                        refine wpMix_still (fun K hK => ?_)
                        go_simp
                        refine hK _ ?_
                        clear hK K
                        refine wpMix_call ?_
                        go_wp2_with fail
                        have r2 := rowB_alloc hrow' (.cells #[.string ⟨#[98, 109, 105, 32, 55, 32, 114, 80, 84, 40, 102, 49, 110, 41, 32, 45, 40, 114, 67, 84, 41]⟩] 9)
                        have q2 : (v.alloc (.cells #[.string ⟨#[98, 109, 105, 32, 55, 32, 114, 80, 84, 40, 102, 49, 110, 41, 32, 45, 40, 114, 67, 84, 41]⟩] 9)).cell? ⟨w.heap.size + 1 + 1, 0, none⟩ = some (.slice p n c) := rowB_cell r2 0 rfl
                        first | refine ⟨fun _ => q2, ?_⟩ | refine ⟨q2, ?_⟩
                        have o2 := strsO_below hown' (below_one v (.cells #[.string ⟨#[98, 109, 105, 32, 55, 32, 114, 80, 84, 40, 102, 49, 110, 41, 32, 45, 40, 114, 67, 84, 41]⟩] 9))
                        have n2 := rowB_new v 9 #[.string ⟨#[98, 109, 105, 32, 55, 32, 114, 80, 84, 40, 102, 49, 110, 41, 32, 45, 40, 114, 67, 84, 41]⟩]
                        clear r2 q2 hW hU1 hU2 hC46 hC47 hC48 hC49
                        refine wpMix_call ?_
                        go_wp2_with (at_builtin; refine wpList_str1 rfl _ _ rfl (w.heap.size + 2) _ (pre5 4) rfl o2 v.heap.size ⟨#[98, 109, 105, 32, 55, 32, 114, 80, 84, 40, 102, 49, 110, 41, 32, 45, 40, 114, 67, 84, 41]⟩ rfl n2 (by show txL52.length ≤ 1000; rw [txL52_len]; decide) (by simp; omega) ?_)
                        intro b3 n3 c3 w3 o3 g3 at3
                        obtain ⟨row3, a3, d3, k3⟩ := line_put hg hvs hrow' hown' o3 g3 (by first | exact at3 | (simp; simpa using at3))
                        obtain ⟨nb3, sp3⟩ := k3 _ _ _ nb' sp'
                        have dd3 := dd.trans d3
                        have z3 := rowB_free row3 0
                        have q3 : w3.cell? ⟨w.heap.size + 1 + 1, 0, none⟩ = some (.slice p n c) := rowB_cell row3 0 rfl
                        clear o2 n2 o3 g3 at3 row3 d3 k3 nb' sp' dd hrow' hown' hc
                        go_wp2_with fail
                        try refine ⟨fun h => (by cases h), ?_⟩
                        refine wpMix_call ?_
                        go_wp2_with fail
                        try refine ⟨fun h => (by cases h), ?_⟩
                        refine wpMix_nil ?_
                        clear z3 q3
                        go_wp2_with fail
                        go_roundw
                        case rel => exact ⟨5, by omega, by go_num, a3, dd3, nb3, sp3⟩
                        case measure => simp [intOf]
                      · obtain ⟨hg, p, n, c, hrow, hown⟩ := a'
                        have t0 := rowB_cell nb 5 (v := .string ⟨#[98, 112, 108]⟩) rfl
                        have hW : IntKind.i64.wrap 0 = 0 := by decide
                        have hU1 : ∀ h : 0 < (⟨#[48, 49, 48, 49, 48, 49]⟩ : ByteArray).size, Utf8.encode ((((⟨#[48, 49, 48, 49, 48, 49]⟩ : ByteArray)[0]'h).toNat : Nat) : Int) = ⟨#[48]⟩ := fun h => by kernel_rfl
                        have hU2 : ∀ h : 5 < (⟨#[122, 122, 99, 99, 110, 110]⟩ : ByteArray).size, Utf8.encode ((((⟨#[122, 122, 99, 99, 110, 110]⟩ : ByteArray)[5]'h).toNat : Nat) : Int) = ⟨#[110]⟩ := fun h => by kernel_rfl
                        have hC50 : (⟨#[98, 112, 108]⟩ : ByteArray) ++ ⟨#[32, 55, 32, 114, 80, 84, 40, 102]⟩ = ⟨#[98, 112, 108, 32, 55, 32, 114, 80, 84, 40, 102]⟩ := by kernel_rfl
                        have hC51 : (⟨#[98, 112, 108, 32, 55, 32, 114, 80, 84, 40, 102]⟩ : ByteArray) ++ ⟨#[48]⟩ = ⟨#[98, 112, 108, 32, 55, 32, 114, 80, 84, 40, 102, 48]⟩ := by kernel_rfl
                        have hC52 : (⟨#[98, 112, 108, 32, 55, 32, 114, 80, 84, 40, 102, 48]⟩ : ByteArray) ++ ⟨#[110]⟩ = ⟨#[98, 112, 108, 32, 55, 32, 114, 80, 84, 40, 102, 48, 110]⟩ := by kernel_rfl
                        have hC53 : (⟨#[98, 112, 108, 32, 55, 32, 114, 80, 84, 40, 102, 48, 110]⟩ : ByteArray) ++ ⟨#[41, 32, 45, 40, 114, 67, 84, 41]⟩ = ⟨#[98, 112, 108, 32, 55, 32, 114, 80, 84, 40, 102, 48, 110, 41, 32, 45, 40, 114, 67, 84, 41]⟩ := by kernel_rfl
                        go_upto_region 43 with (fail)
                        refine wp_region_mix (fun w' => w'.cell? ⟨w.heap.size + 1 + 1, 0, none⟩ = some (.slice p n c)) [(0, 1), (1, 0), (2, 0), (3, 0), (4, 0), (5, 0), (6, 0), (7, 0), (8, 0), (9, 0), (10, 0), (11, 0), (12, 0), (13, 3), (14, 2), (15, 2)] (by kernel_rfl) (by kernel_rfl) (fun _ _ _ _ _ h => h) ?_
                        simp only [List.map_cons, List.map_nil, opOf, List.getD_cons_zero, List.getD_cons_succ]
                        change wpMix _ _ _ _ _ _ x6'.drew
                        have ed : Below x6'.heap.size x6' x6'.drew := (Below.refl _ _).drew
                        have hA : atT (w.heap.size + 2) (w.heap.size + 1 + 1) x6'.drew (pre5 5) := atT_below ⟨hg, p, n, c, hrow, hown⟩ ed
                        have hrow' : rowB x6'.drew (w.heap.size + 1 + 1) 27 #[.slice p n c] := hrow
                        have hown' := strsO_below hown ed
                        obtain ⟨nb', sp'⟩ := keepT_below (lo := w.heap.size + 2) ⟨hg, p, n, c, hrow, hown⟩ ed _ _ _ nb sp
                        have dd := d'.trans (ed.mono (Nat.le_trans k0 d'.size))
                        have hc : x6'.drew.cell? ⟨w.heap.size + 1 + 1, 0, none⟩ = some (.slice p n c) := rowB_cell hrow' 0 rfl
                        clear nb sp d' hrow hown ed t0 hA
                        generalize x6'.drew = v at *
                        have hvs := Nat.le_trans k0 dd.size
                        refine wpMix_held (.slice p n c) rfl hc (fun w' hw' => by go_simp) ?_
                        simp only [Act.put, List.setIfInBounds_toArray, List.set_cons_zero, List.set_cons_succ]
                        refine wpMix_still (fun K hK => ?_)
                        go_simp
                        refine hK _ ?_
                        clear hK K
                        refine wpMix_still (fun K hK => ?_)
                        go_simp
                        refine hK _ ?_
                        clear hK K
                        refine wpMix_still (fun K hK => ?_)
                        go_simp
                        refine hK _ ?_
                        clear hK K
                        refine wpMix_still (fun K hK => ?_)
                        go_simp
                        refine hK _ ?_
                        clear hK K
                        refine wpMix_still (fun K hK => ?_)
                        go_simp
                        refine hK _ ?_
                        clear hK K
                        refine wpMix_still (fun K hK => ?_)
                        go_simp
                        refine hK _ ?_
                        clear hK K
                        refine wpMix_still (fun K hK => ?_)
                        go_simp
                        refine hK _ ?_
                        clear hK K
                        refine wpMix_still (fun K hK => ?_)
                        go_simp
                        refine hK _ ?_
                        clear hK K
                        refine wpMix_still (fun K hK => ?_)
                        go_simp
                        refine hK _ ?_
                        clear hK K
                        refine wpMix_still (fun K hK => ?_)
                        go_simp
                        refine hK _ ?_
                        clear hK K
                        refine wpMix_still (fun K hK => ?_)
                        go_simp
                        refine hK _ ?_
                        clear hK K
                        refine wpMix_still (fun K hK => ?_)
                        go_simp
                        refine hK _ ?_
                        clear hK K
                        refine wpMix_call ?_
                        go_wp2_with fail
                        have r2 := rowB_alloc hrow' (.cells #[.string ⟨#[98, 112, 108, 32, 55, 32, 114, 80, 84, 40, 102, 48, 110, 41, 32, 45, 40, 114, 67, 84, 41]⟩] 9)
                        have q2 : (v.alloc (.cells #[.string ⟨#[98, 112, 108, 32, 55, 32, 114, 80, 84, 40, 102, 48, 110, 41, 32, 45, 40, 114, 67, 84, 41]⟩] 9)).cell? ⟨w.heap.size + 1 + 1, 0, none⟩ = some (.slice p n c) := rowB_cell r2 0 rfl
                        first | refine ⟨fun _ => q2, ?_⟩ | refine ⟨q2, ?_⟩
                        have o2 := strsO_below hown' (below_one v (.cells #[.string ⟨#[98, 112, 108, 32, 55, 32, 114, 80, 84, 40, 102, 48, 110, 41, 32, 45, 40, 114, 67, 84, 41]⟩] 9))
                        have n2 := rowB_new v 9 #[.string ⟨#[98, 112, 108, 32, 55, 32, 114, 80, 84, 40, 102, 48, 110, 41, 32, 45, 40, 114, 67, 84, 41]⟩]
                        clear r2 q2 hW hU1 hU2 hC50 hC51 hC52 hC53
                        refine wpMix_call ?_
                        go_wp2_with (at_builtin; refine wpList_str1 rfl _ _ rfl (w.heap.size + 2) _ (pre5 5) rfl o2 v.heap.size ⟨#[98, 112, 108, 32, 55, 32, 114, 80, 84, 40, 102, 48, 110, 41, 32, 45, 40, 114, 67, 84, 41]⟩ rfl n2 (by show txL53.length ≤ 1000; rw [txL53_len]; decide) (by simp; omega) ?_)
                        intro b3 n3 c3 w3 o3 g3 at3
                        obtain ⟨row3, a3, d3, k3⟩ := line_put hg hvs hrow' hown' o3 g3 (by first | exact at3 | (simp; simpa using at3))
                        obtain ⟨nb3, sp3⟩ := k3 _ _ _ nb' sp'
                        have dd3 := dd.trans d3
                        have z3 := rowB_free row3 0
                        have q3 : w3.cell? ⟨w.heap.size + 1 + 1, 0, none⟩ = some (.slice p n c) := rowB_cell row3 0 rfl
                        clear o2 n2 o3 g3 at3 row3 d3 k3 nb' sp' dd hrow' hown' hc
                        go_wp2_with fail
                        try refine ⟨fun h => (by cases h), ?_⟩
                        refine wpMix_call ?_
                        go_wp2_with fail
                        try refine ⟨fun h => (by cases h), ?_⟩
                        refine wpMix_nil ?_
                        clear z3 q3
                        go_wp2_with fail
                        go_roundw
                        case rel => exact ⟨6, by omega, by go_num, a3, dd3, nb3, sp3⟩
                        case measure => simp [intOf]
                    · obtain rfl : k = 6 := by omega
                      obtain ⟨hg, p, n, c, hrow, hown⟩ := a'
                      have hc0 : x6'.cell? ⟨w.heap.size + 1 + 1, 0, none⟩ = some (.slice p n c) := rowB_cell hrow 0 rfl
                      clear nb sp hlt hk
                      go_wp2_with fail
                      go_ret
                      exact ⟨p, n, c, rfl, ownArr_mono hown (by omega), b3.trans (d'.mono (by omega))⟩
end Go.Proofs.YtbgjnegojoaimaaGreatDoor
