/- The museum's processor as text is the reference's list. -/
import Derived.Test.YtbgjnegojoaimaaGreatDoorStdTextM
import Derived.Test.YtbgjnegojoaimaaGreatDoorStdStep
import Derived.Test.YtbgjnegojoaimaaGreatDoorStdCyT
import Derived.Test.YtbgjnegojoaimaaGreatDoorLin
import Derived.Test.YtbgjnegojoaimaaGreatDoorStdLib
import Derived.Test.YtbgjnegojoaimaaGreatDoorStdLead
import Derived.Test.YtbgjnegojoaimaaGreatDoorStdTextL
namespace Go.Proofs.YtbgjnegojoaimaaGreatDoor
open Go.RowKit

theorem stepText_any (s : St) (h : okS s = true) (w : World) :
    Calls Tryz.prog 39 #[.agg #[.int .i64 s.d, .int .i64 s.t, .int .i64 s.f, .int .i64 s.n], .func (.func 37) #[] #[]] w fun e w' => e = .returned (.string (txtS s)) ∧ Below w.heap.size w w' := by
  obtain ⟨d, t, u, n⟩ := s
  simp only [okS, two, one, Bool.or_eq_true, Bool.and_eq_true, beq_iff_eq] at h
  rcases h with (((h | h) | h) | h) | h
  · rcases h with (((((((((((rfl | rfl) | rfl) | rfl) | rfl) | rfl) | rfl) | rfl) | rfl) | rfl) | rfl) | rfl) | rfl
    · exact stepT1_any t u n w
    · exact stepT4_any t u n w
    · exact stepT5_any t u n w
    · exact stepT6_any t u n w
    · exact stepT7_any t u n w
    · exact stepT8_any t u n w
    · exact stepT9_any t u n w
    · exact stepT18_any t u n w
    · exact stepT19_any t u n w
    · exact stepT20_any t u n w
    · exact stepT21_any t u n w
    · exact stepT22_any t u n w
    · exact stepT23_any t u n w
  · rcases h with (((((rfl | rfl) | rfl) | rfl) | rfl) | rfl) | rfl
    · exact stepT3_any t u n w
    · exact stepT10_any t u n w
    · exact stepT11_any t u n w
    · exact stepT12_any t u n w
    · exact stepT13_any t u n w
    · exact stepT14_any t u n w
    · exact stepT15_any t u n w
  · obtain ⟨rfl | rfl, rfl | rfl⟩ := h
    · exact stepT16_1 t u w
    · exact stepT16_4 t u w
    · exact stepT17_1 t u w
    · exact stepT17_4 t u w
  · obtain ⟨rfl, rfl | ⟨rfl, rfl⟩⟩ := h
    · exact stepT2_0 t u w
    · exact stepT2_255 u w
  · obtain ⟨⟨rfl, hu⟩, hn⟩ := h
    exact stepT24_any t u n hu (by omega) w
end Go.Proofs.YtbgjnegojoaimaaGreatDoor
namespace Go.Proofs.YtbgjnegojoaimaaGreatDoor
open Go.RowKit
set_option maxRecDepth 100000

def ansT0 : ByteArray := ⟨#[114, 54, 84, 32, 114, 55, 85, 40, 108, 67, 84, 44, 104, 67, 85, 44, 57, 83, 41]⟩
theorem answer0_any (w : World) : Calls Tryz.prog 10 #[.int .i64 0] w fun e w' => e = .returned (.string ansT0) ∧ Below w.heap.size w w' := by
  go_enter Tryz.func10, Tryz.ntmps10
  go_wp2
  go_ret
  exact ⟨rfl, Below.refl _ _⟩
def ansT1 : ByteArray := ⟨#[45, 40, 71, 84, 67, 41, 32, 119, 33, 84, 40, 103, 84, 67, 41, 32, 119, 33, 84, 32, 119, 33, 80, 40, 115, 52, 41, 32, 114, 50, 84, 32, 114, 51, 85, 40, 108, 67, 84, 44, 104, 67, 85, 41]⟩
set_option maxHeartbeats 4000000 in
theorem answer1_any (w : World) : Calls Tryz.prog 10 #[.int .i64 1] w fun e w' => e = .returned (.string ansT1) ∧ Below w.heap.size w w' := by
  have h0 : (⟨#[45, 40, 71, 84, 67, 41, 32, 119, 33, 84, 40, 103, 84, 67, 41, 32, 119, 33, 84, 32, 119, 33, 80, 40, 115, 52, 41, 32, 114]⟩ : ByteArray) ++ ⟨#[50]⟩ = ⟨#[45, 40, 71, 84, 67, 41, 32, 119, 33, 84, 40, 103, 84, 67, 41, 32, 119, 33, 84, 32, 119, 33, 80, 40, 115, 52, 41, 32, 114, 50]⟩ := by kernel_rfl
  have h1 : (⟨#[45, 40, 71, 84, 67, 41, 32, 119, 33, 84, 40, 103, 84, 67, 41, 32, 119, 33, 84, 32, 119, 33, 80, 40, 115, 52, 41, 32, 114, 50]⟩ : ByteArray) ++ ⟨#[84, 32, 114]⟩ = ⟨#[45, 40, 71, 84, 67, 41, 32, 119, 33, 84, 40, 103, 84, 67, 41, 32, 119, 33, 84, 32, 119, 33, 80, 40, 115, 52, 41, 32, 114, 50, 84, 32, 114]⟩ := by kernel_rfl
  have h2 : (⟨#[45, 40, 71, 84, 67, 41, 32, 119, 33, 84, 40, 103, 84, 67, 41, 32, 119, 33, 84, 32, 119, 33, 80, 40, 115, 52, 41, 32, 114, 50, 84, 32, 114]⟩ : ByteArray) ++ ⟨#[51]⟩ = ⟨#[45, 40, 71, 84, 67, 41, 32, 119, 33, 84, 40, 103, 84, 67, 41, 32, 119, 33, 84, 32, 119, 33, 80, 40, 115, 52, 41, 32, 114, 50, 84, 32, 114, 51]⟩ := by kernel_rfl
  have h3 : (⟨#[45, 40, 71, 84, 67, 41, 32, 119, 33, 84, 40, 103, 84, 67, 41, 32, 119, 33, 84, 32, 119, 33, 80, 40, 115, 52, 41, 32, 114, 50, 84, 32, 114, 51]⟩ : ByteArray) ++ ⟨#[85, 40, 108, 67, 84, 44, 104, 67, 85, 41]⟩ = ⟨#[45, 40, 71, 84, 67, 41, 32, 119, 33, 84, 40, 103, 84, 67, 41, 32, 119, 33, 84, 32, 119, 33, 80, 40, 115, 52, 41, 32, 114, 50, 84, 32, 114, 51, 85, 40, 108, 67, 84, 44, 104, 67, 85, 41]⟩ := by kernel_rfl
  have hW : IntKind.i64.wrap 0 = 0 := by decide
  go_enter Tryz.func10, Tryz.ntmps10
  go_upto_region 3 with (fail)
  go_region
  all_goals
    try go_wp2
    go_ret
    exact ⟨rfl, ((((Below.refl _ _).drew).alloc (Nat.le_refl _) _).alloc (by simp) _)⟩
def ansT2 : ByteArray := ⟨#[45, 40, 71, 84, 67, 41, 32, 119, 33, 84, 40, 103, 84, 67, 41, 32, 119, 33, 84, 32, 119, 33, 80, 40, 115, 52, 41, 32, 114, 52, 84, 32, 114, 53, 85, 40, 108, 67, 84, 44, 104, 67, 85, 41]⟩
set_option maxHeartbeats 4000000 in
theorem answer2_any (w : World) : Calls Tryz.prog 10 #[.int .i64 2] w fun e w' => e = .returned (.string ansT2) ∧ Below w.heap.size w w' := by
  have h0 : (⟨#[45, 40, 71, 84, 67, 41, 32, 119, 33, 84, 40, 103, 84, 67, 41, 32, 119, 33, 84, 32, 119, 33, 80, 40, 115, 52, 41, 32, 114]⟩ : ByteArray) ++ ⟨#[52]⟩ = ⟨#[45, 40, 71, 84, 67, 41, 32, 119, 33, 84, 40, 103, 84, 67, 41, 32, 119, 33, 84, 32, 119, 33, 80, 40, 115, 52, 41, 32, 114, 52]⟩ := by kernel_rfl
  have h1 : (⟨#[45, 40, 71, 84, 67, 41, 32, 119, 33, 84, 40, 103, 84, 67, 41, 32, 119, 33, 84, 32, 119, 33, 80, 40, 115, 52, 41, 32, 114, 52]⟩ : ByteArray) ++ ⟨#[84, 32, 114]⟩ = ⟨#[45, 40, 71, 84, 67, 41, 32, 119, 33, 84, 40, 103, 84, 67, 41, 32, 119, 33, 84, 32, 119, 33, 80, 40, 115, 52, 41, 32, 114, 52, 84, 32, 114]⟩ := by kernel_rfl
  have h2 : (⟨#[45, 40, 71, 84, 67, 41, 32, 119, 33, 84, 40, 103, 84, 67, 41, 32, 119, 33, 84, 32, 119, 33, 80, 40, 115, 52, 41, 32, 114, 52, 84, 32, 114]⟩ : ByteArray) ++ ⟨#[53]⟩ = ⟨#[45, 40, 71, 84, 67, 41, 32, 119, 33, 84, 40, 103, 84, 67, 41, 32, 119, 33, 84, 32, 119, 33, 80, 40, 115, 52, 41, 32, 114, 52, 84, 32, 114, 53]⟩ := by kernel_rfl
  have h3 : (⟨#[45, 40, 71, 84, 67, 41, 32, 119, 33, 84, 40, 103, 84, 67, 41, 32, 119, 33, 84, 32, 119, 33, 80, 40, 115, 52, 41, 32, 114, 52, 84, 32, 114, 53]⟩ : ByteArray) ++ ⟨#[85, 40, 108, 67, 84, 44, 104, 67, 85, 41]⟩ = ⟨#[45, 40, 71, 84, 67, 41, 32, 119, 33, 84, 40, 103, 84, 67, 41, 32, 119, 33, 84, 32, 119, 33, 80, 40, 115, 52, 41, 32, 114, 52, 84, 32, 114, 53, 85, 40, 108, 67, 84, 44, 104, 67, 85, 41]⟩ := by kernel_rfl
  have hW : IntKind.i64.wrap 1 = 1 := by decide
  go_enter Tryz.func10, Tryz.ntmps10
  go_upto_region 3 with (fail)
  go_region
  all_goals
    try go_wp2
    go_ret
    exact ⟨rfl, ((((Below.refl _ _).drew).alloc (Nat.le_refl _) _).alloc (by simp) _)⟩
end Go.Proofs.YtbgjnegojoaimaaGreatDoor
namespace Go.Proofs.YtbgjnegojoaimaaGreatDoor
open Go.RowKit
set_option maxRecDepth 100000

def sufT (p : Int) : ByteArray := (⟨#[80, 72, 65, 78, 33, 63, 50, 51, 52, 53, 54, 55]⟩ : ByteArray).extract p.toNat 12
theorem headT_size (c : Cy) : (headT c).size ≤ 3 := by
  have h1 := rwT_size c.bus
  have h2 := placeT_size c.place
  have h3 := regT_size c.reg
  unfold headT
  split
  · show (⟨#[45]⟩ : ByteArray).size ≤ 3; decide
  · simp only [ByteArray.size_append, h1, h2, h3]; decide
theorem stepsT_size {l : List St} (h : l.length ≤ 6) : (stepsT l).size ≤ 24 := by
  have := joinB_size (l.map txtS) ⟨#[44]⟩ 3 (fun x hx => by
    obtain ⟨s, _, rfl⟩ := List.mem_map.1 hx
    exact txtS_size s)
  rw [List.length_map] at this
  have e : (⟨#[44]⟩ : ByteArray).size = 1 := rfl
  rw [e] at this
  unfold stepsT
  omega
theorem txtC_size {c : Cy} (h : c.steps.length ≤ 6) : (txtC c).size ≤ 40 := by
  have h1 := headT_size c
  have h2 := stepsT_size h
  unfold txtC
  split
  · omega
  · simp only [ByteArray.size_append]
    have e1 : (⟨#[40]⟩ : ByteArray).size = 1 := rfl
    have e2 : (⟨#[41]⟩ : ByteArray).size = 1 := rfl
    omega
theorem okC_of {c : Cy} (h : okC c = true) : (0 ≤ c.bus ∧ c.bus ≤ 2) ∧ (0 ≤ c.place ∧ c.place ≤ 11) ∧ c.steps.length ≤ 6 ∧ ∀ s ∈ c.steps, okS s = true := by
  unfold okC at h
  simp only [Bool.and_eq_true, decide_eq_true_eq, List.all_eq_true] at h
  obtain ⟨⟨⟨⟨⟨h1, h2⟩, h3⟩, h4⟩, h5⟩, h6⟩ := h
  exact ⟨⟨h1, h2⟩, ⟨h3, h4⟩, h5, h6⟩
theorem strs_grown {lo : Nat} {w w' : World} {v : Value} {l : List ByteArray} (h : strsO lo w v l) (hg : w.grownBy w' v.ownBlock) (hlo : lo ≤ w.heap.size) {w0 : World} (hb : Below lo w0 w) : Below lo w0 w' := hb.trans (own_grown h hg hlo)

set_option maxHeartbeats 8000000 in
theorem textual_any (l : List Cy) (v : Value) (w : World) (h : isArr 4 cycleR w v l) (hok : ∀ c ∈ l, okC c = true) (hl : l.length ≤ 8) (hl0 : 0 < l.length) :
    Calls Tryz.prog 8 #[v] w fun e w' => e = .returned (.string (txt l)) ∧ Below w.heap.size w w' := by
  have hE : ∀ (args : Array Value) (w : World), (callFunc 37 args).run Tryz.prog w = .ok (.enter 37 args) w := enters_of Tryz.func37 (by kernel_rfl) rfl
  obtain ⟨a, cap, rfl, _, hform⟩ := isArr_form h
  have HJ := Lib.hid join_std
  have HF := Lib.hid hform
  have HO := Lib.hid hok
  clear h hform hok
  go_enter Tryz.func8, Tryz.ntmps8
  go_wp2_with fail
  go_loopw [4, 13] (fun o i wr => ∃ (k : Nat) (p : Option Addr) (n c : Nat), k ≤ l.length ∧ i = .int .i64 k ∧ o = .slice p n c ∧ strsO w.heap.size wr (.slice p n c) ((l.take k).map txtC) ∧ Below w.heap.size w wr) (fun _ i _ => l.length - (intOf i).toNat)
  case atStart => exact ⟨0, none, 0, 0, Nat.zero_le _, rfl, rfl, ownArr_nil _ _ _ _ _, Below.refl _ _⟩
  case round =>
    obtain ⟨k, p, n, cc, hk, rfl, rfl, hown, hbel⟩ := hrel
    obtain ⟨wo, rfl⟩ : ∃ wo, wo = wr := ⟨_, rfl⟩
    have hsz := hbel.size
    by_cases hlt : k < l.length
    · obtain ⟨c, hx, _⟩ := drop_at hlt
      have hokc := okC_of (HO.out c (List.mem_of_getElem? hx))
      have HT := Lib.hid (show (l.take (k + 1)).map txtC = (l.take k).map txtC ++ [txtC c] by rw [List.take_add_one, hx]; simp)
      have hLl : ((l.take k).map txtC).length ≤ 8 := by simp; omega
      obtain ⟨L, hL⟩ : ∃ L, L = (l.take k).map txtC := ⟨_, rfl⟩
      rw [← hL] at hown HT hLl
      have HL := Lib.hid hL
      clear hL
      obtain ⟨b, off, rfl, hb, hcap, hcap2, cs, _, hcs, vs, rfl, hs⟩ := HF.out k c hx
      obtain ⟨c0, c1, c2, c3⟩ := four_cells hcs
      rw [← hbel.cell (p := ⟨b, off + k * 4, none⟩) hb] at c0
      rw [← hbel.cell (p := ⟨b, off + k * 4 + 1, none⟩) hb] at c1
      rw [← hbel.cell (p := ⟨b, off + k * 4 + 2, none⟩) hb] at c2
      rw [← hbel.cell (p := ⟨b, off + k * 4 + 3, none⟩) hb] at c3
      have hts := txtC_size hokc.2.2.1
      have hhs := headT_size c
      have hss := stepsT_size hokc.2.2.1
      obtain ⟨bus, place, reg, steps⟩ := c
      dsimp only at c0 c1 c2 c3 hs hokc hss
      obtain ⟨⟨hb1, hb2⟩, ⟨hp1, hp2⟩, hs6, hoks⟩ := hokc
      obtain ⟨sa, scap, rfl, _, sform⟩ := isArr_form hs
      have SF := Lib.hid sform
      have OS := Lib.hid hoks
      have bx := below_one wo (.cells #[.int .i64 bus, .int .i64 place, .int .i64 reg, .slice sa steps.length scap] 56)
      have rx := rowB_new wo 56 #[.int .i64 bus, .int .i64 place, .int .i64 reg, .slice sa steps.length scap]
      clear hcs hs sform hoks
      have hpl : place = 0 ∨ place = 1 ∨ place = 2 ∨ place = 3 ∨ place = 4 ∨ place = 5 ∨ place = 6 ∨ place = 7 ∨ place = 8 ∨ place = 9 ∨ place = 10 ∨ place = 11 := by omega
      have hps := placeT_size place
      have hrs := regT_size reg
      go_upto_if 19 with (fail)
      generalize wo.alloc (.cells #[.int .i64 bus, .int .i64 place, .int .i64 reg, .slice sa steps.length scap] 56) = wy at *
      clear c0 c1 c2 c3
      go_cut [7] (fun s wx => s = .string (headT ⟨bus, place, reg, steps⟩) ∧ Below wy.heap.size wy wx)
      case first =>
        have s0 := rowB_cell rx 0 (v := .int .i64 bus) rfl
        have s1 := rowB_cell rx 1 (v := .int .i64 place) rfl
        have s2 := rowB_cell rx 2 (v := .int .i64 reg) rfl
        rcases (by omega : bus = 0 ∨ bus = 1 ∨ bus = 2) with rfl | rfl | rfl
        · go_wp2_with fail
          go_meet
          case rel => exact ⟨rfl, Below.refl _ _⟩
        · go_upto_region 8 with (fail)
          refine wp_region_mix (fun w' => w'.cell? ⟨wo.heap.size, 0, none⟩ = some (.int .i64 1) ∧ w'.cell? ⟨wo.heap.size, 1, none⟩ = some (.int .i64 place) ∧ w'.cell? ⟨wo.heap.size, 2, none⟩ = some (.int .i64 reg)) [(1, 1), (2, 1), (3, 1), (4, 1), (7, 1), (8, 1), (9, 1), (10, 1), (11, 1), (13, 1), (14, 1), (15, 1), (16, 1), (0, 3), (5, 0), (6, 0), (12, 0), (17, 0), (18, 0)] (by kernel_rfl) (by kernel_rfl) (fun _ _ _ _ _ h => h) ?_
          simp only [List.map_cons, List.map_nil, opOf, List.getD_cons_zero, List.getD_cons_succ]
          change wpMix _ _ _ _ _ _ wy.drew
          have hS : wy.drew.cell? ⟨wo.heap.size, 0, none⟩ = some (.int .i64 1) ∧ wy.drew.cell? ⟨wo.heap.size, 1, none⟩ = some (.int .i64 place) ∧ wy.drew.cell? ⟨wo.heap.size, 2, none⟩ = some (.int .i64 reg) := ⟨s0, s1, s2⟩
          have bz : Below wy.heap.size wy wy.drew := (Below.refl _ _).drew
          have rz : rowB wy.drew wo.heap.size 56 #[.int .i64 1, .int .i64 place, .int .i64 reg, .slice sa steps.length scap] := rx
          clear s0 s1 s2
          generalize wy.drew = wz at *
          refine wpMix_held (Value.pointer (some ⟨wo.heap.size, 0, none⟩)) rfl hS (fun w' hw' => by obtain ⟨q1, q2, q3⟩ := hw'; go_simp) ?_
          simp only [Act.put, List.setIfInBounds_toArray, List.set_cons_zero, List.set_cons_succ]
          refine wpMix_held (Value.int .i64 1) rfl hS (fun w' hw' => by obtain ⟨q1, q2, q3⟩ := hw'; go_simp) ?_
          simp only [Act.put, List.setIfInBounds_toArray, List.set_cons_zero, List.set_cons_succ]
          refine wpMix_held (Value.bool false) rfl hS (fun w' hw' => by obtain ⟨q1, q2, q3⟩ := hw'; go_simp) ?_
          simp only [Act.put, List.setIfInBounds_toArray, List.set_cons_zero, List.set_cons_succ]
          refine wpMix_heldCall (.int .i64 0) rfl hS 25 #[.bool false] (fun w' _ => by go_simp) (fun w' _ => (seen_any false w').mono fun _ _ ⟨h, g⟩ => ⟨h, g.symm⟩) ?_
          simp only [Act.put, List.setIfInBounds_toArray, List.set_cons_zero, List.set_cons_succ]
          refine wpMix_held (Value.pointer (some ⟨wo.heap.size, 1, none⟩)) rfl hS (fun w' hw' => by obtain ⟨q1, q2, q3⟩ := hw'; go_simp) ?_
          simp only [Act.put, List.setIfInBounds_toArray, List.set_cons_zero, List.set_cons_succ]
          refine wpMix_held (Value.int .i64 place) rfl hS (fun w' hw' => by obtain ⟨q1, q2, q3⟩ := hw'; go_simp) ?_
          simp only [Act.put, List.setIfInBounds_toArray, List.set_cons_zero, List.set_cons_succ]
          refine wpMix_heldCall (.int .i64 place) rfl hS 38 #[.int .i64 place, .int .i64 0, .int .i64 11] (fun w' _ => by go_simp) (fun w' _ => (limitS_any place 0 11 w').mono fun _ _ ⟨h, g⟩ => ⟨by rw [h, if_neg (by omega), if_neg (by omega)], g.symm⟩) ?_
          simp only [Act.put, List.setIfInBounds_toArray, List.set_cons_zero, List.set_cons_succ]
          refine wpMix_held (.string (sufT place)) rfl hS (fun w' _ => by rcases hpl with rfl | rfl | rfl | rfl | rfl | rfl | rfl | rfl | rfl | rfl | rfl | rfl <;> kernel_rfl) ?_
          simp only [Act.put, List.setIfInBounds_toArray, List.set_cons_zero, List.set_cons_succ]
          refine wpMix_held (.string (placeT place)) rfl hS (fun w' _ => by rcases hpl with rfl | rfl | rfl | rfl | rfl | rfl | rfl | rfl | rfl | rfl | rfl | rfl <;> kernel_rfl) ?_
          simp only [Act.put, List.setIfInBounds_toArray, List.set_cons_zero, List.set_cons_succ]
          refine wpMix_held (Value.func (.func 37) #[] #[]) rfl hS (fun w' hw' => by obtain ⟨q1, q2, q3⟩ := hw'; go_simp) ?_
          simp only [Act.put, List.setIfInBounds_toArray, List.set_cons_zero, List.set_cons_succ]
          refine wpMix_held (Value.pointer (some ⟨wo.heap.size, 2, none⟩)) rfl hS (fun w' hw' => by obtain ⟨q1, q2, q3⟩ := hw'; go_simp) ?_
          simp only [Act.put, List.setIfInBounds_toArray, List.set_cons_zero, List.set_cons_succ]
          refine wpMix_held (Value.int .i64 reg) rfl hS (fun w' hw' => by obtain ⟨q1, q2, q3⟩ := hw'; go_simp) ?_
          simp only [Act.put, List.setIfInBounds_toArray, List.set_cons_zero, List.set_cons_succ]
          refine wpMix_heldCall (.string (regT reg)) rfl hS 37 #[.int .i64 reg] (fun w' _ => by go_simp) (fun w' _ => (regT_any reg w').mono fun _ _ ⟨h, g⟩ => ⟨h, g.symm⟩) ?_
          simp only [Act.put, List.setIfInBounds_toArray, List.set_cons_zero, List.set_cons_succ]
          refine wpMix_call ?_
          go_wp2_with fail
          have rz2 := rowB_alloc rz (.cells #[.string ⟨#[114]⟩, .string ⟨#[119]⟩] 9)
          first | refine ⟨fun _ => ⟨rowB_cell rz2 0 rfl, rowB_cell rz2 1 rfl, rowB_cell rz2 2 rfl⟩, ?_⟩ | refine ⟨⟨rowB_cell rz2 0 rfl, rowB_cell rz2 1 rfl, rowB_cell rz2 2 rfl⟩, ?_⟩
          refine wpMix_still (fun K hK => ?_)
          go_simp
          refine hK _ ?_
          clear hK K
          refine wpMix_still (fun K hK => ?_)
          go_simp
          refine hK _ ?_
          clear hK K
          refine wpMix_still (fun K hK => ?_)
          go_simp
          refine hK _ ?_
          clear hK K
          refine wpMix_still (fun K hK => ?_)
          go_simp
          refine hK _ ?_
          clear hK K
          refine wpMix_still (fun K hK => ?_)
          go_simp
          refine hK _ ?_
          clear hK K
          refine wpMix_nil ?_
          go_wp2_with fail
          go_meet
          case rel => exact ⟨rfl, below_al bz _⟩
        · go_upto_region 8 with (fail)
          refine wp_region_mix (fun w' => w'.cell? ⟨wo.heap.size, 0, none⟩ = some (.int .i64 2) ∧ w'.cell? ⟨wo.heap.size, 1, none⟩ = some (.int .i64 place) ∧ w'.cell? ⟨wo.heap.size, 2, none⟩ = some (.int .i64 reg)) [(1, 1), (2, 1), (3, 1), (4, 1), (7, 1), (8, 1), (9, 1), (10, 1), (11, 1), (13, 1), (14, 1), (15, 1), (16, 1), (0, 3), (5, 0), (6, 0), (12, 0), (17, 0), (18, 0)] (by kernel_rfl) (by kernel_rfl) (fun _ _ _ _ _ h => h) ?_
          simp only [List.map_cons, List.map_nil, opOf, List.getD_cons_zero, List.getD_cons_succ]
          change wpMix _ _ _ _ _ _ wy.drew
          have hS : wy.drew.cell? ⟨wo.heap.size, 0, none⟩ = some (.int .i64 2) ∧ wy.drew.cell? ⟨wo.heap.size, 1, none⟩ = some (.int .i64 place) ∧ wy.drew.cell? ⟨wo.heap.size, 2, none⟩ = some (.int .i64 reg) := ⟨s0, s1, s2⟩
          have bz : Below wy.heap.size wy wy.drew := (Below.refl _ _).drew
          have rz : rowB wy.drew wo.heap.size 56 #[.int .i64 2, .int .i64 place, .int .i64 reg, .slice sa steps.length scap] := rx
          clear s0 s1 s2
          generalize wy.drew = wz at *
          refine wpMix_held (Value.pointer (some ⟨wo.heap.size, 0, none⟩)) rfl hS (fun w' hw' => by obtain ⟨q1, q2, q3⟩ := hw'; go_simp) ?_
          simp only [Act.put, List.setIfInBounds_toArray, List.set_cons_zero, List.set_cons_succ]
          refine wpMix_held (Value.int .i64 2) rfl hS (fun w' hw' => by obtain ⟨q1, q2, q3⟩ := hw'; go_simp) ?_
          simp only [Act.put, List.setIfInBounds_toArray, List.set_cons_zero, List.set_cons_succ]
          refine wpMix_held (Value.bool true) rfl hS (fun w' hw' => by obtain ⟨q1, q2, q3⟩ := hw'; go_simp) ?_
          simp only [Act.put, List.setIfInBounds_toArray, List.set_cons_zero, List.set_cons_succ]
          refine wpMix_heldCall (.int .i64 1) rfl hS 25 #[.bool true] (fun w' _ => by go_simp) (fun w' _ => (seen_any true w').mono fun _ _ ⟨h, g⟩ => ⟨h, g.symm⟩) ?_
          simp only [Act.put, List.setIfInBounds_toArray, List.set_cons_zero, List.set_cons_succ]
          refine wpMix_held (Value.pointer (some ⟨wo.heap.size, 1, none⟩)) rfl hS (fun w' hw' => by obtain ⟨q1, q2, q3⟩ := hw'; go_simp) ?_
          simp only [Act.put, List.setIfInBounds_toArray, List.set_cons_zero, List.set_cons_succ]
          refine wpMix_held (Value.int .i64 place) rfl hS (fun w' hw' => by obtain ⟨q1, q2, q3⟩ := hw'; go_simp) ?_
          simp only [Act.put, List.setIfInBounds_toArray, List.set_cons_zero, List.set_cons_succ]
          refine wpMix_heldCall (.int .i64 place) rfl hS 38 #[.int .i64 place, .int .i64 0, .int .i64 11] (fun w' _ => by go_simp) (fun w' _ => (limitS_any place 0 11 w').mono fun _ _ ⟨h, g⟩ => ⟨by rw [h, if_neg (by omega), if_neg (by omega)], g.symm⟩) ?_
          simp only [Act.put, List.setIfInBounds_toArray, List.set_cons_zero, List.set_cons_succ]
          refine wpMix_held (.string (sufT place)) rfl hS (fun w' _ => by rcases hpl with rfl | rfl | rfl | rfl | rfl | rfl | rfl | rfl | rfl | rfl | rfl | rfl <;> kernel_rfl) ?_
          simp only [Act.put, List.setIfInBounds_toArray, List.set_cons_zero, List.set_cons_succ]
          refine wpMix_held (.string (placeT place)) rfl hS (fun w' _ => by rcases hpl with rfl | rfl | rfl | rfl | rfl | rfl | rfl | rfl | rfl | rfl | rfl | rfl <;> kernel_rfl) ?_
          simp only [Act.put, List.setIfInBounds_toArray, List.set_cons_zero, List.set_cons_succ]
          refine wpMix_held (Value.func (.func 37) #[] #[]) rfl hS (fun w' hw' => by obtain ⟨q1, q2, q3⟩ := hw'; go_simp) ?_
          simp only [Act.put, List.setIfInBounds_toArray, List.set_cons_zero, List.set_cons_succ]
          refine wpMix_held (Value.pointer (some ⟨wo.heap.size, 2, none⟩)) rfl hS (fun w' hw' => by obtain ⟨q1, q2, q3⟩ := hw'; go_simp) ?_
          simp only [Act.put, List.setIfInBounds_toArray, List.set_cons_zero, List.set_cons_succ]
          refine wpMix_held (Value.int .i64 reg) rfl hS (fun w' hw' => by obtain ⟨q1, q2, q3⟩ := hw'; go_simp) ?_
          simp only [Act.put, List.setIfInBounds_toArray, List.set_cons_zero, List.set_cons_succ]
          refine wpMix_heldCall (.string (regT reg)) rfl hS 37 #[.int .i64 reg] (fun w' _ => by go_simp) (fun w' _ => (regT_any reg w').mono fun _ _ ⟨h, g⟩ => ⟨h, g.symm⟩) ?_
          simp only [Act.put, List.setIfInBounds_toArray, List.set_cons_zero, List.set_cons_succ]
          refine wpMix_call ?_
          go_wp2_with fail
          have rz2 := rowB_alloc rz (.cells #[.string ⟨#[114]⟩, .string ⟨#[119]⟩] 9)
          first | refine ⟨fun _ => ⟨rowB_cell rz2 0 rfl, rowB_cell rz2 1 rfl, rowB_cell rz2 2 rfl⟩, ?_⟩ | refine ⟨⟨rowB_cell rz2 0 rfl, rowB_cell rz2 1 rfl, rowB_cell rz2 2 rfl⟩, ?_⟩
          refine wpMix_still (fun K hK => ?_)
          go_simp
          refine hK _ ?_
          clear hK K
          refine wpMix_still (fun K hK => ?_)
          go_simp
          refine hK _ ?_
          clear hK K
          refine wpMix_still (fun K hK => ?_)
          go_simp
          refine hK _ ?_
          clear hK K
          refine wpMix_still (fun K hK => ?_)
          go_simp
          refine hK _ ?_
          clear hK K
          refine wpMix_still (fun K hK => ?_)
          go_simp
          refine hK _ ?_
          clear hK K
          refine wpMix_nil ?_
          go_wp2_with fail
          go_meet
          case rel => exact ⟨rfl, below_al bz _⟩
      case rest =>
      obtain ⟨rfl, b7⟩ := hcut
      obtain ⟨wc0, hw0⟩ : ∃ x, x = wc := ⟨_, rfl⟩
      subst hw0
      have by7 := below_step bx b7
      have r7 := rowB_below rx b7 (rowB_lt rx)
      have s3 : wc0.cell? ⟨wo.heap.size, 3, none⟩ = some (.slice sa steps.length scap) := rowB_cell r7 3 rfl
      have hown7 := strsO_below hown by7
      have hbel7 : Below w.heap.size w wc0 := hbel.trans (by7.mono hsz)
      have hz7 := hbel7.size
      clear bx b7 rx r7 hown
      generalize hH : headT ⟨bus, place, reg, steps⟩ = H at *
      have HH := Lib.hid hH
      clear hH
      go_wp2_with fail
      go_loopw [8, 41] (fun st i wx => ∃ (j : Nat) (q : Option Addr) (m d : Nat), j ≤ steps.length ∧ i = .int .i64 j ∧ st = .slice q m d ∧ strsO wc0.heap.size wx (.slice q m d) ((steps.take j).map txtS) ∧ Below wc0.heap.size wc0 wx) (fun _ i _ => steps.length - (intOf i).toNat)
      case atStart => exact ⟨0, none, 0, 0, Nat.zero_le _, rfl, rfl, ownArr_nil _ _ _ _ _, Below.refl _ _⟩
      case round =>
        clear s3
        obtain ⟨j, q, m, d, hj, rfl, rfl, sown, sbel⟩ := hrel
        obtain ⟨wi, hwi⟩ : ∃ x, x = wr := ⟨_, rfl⟩
        subst hwi
        have ssz := sbel.size
        by_cases hlj : j < steps.length
        · obtain ⟨st, hsx, _⟩ := drop_at hlj
          have hst := OS.out st (List.mem_of_getElem? hsx)
          have HT2 := Lib.hid (show (steps.take (j + 1)).map txtS = (steps.take j).map txtS ++ [txtS st] by rw [List.take_add_one, hsx]; simp)
          have hl2 : ((steps.take j).map txtS).length ≤ 6 := by simp; omega
          obtain ⟨M, hM⟩ : ∃ M, M = (steps.take j).map txtS := ⟨_, rfl⟩
          rw [← hM] at sown HT2 hl2
          clear hM
          obtain ⟨b2, soff, rfl, hsb, hscap, hscap2, ss, _, hss2, rfl⟩ := SF.out j st hsx
          obtain ⟨v0, v1, v2, v3⟩ := four_cells hss2
          have belI : Below w.heap.size w wi := hbel7.trans (sbel.mono hz7)
          rw [← belI.cell (p := ⟨b2, soff + j * 4, none⟩) hsb] at v0
          rw [← belI.cell (p := ⟨b2, soff + j * 4 + 1, none⟩) hsb] at v1
          rw [← belI.cell (p := ⟨b2, soff + j * 4 + 2, none⟩) hsb] at v2
          rw [← belI.cell (p := ⟨b2, soff + j * 4 + 3, none⟩) hsb] at v3
          obtain ⟨sd, sto, sf, sn⟩ := st
          dsimp only at v0 v1 v2 v3
          have bi := below_one wi (.cells #[.int .i64 sd, .int .i64 sto, .int .i64 sf, .int .i64 sn] 59)
          clear hss2 hsx belI
          have CS := Lib.hid (fun W => stepText_any ⟨sd, sto, sf, sn⟩ hst W)
          go_wp2_with (first
            | (go_at_call 39; refine (CS.out _).mono ?_; rintro e w2 ⟨rfl, b22⟩; have c22 := below_al (below_step bi b22) (.cells #[.string (txtS ⟨sd, sto, sf, sn⟩)] 9); have o22 := strsO_below sown c22; have y22 := own_str (w := w2) (cells := #[.string (txtS ⟨sd, sto, sf, sn⟩)]) (txtS ⟨sd, sto, sf, sn⟩) rfl; have l22 : wc0.heap.size ≤ (w2.alloc (.cells #[.string (txtS ⟨sd, sto, sf, sn⟩)] 9)).heap.size := Nat.le_trans ssz c22.size)
            | (at_builtin; refine wpList_strs rfl _ _ rfl wc0.heap.size _ _ _ rfl rfl M [txtS ⟨sd, sto, sf, sn⟩] o22 y22 (by simp only [List.length_cons, List.length_nil]; omega) l22 ?_))
          intro q2 m2 d2 w3 o3 g3
          have bel3 := strs_grown o22 g3 l22 (sbel.trans (c22.mono ssz))
          have HR := Lib.hid (show strsO wc0.heap.size w3 (.slice q2 m2 d2) ((steps.take (j + 1)).map txtS) by rw [HT2.out]; exact o3)
          clear o3 g3 o22 y22 l22 c22 b22 bi sown v0 v1 v2 v3 sbel
          go_wp2_with fail
          go_roundw
          case rel => exact ⟨j + 1, q2, m2, d2, by omega, by go_num, rfl, HR.out, bel3⟩
          case measure => simp [intOf]; omega
        · obtain rfl : j = steps.length := by omega
          rw [List.take_length] at sown
          have hHs : H.size ≤ 3 := hhs
          have bel2 : Below w.heap.size w wi := hbel7.trans (sbel.mono hz7)
          have own2 := strsO_below hown7 sbel
          have hz2 := bel2.size
          go_upto_if 54 with (fail)
          go_cut [7] (fun s wx => s = .string (txtC ⟨bus, place, reg, steps⟩) ∧ Below wi.heap.size wi wx)
          case first =>
            by_cases h0 : steps.length = 0
            · have e : txtC ⟨bus, place, reg, steps⟩ = H := by unfold txtC; rw [if_pos h0]; exact HH.out
              have e2 : (steps.map txtS).length = 0 := by simpa using h0
              obtain ⟨pp, cpp, hpp⟩ := own_slice sown
              rw [e2] at hpp
              obtain ⟨rfl, rfl, rfl⟩ : q = pp ∧ m = 0 ∧ d = cpp := by simpa using hpp
              go_wp2_with fail
              go_meet
              case rel => exact ⟨by rw [e], Below.refl _ _⟩
            · have e : txtC ⟨bus, place, reg, steps⟩ = H ++ ((⟨#[40]⟩ ++ stepsT steps) ++ ⟨#[41]⟩) := by unfold txtC; rw [if_neg h0, HH.out]
              have HE := Lib.hid e
              clear e
              have e2 : (steps.map txtS).length = steps.length := by simp
              obtain ⟨pp, cpp, hpp⟩ := own_slice sown
              rw [e2] at hpp
              obtain ⟨rfl, rfl, rfl⟩ : q = pp ∧ m = steps.length ∧ d = cpp := by simpa using hpp
              have hp0 : 0 < steps.length := by omega
              have hss3 : (joinB (steps.map txtS) ⟨#[44]⟩).size ≤ 24 := hss
              go_wp2_with (go_at_call 40; refine (join_own HJ.out wc0.heap.size _ (steps.map txtS) ⟨#[44]⟩ _ sown (by rw [e2]; exact hp0) (by rw [e2]; omega) (by omega)).mono ?_; rintro e w5 ⟨rfl, b5⟩)
              generalize hJJ : joinB (steps.map txtS) ⟨#[44]⟩ = J at *
              have z1 : ¬ 9223372036854775807 < 1 + J.size := by omega
              have z2 : ¬ 9223372036854775807 < 1 + J.size + 1 := by omega
              have z3 : ¬ 9223372036854775807 < H.size + (1 + J.size + 1) := by omega
              go_wp2_with fail
              go_meet
              case rel => exact ⟨by rw [HE.out]; unfold stepsT; rw [hJJ], b5⟩
          case rest =>
          obtain ⟨rfl, b8⟩ := hcut
          obtain ⟨wd, hw0⟩ : ∃ x, x = wc := ⟨_, rfl⟩
          subst hw0
          generalize hTC : txtC ⟨bus, place, reg, steps⟩ = TC at *
          have c9 := below_al b8 (.cells #[.string TC] 9)
          have o9 := strsO_below own2 c9
          have y9 := own_str (w := wd) (cells := #[.string TC]) TC rfl
          have l9 : w.heap.size ≤ (wd.alloc (.cells #[.string TC] 9)).heap.size := Nat.le_trans hz2 c9.size
          go_wp2_with (at_builtin; refine wpList_strs rfl _ _ rfl w.heap.size _ _ _ rfl rfl L [TC] o9 y9 (by simp only [List.length_cons, List.length_nil]; omega) l9 ?_)
          intro p9 n9 c9' w9 o10 g9
          have bel9 := strs_grown o9 g9 l9 (bel2.trans (c9.mono hz2))
          have HR := Lib.hid (show strsO w.heap.size w9 (.slice p9 n9 c9') ((l.take (k + 1)).map txtC) by rw [HT.out]; exact o10)
          clear o10 g9 o9 y9 l9 c9 b8 own2 bel2 sown sbel hown7 hbel7 hbel
          go_wp2_with fail
          go_roundw
          case rel => exact ⟨k + 1, p9, n9, c9', by omega, by go_num, rfl, HR.out, bel9⟩
          case measure => simp [intOf]; omega
    · obtain rfl : k = l.length := by omega
      rw [List.take_length] at hown
      have hj := joinB_size (l.map txtC) ⟨#[32]⟩ 40 (fun x hx => by
        obtain ⟨c, hc, rfl⟩ := List.mem_map.1 hx
        exact txtC_size (okC_of (HO.out c hc)).2.2.1)
      have e1 : (⟨#[32]⟩ : ByteArray).size = 1 := rfl
      have hz : (joinB (l.map txtC) ⟨#[32]⟩).size ≤ 100000 := by
        rw [e1, List.length_map] at hj
        omega
      clear hj e1
      go_wp2_with (go_at_call 40; refine (join_own HJ.out w.heap.size _ (l.map txtC) ⟨#[32]⟩ _ hown (by simpa using hl0) (by simp; omega) hz).mono ?_; rintro e w5 ⟨rfl, b5⟩)
      go_ret
      exact ⟨rfl, hbel.trans (b5.mono hsz)⟩
end Go.Proofs.YtbgjnegojoaimaaGreatDoor
namespace Go.Proofs.YtbgjnegojoaimaaGreatDoor
open Go.RowKit
set_option maxRecDepth 1000000

def textX (x : In) : ByteArray := (((x.name ++ ⟨#[32]⟩) ++ digM x.mode.toNat) ++ ⟨#[32]⟩) ++ txt x.cycles
def lineOk (x : In) (t : ByteArray) (k : Nat) : Bool :=
  x.op == ((k : Nat) : Int) + 1 && (decide (0 ≤ x.mode) && (decide (x.mode ≤ 8) && (decide (x.name.size ≤ 100) && (decide (t.size ≤ 1000) && (isAscii t && (x.cycles.all okC && (decide (0 < x.cycles.length) && (decide (x.cycles.length ≤ 8) && Lib.trimSpace t.data.toList == (textX x).data.toList))))))))
def allOk (l : List In) (ts : List ByteArray) : Nat → Bool
  | 0 => true
  | k + 1 => (match l[k]?, ts[k]? with | some x, some t => lineOk x t k | _, _ => false) && allOk l ts k
theorem all_ok : allOk stdI txL54 92 = true := by decide +kernel
theorem allOk_at {l : List In} {ts : List ByteArray} : ∀ {n : Nat}, allOk l ts n = true → ∀ k, k < n → ∃ x t, l[k]? = some x ∧ ts[k]? = some t ∧ lineOk x t k = true
  | 0, _, k, hk => by omega
  | n + 1, h, k, hk => by
    rw [allOk, Bool.and_eq_true] at h
    by_cases e : k = n
    · subst e
      have h1 := h.1
      split at h1
      · exact ⟨_, _, by assumption, by assumption, h1⟩
      · cases h1
    · exact allOk_at h.2 k (by omega)
theorem txt_res : txt resetC = ansT0 := by decide +kernel
theorem txt_irq : txt (interruptC 6 7) = ansT1 := by decide +kernel
theorem txt_nmi : txt (interruptC 8 9) = ansT2 := by decide +kernel
end Go.Proofs.YtbgjnegojoaimaaGreatDoor
