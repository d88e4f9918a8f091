/- The contract of package std's Cpu. -/
import Derived.Test.YtbgjnegojoaimaaGreatDoorStdLead
import Derived.Test.YtbgjnegojoaimaaGreatDoorLin
import Derived.Shelf.Abstract
import Derived.Test.YtbgjnegojoaimaaGreatDoorTabArg
namespace Go.Proofs.YtbgjnegojoaimaaGreatDoor
open Go.RowKit
set_option maxRecDepth 100000

theorem cell_below {w w' : World} {g : Nat} {t : TypeId} {cs : Array Value} (h : rowB w g t cs) (hb : Below w.heap.size w w') : rowB w' g t cs := rowB_below h hb (rowB_lt h)
theorem cell0 {w : World} {g : Nat} {t : TypeId} {v : Value} (h : rowB w g t #[v]) : w.cell? ⟨g, 0, none⟩ = some v := rowB_cell h 0 rfl
set_option maxHeartbeats 4000000 in
theorem loadF_std (r m : Int) (hm : okMode m) (g : Nat) (w : World) (hg : rowB w g 3 #[.int .i64 r]) :
    Calls Tryz.prog 78 #[.int .i64 m, .pointer (some ⟨g, 0, none⟩)] w fun e w' => ∃ a n c, e = .returned (.slice a n c) ∧ cyclesO w.heap.size w' (.slice a n c) (loadC r m) ∧ Below w.heap.size w w' := by
  go_enter Tryz.func78, Tryz.ntmps78
  go_upto_region 1 with (fail)
  refine wp_region_mix (fun w' => w'.cell? ⟨g, 0, none⟩ = some (.int .i64 r)) [(0, 1), (1, 0), (3, 1), (2, 3), (4, 3), (5, 3), (6, 2), (7, 0)] (by kernel_rfl) (by kernel_rfl) (fun _ _ _ _ _ h => h) ?_
  simp only [List.map_cons, List.map_nil, opOf, List.getD_cons_zero, List.getD_cons_succ]
  change wpMix _ _ _ _ _ _ w.drew
  have c_w_v : Below w.heap.size w w.drew := (Below.refl _ _).drew
  have hg' : rowB w.drew g 3 #[.int .i64 r] := hg
  have hc := cell0 hg'
  clear hg
  generalize w.drew = v at *
  refine wpMix_held (.int .i64 m) rfl hc (fun w' hw' => by go_simp) ?_
  simp only [Act.put, List.setIfInBounds_toArray, List.set_cons_zero, List.set_cons_succ]
  refine wpMix_still (fun K hK => ?_)
  go_simp
  refine hK _ ?_
  clear hK K
  refine wpMix_held (.int .i64 r) rfl hc (fun w' hw' => by go_simp) ?_
  simp only [Act.put, List.setIfInBounds_toArray, List.set_cons_zero, List.set_cons_succ]
  refine wpMix_call ?_
  go_wp2_with (go_at_call 53; refine (with_std _ _ _ _).mono ?_; rintro e w1 ⟨rfl, h1⟩)
  refine ⟨fun _ => cell0 (cell_below hg' h1), ?_⟩
  refine wpMix_call ?_
  go_wp2_with (go_at_call 54; refine (on_std _ _ _).mono ?_; rintro e w2 ⟨rfl, h2⟩)
  refine ⟨fun _ => cell0 (cell_below (cell_below hg' h1) h2), ?_⟩
  have c_w_w2 := below_step (below_step c_w_v h1) h2
  refine wpMix_call ?_
  go_wp2_with fail
  first | refine ⟨fun _ => cell0 (cell_below (cell_below (cell_below hg' h1) h2) (below_one _ _)), ?_⟩ | skip
  refine wpMix_call ?_
  go_wp2_with (go_at_call 79; refine (operand_std m hm _ _ _ [⟨1, r, 5, 0⟩, ⟨3, r, 0, 0⟩] _ (own_steps (w := w2) (cells := #[.int .i64 1, .int .i64 r, .int .i64 5, .int .i64 0, .int .i64 3, .int .i64 r, .int .i64 0, .int .i64 0]) _ rfl rfl (Nat.le_of_ble_eq_true rfl))).mono ?_; rintro e w3 ⟨a3, n3, k3, rfl, z3, h3⟩)
  try refine ⟨fun h => (by cases h), ?_⟩
  refine wpMix_still (fun K hK => ?_)
  go_simp
  refine hK _ ?_
  clear hK K
  refine wpMix_nil ?_
  go_wp2_with fail
  go_ret
  have c := below_step (below_al c_w_w2 _) h3
  exact ⟨_, _, _, rfl, cyclesO_mono z3 (below_al c_w_w2 _).size, c⟩
set_option maxHeartbeats 4000000 in
theorem storeF_std (r m : Int) (hm : okMode m) (g : Nat) (w : World) (hg : rowB w g 3 #[.int .i64 r]) :
    Calls Tryz.prog 80 #[.int .i64 m, .pointer (some ⟨g, 0, none⟩)] w fun e w' => ∃ a n c, e = .returned (.slice a n c) ∧ cyclesO w.heap.size w' (.slice a n c) (storeC r m) ∧ Below w.heap.size w w' := by
  go_enter Tryz.func80, Tryz.ntmps80
  go_upto_region 1 with (fail)
  refine wp_region_mix (fun w' => w'.cell? ⟨g, 0, none⟩ = some (.int .i64 r)) [(0, 0), (2, 1), (1, 3), (3, 2), (4, 2), (5, 2), (6, 0)] (by kernel_rfl) (by kernel_rfl) (fun _ _ _ _ _ h => h) ?_
  simp only [List.map_cons, List.map_nil, opOf, List.getD_cons_zero, List.getD_cons_succ]
  change wpMix _ _ _ _ _ _ w.drew
  have c_w_v : Below w.heap.size w w.drew := (Below.refl _ _).drew
  have hg' : rowB w.drew g 3 #[.int .i64 r] := hg
  have hc := cell0 hg'
  clear hg
  generalize w.drew = v at *
  refine wpMix_still (fun K hK => ?_)
  go_simp
  refine hK _ ?_
  clear hK K
  refine wpMix_held (.int .i64 r) rfl hc (fun w' hw' => by go_simp) ?_
  simp only [Act.put, List.setIfInBounds_toArray, List.set_cons_zero, List.set_cons_succ]
  refine wpMix_call ?_
  go_wp2_with (go_at_call 81; refine (lead_std m hm _).mono ?_; rintro e w1 ⟨a1, n1, k1, rfl, z1, h1⟩)
  refine ⟨fun _ => cell0 (cell_below hg' h1), ?_⟩
  have c_w_w1 := below_step c_w_v h1
  refine wpMix_call ?_
  go_wp2_with (go_at_call 56; refine (write_std _ _ _ _ _ _).mono ?_; rintro e w2 ⟨rfl, h2⟩)
  refine ⟨fun h => (by cases h), ?_⟩
  have c_w_w2 := below_step c_w_w1 h2
  refine wpMix_call ?_
  go_wp2_with fail
  try refine ⟨fun h => (by cases h), ?_⟩
  have y0 := cyclesO_below z1 (below_al h2 (.cells #[.int .i64 2, .int .i64 2, .int .i64 r, .slice none 0 0] 56))
  have y1 := own_cycles (w := w2) (cells := #[.int .i64 2, .int .i64 2, .int .i64 r, .slice none 0 0]) [(⟨2, 2, r, []⟩, .slice none 0 0)] ⟨⟨_, nil_steps _⟩, trivial⟩ rfl rfl (Nat.le_of_ble_eq_true rfl)
  refine wpMix_call ?_
  go_wp2_with (at_builtin; refine wpList_cycles rfl _ _ rfl v.heap.size _ _ _ rfl rfl (leadC m) [⟨2, 2, r, []⟩] y0 y1 ?b1 ?b2 ?_)
  case b1 => have := lead_small m hm; simp; omega
  case b2 => exact (below_al (below_step h1 h2) _).size
  intro a3 n3 k3 w3 y h3
  go_wp2_with fail
  try refine ⟨fun h => (by cases h), ?_⟩
  refine wpMix_still (fun K hK => ?_)
  go_simp
  refine hK _ ?_
  clear hK K
  refine wpMix_nil ?_
  go_wp2_with fail
  go_ret
  exact ⟨_, _, _, rfl, cyclesO_mono y c_w_v.size, (below_al c_w_w2 _).trans (h3.mono c_w_v.size)⟩
set_option maxHeartbeats 4000000 in
theorem combineF_std (d r m : Int) (hm : okMode m) (g1 g2 : Nat) (w : World) (hg1 : rowB w g1 3 #[.int .i64 d]) (hg2 : rowB w g2 3 #[.int .i64 r]) :
    Calls Tryz.prog 82 #[.int .i64 m, .pointer (some ⟨g1, 0, none⟩), .pointer (some ⟨g2, 0, none⟩)] w fun e w' => ∃ a n c, e = .returned (.slice a n c) ∧ cyclesO w.heap.size w' (.slice a n c) (combineC d r m) ∧ Below w.heap.size w w' := by
  have hc1 := cell0 hg1
  have hc2 := cell0 hg2
  go_enter Tryz.func82, Tryz.ntmps82
  go_wp2_with (go_at_call 53; refine (with_std _ _ _ _).mono ?_)
  rintro e w1 ⟨rfl, h1⟩
  have c_w_w1 := h1
  have s := own_steps (w := w1) (cells := #[.int .i64 d, .int .i64 r, .int .i64 5, .int .i64 0]) [⟨d, r, 5, 0⟩] rfl rfl (Nat.le_of_ble_eq_true rfl)
  go_wp2_with (go_at_call 79; refine (operand_std m hm _ _ _ [⟨d, r, 5, 0⟩] _ s).mono ?_; rintro e w2 ⟨a2, n2, k2, rfl, z2, h2⟩)
  go_wp2_with fail
  go_ret
  exact ⟨_, _, _, rfl, cyclesO_mono z2 (below_al h1 _).size, below_step (below_al h1 _) h2⟩
set_option maxHeartbeats 4000000 in
theorem changeF_std (d m : Int) (hm : okMode m) (g : Nat) (w : World) (hg : rowB w g 3 #[.int .i64 d]) :
    Calls Tryz.prog 83 #[.int .i64 m, .pointer (some ⟨g, 0, none⟩)] w fun e w' => ∃ a n c, e = .returned (.slice a n c) ∧ cyclesO w.heap.size w' (.slice a n c) (changeC d m) ∧ Below w.heap.size w w' := by
  have hc := cell0 hg
  by_cases h0 : m = 0
  · subst h0
    show Calls _ _ _ w fun e w' => ∃ a n c, e = .returned (.slice a n c) ∧ cyclesO w.heap.size w' (.slice a n c) [⟨0, 0, 0, [⟨d, 0, 0, 0⟩]⟩] ∧ Below w.heap.size w w'
    go_enter Tryz.func83, Tryz.ntmps83
    go_wp2_with (go_at_call 54; refine (on_std _ _ _).mono ?_)
    rintro e w1 ⟨rfl, h1⟩
    have c_w_w1 := h1
    go_wp2_with (go_at_call 52; refine (quiet_std _ _ _ _).mono ?_)
    rintro e w2 ⟨rfl, h2⟩
    have c_w_w2 := below_step (below_al c_w_w1 _) h2
    have c_w1_w2 := below_step (below_one _ _) h2
    have s := steps_built h2 [⟨d, 0, 0, 0⟩] rfl rfl (Nat.le_of_ble_eq_true rfl)
    go_wp2_with fail
    go_ret
    exact ⟨_, _, _, rfl, cyclesO_mono (own_cycles [(⟨0, 0, 0, [⟨d, 0, 0, 0⟩]⟩, _)] ⟨⟨_, s⟩, trivial⟩ rfl rfl (Nat.le_of_ble_eq_true rfl)) c_w_w2.size, below_al c_w_w2 _⟩
  · have e : changeC d m = operandC m [⟨d, 5, 0, 0⟩] ++ [⟨2, 2, 5, []⟩] := if_neg h0
    have t : (m == 0) = false := by simpa using h0
    have hs := operand_small m [⟨d, 5, 0, 0⟩] hm
    rw [e]
    clear e h0
    go_enter Tryz.func83, Tryz.ntmps83
    go_wp2_with (go_at_call 54; refine (on_std _ _ _).mono ?_)
    rintro e w1 ⟨rfl, h1⟩
    have s := own_steps (w := w1) (cells := #[.int .i64 d, .int .i64 5, .int .i64 0, .int .i64 0]) [⟨d, 5, 0, 0⟩] rfl rfl (Nat.le_of_ble_eq_true rfl)
    go_wp2_with (go_at_call 79; refine (operand_std m hm _ _ _ [⟨d, 5, 0, 0⟩] _ s).mono ?_)
    rintro e w2 ⟨a2, n2, k2, rfl, z2, h2⟩
    have c2 := below_step (below_al h1 _) h2
    go_wp2_with (go_at_call 56; refine (write_std _ _ _ _ _ _).mono ?_)
    rintro e w3 ⟨rfl, h3⟩
    have c3 := below_step c2 h3
    have y0 := cyclesO_below z2 (below_al h3 (.cells #[.int .i64 2, .int .i64 2, .int .i64 5, .slice none 0 0] 56))
    have y1 := own_cycles (w := w3) (cells := #[.int .i64 2, .int .i64 2, .int .i64 5, .slice none 0 0]) [(⟨2, 2, 5, []⟩, .slice none 0 0)] ⟨⟨_, nil_steps _⟩, trivial⟩ rfl rfl (Nat.le_of_ble_eq_true rfl)
    go_wp2_with (at_builtin; refine wpList_cycles rfl _ _ rfl _ _ _ _ rfl rfl (operandC m [⟨d, 5, 0, 0⟩]) [⟨2, 2, 5, []⟩] (cyclesO_mono y0 (below_al h1 _).size) y1 ?b1 ?b2 ?_)
    case b1 => simp at hs ⊢; omega
    case b2 => exact (below_al c3 _).size
    intro a4 n4 k4 w4 y h4
    go_wp2_with fail
    go_ret
    exact ⟨_, _, _, rfl, y, (below_al c3 _).trans h4⟩
theorem plainF_std (m : Int) (g : Nat) (a : Option Addr) (n c : Nat) (w : World) (hg : rowB w g 23 #[.slice a n c]) :
    Calls Tryz.prog 84 #[.int .i64 m, .pointer (some ⟨g, 0, none⟩)] w fun e w' => e = .returned (.slice a n c) ∧ w' = w := by
  have hc := cell0 hg
  go_enter Tryz.func84, Tryz.ntmps84
  go_wp2
  go_ret
  exact ⟨rfl, rfl⟩
theorem load_std (r : Int) (w : World) : Calls Tryz.prog 45 #[.int .i64 r] w fun e w' => e = .returned (.func (.func 78) #[] #[.pointer (some ⟨w.heap.size, 0, none⟩)]) ∧ w' = w.alloc (.cells #[.int .i64 r] 3) := by
  go_enter Tryz.func45, Tryz.ntmps45
  go_wp2
  go_ret
  exact ⟨rfl, rfl⟩
theorem store_std (r : Int) (w : World) : Calls Tryz.prog 46 #[.int .i64 r] w fun e w' => e = .returned (.func (.func 80) #[] #[.pointer (some ⟨w.heap.size, 0, none⟩)]) ∧ w' = w.alloc (.cells #[.int .i64 r] 3) := by
  go_enter Tryz.func46, Tryz.ntmps46
  go_wp2
  go_ret
  exact ⟨rfl, rfl⟩
theorem change_std (r : Int) (w : World) : Calls Tryz.prog 49 #[.int .i64 r] w fun e w' => e = .returned (.func (.func 83) #[] #[.pointer (some ⟨w.heap.size, 0, none⟩)]) ∧ w' = w.alloc (.cells #[.int .i64 r] 3) := by
  go_enter Tryz.func49, Tryz.ntmps49
  go_wp2
  go_ret
  exact ⟨rfl, rfl⟩
theorem combine_std (d r : Int) (w : World) : Calls Tryz.prog 48 #[.int .i64 d, .int .i64 r] w fun e w' => e = .returned (.func (.func 82) #[] #[.pointer (some ⟨w.heap.size, 0, none⟩), .pointer (some ⟨w.heap.size + 1, 0, none⟩)]) ∧ w' = (w.alloc (.cells #[.int .i64 d] 3)).alloc (.cells #[.int .i64 r] 3) := by
  go_enter Tryz.func48, Tryz.ntmps48
  go_wp2
  go_ret
  exact ⟨rfl, rfl⟩
end Go.Proofs.YtbgjnegojoaimaaGreatDoor
namespace Go.Proofs.YtbgjnegojoaimaaGreatDoor
open Go.RowKit
set_option maxRecDepth 100000

/-- What stays while instructions are added. -/
def staysK (e : TypeId) : Prop := e ≠ 33 ∧ e ≠ 37
/-- The variable in block g holds the instructions l. -/
def atL (lo g : Nat) (w : World) (l : List In) : Prop := lo ≤ g ∧ ∃ a n c, rowB w g 37 #[.slice a n c] ∧ instrsO lo w (.slice a n c) l
/-- A closure that makes cycles for a mode. -/
def makesC (fn : Nat) (caps : Array Value) (F : Int → List Cy) (w0 : World) : Prop :=
  ∀ w, Safe staysK w0 w → ∀ m, okMode m → Calls Tryz.prog fn (#[.int .i64 m] ++ caps) w fun e w' => ∃ a n c, e = .returned (.slice a n c) ∧ cyclesO 0 w' (.slice a n c) (F m) ∧ Below w.heap.size w w'
theorem infoIn : ∃ i, Tryz.prog.info? 33 = some i ∧ i.zero = some (.agg #[.int .i64 0, .string ⟨#[]⟩, .int .i64 0, .slice none 0 0]) ∧ i.size = 4 ∧ i.bytes = 56 := by
  have h : (Tryz.prog.info? 33).map (fun i => (i.zero, i.size, i.bytes)) = some (some (.agg #[.int .i64 0, .string ⟨#[]⟩, .int .i64 0, .slice none 0 0]), 4, 56) := by kernel_rfl
  cases hh : Tryz.prog.info? 33 with
  | none => rw [hh] at h; cases h
  | some i => rw [hh] at h; simp only [Option.map_some, Option.some.injEq, Prod.mk.injEq] at h; exact ⟨i, rfl, h⟩
theorem own_instr {w : World} {cells : Array Value} (x : In) (v : Value) {lo : Nat} (h : cyclesO lo w v x.cycles) (hc : cells.toList = [.int .i64 x.op, .string x.name, .int .i64 x.mode, v]) : instrsO w.heap.size (w.alloc (.cells cells 33)) (.slice (some ⟨w.heap.size, 0, none⟩) 1 1) [x] :=
  ownArr_imp (own_lit (R := insQ w) [[.int .i64 x.op, .string x.name, .int .i64 x.mode, v]] [x] ⟨rfl, ⟨v, rfl, cyclesO_mono h (Nat.zero_le _)⟩, trivial⟩ rfl cells hc 1 rfl (by decide) w (Nat.le_refl _) _ _ rfl) fun _ _ q => insQ_safe (T := fun _ => True) q (safe_alloc _ _ _) ⟨trivial, trivial⟩
section
variable {w : World} {ops : Array Oper} {rest : List Oper} {o : Oper} {a : Act} {Q : Exit → Act → World → Prop}
theorem wpList_instrs (hgd : o.guard = none) (s x : Operand) (ho : o.op = .call { callee := .builtin .append, args := #[s, x], argTypes := #[37, 37] })
    (B lo : Nat) (v u : Value) (hs : a.eval s = v) (hx : a.eval x = u) (l m : List In) (hown : instrsO B w v l) (harr : instrsO lo w u m) (hl : l.length + m.length ≤ 1000) (hB : B ≤ w.heap.size)
    (h : ∀ (a' : Option Addr) (n c : Nat) w', instrsO B w' (.slice a' n c) (l ++ m) → w.grownBy w' v.ownBlock → wpList Tryz.prog ops Q rest (a.put o.dst (.slice a' n c)) w') : wpList Tryz.prog ops Q (o :: rest) a w := by
  obtain ⟨i, i1, i2, i3, i4⟩ := infoIn
  refine wpList_append_arr2 hgd s x 37 ho 33 4 56 i _ Tryz.underlying37 i1 i2 i3 i4 rfl (by decide) (insQ_one w) B v u hs hx l m hown (ownArr_isArr harr) (by unfold maxLen; omega) (by omega) hB ?_
  intro v' w' h1 h2
  obtain ⟨a', c', rfl⟩ := own_slice h1
  exact h _ _ _ _ (ownArr_imp h1 fun _ _ q => insQ_safe (T := fun e => e ≠ 33) q (own_safe hown h2 (by simp)) ⟨by decide, by decide⟩) h2
end
theorem addI_take (n : Nat) (name : ByteArray) (F : Int → List Cy) (l : List In) (ms : List Int) (k : Nat) (m : Int) (hk : ms[k]? = some m) (hn : l.length = n) :
    l ++ addI l.length name F (ms.take (k + 1)) = (l ++ addI l.length name F (ms.take k)) ++ [⟨n + k + 1, name, m, F m⟩] := by
  subst hn
  rw [List.append_assoc]
  congr 1
  have : ∀ (ms : List Int) (n k : Nat) (m : Int), ms[k]? = some m → addI n name F (ms.take (k + 1)) = addI n name F (ms.take k) ++ [⟨n + k + 1, name, m, F m⟩] := by
    intro ms
    induction ms with
    | nil => intro n k m h; simp at h
    | cons x ms ih =>
      intro n k m h
      cases k with
      | zero => cases h; simp [addI]
      | succ k =>
        have h2 : ms[k]? = some m := by simpa using h
        rw [List.take_succ_cons, addI, ih (n + 1) k m h2, List.take_succ_cons, addI]
        simp
        omega
  exact_mod_cast this ms l.length k m hk

set_option maxHeartbeats 4000000 in
theorem add_std (lo g : Nat) (name : ByteArray) (fn : Nat) (caps : Array Value) (F : Int → List Cy) (ms : List Int) (b : Nat) (w : World) (l : List In) (hL : atL lo g w l) (hlo : lo ≤ w.heap.size) (hlen : l.length + ms.length ≤ 200) (hE : Enters Tryz.prog fn) (hF : makesC fn caps F w) (hm : ∀ m ∈ ms, okMode m)
    (hms : rowB w b 3 ⟨ms.map (Value.int .i64)⟩) :
    Calls Tryz.prog 44 #[.pointer (some ⟨g, 0, none⟩), .string name, .func (.func fn) #[] caps, .slice (some ⟨b, 0, none⟩) ms.length ms.length] w fun e w' => e = .returned (.tuple #[]) ∧ atL lo g w' (more l name F ms) ∧ Below lo w w' := by
  have hEn : ∀ (args : Array Value) (w : World), (callFunc fn args).run Tryz.prog w = .ok (.enter fn args) w := hE
  clear hE
  go_enter Tryz.func44, Tryz.ntmps44
  go_wp2_with fail
  go_loopw [12] (fun i wr => ∃ k : Nat, k ≤ ms.length ∧ i = .int .i64 k ∧ atL lo g wr (l ++ addI l.length name F (ms.take k)) ∧ Below lo w wr ∧ Safe staysK w wr) (fun i _ => ms.length - (intOf i).toNat)
  case atStart => exact ⟨0, Nat.zero_le _, rfl, by simpa [addI] using hL, Below.refl _ _, Safe.refl _ _⟩
  case round =>
    obtain ⟨k, hk, rfl, hA, hbel, hsafe⟩ := hrel
    by_cases hlt : k < ms.length
    · obtain ⟨m, hmk⟩ : ∃ m, ms[k]? = some m := ⟨_, List.getElem?_eq_getElem hlt⟩
      have hms' : rowB wr b 3 ⟨ms.map (Value.int .i64)⟩ := hsafe.2 _ _ _ _ hms ⟨by decide, by decide⟩
      have hcell : wr.cell? ⟨b, k, none⟩ = some (.int .i64 m) := rowB_cell hms' k (by simp [hmk])
      have hmm : okMode m := hm m (List.mem_of_getElem? hmk)
      obtain ⟨hg, a, n, c, hrow, hown⟩ := hA
      have hNl : (l ++ addI l.length name F (ms.take k)).length = l.length + k := by
        rw [List.length_append, addI_len, List.length_take, Nat.min_eq_left hk]
      obtain ⟨N, hN⟩ : ∃ N, l.length + k = N := ⟨_, rfl⟩
      rw [hN] at hNl
      have hN200 : N ≤ 200 := by omega
      obtain ⟨L, hL2⟩ : ∃ L, L = l ++ addI l.length name F (ms.take k) := ⟨_, rfl⟩
      have HT := Lib.hid (addI_take l.length name F l ms k m hmk rfl)
      rw [← hL2] at hNl hown HT
      obtain rfl : n = N := by
        obtain ⟨a', cap', e⟩ := own_slice hown
        rw [hNl] at e
        cases e
        rfl
      have HN := Lib.hid hN
      have HL := Lib.hid hL2
      clear hL hms hms' hL2 hN
      go_upto_region 3 with (fail)
      refine wp_region_mix (fun w' => w'.cell? ⟨g, 0, none⟩ = some (.slice a n c)) [(0, 1), (1, 1), (2, 1), (3, 1), (4, 1), (5, 1), (6, 1), (7, 1), (8, 1), (9, 1), (10, 1), (11, 0), (12, 0), (13, 3), (14, 3), (15, 3), (16, 3), (17, 0), (18, 2)] (by kernel_rfl) (by kernel_rfl) (fun _ _ _ _ _ h => h) ?_
      simp only [List.map_cons, List.map_nil, opOf, List.getD_cons_zero, List.getD_cons_succ]
      change wpMix _ _ _ _ _ _ wr.drew
      have hbel' : Below lo w wr.drew := hbel.drew
      have hsafe' : Safe staysK w wr.drew := hsafe.trans (safe_drew _ _)
      have hrow' : rowB wr.drew g 37 #[.slice a n c] := hrow
      have hown' : instrsO lo wr.drew (.slice a n c) L := instrsO_below hown (Below.refl _ _).drew
      have hc := cell0 hrow'
      clear hbel hsafe hrow hown
      generalize wr.drew = v at *
      refine wpMix_held (Value.pointer (some ⟨g, 0, none⟩)) rfl hc (fun w' hw' => by go_simp) ?_
      simp only [Act.put, List.setIfInBounds_toArray, List.set_cons_zero, List.set_cons_succ]
      refine wpMix_held (Value.pointer (some ⟨g, 0, none⟩)) rfl hc (fun w' hw' => by go_simp) ?_
      simp only [Act.put, List.setIfInBounds_toArray, List.set_cons_zero, List.set_cons_succ]
      refine wpMix_held (Value.pointer (some ⟨g, 0, none⟩)) rfl hc (fun w' hw' => by go_simp) ?_
      simp only [Act.put, List.setIfInBounds_toArray, List.set_cons_zero, List.set_cons_succ]
      refine wpMix_held (Value.slice a n c) rfl hc (fun w' hw' => by go_simp) ?_
      simp only [Act.put, List.setIfInBounds_toArray, List.set_cons_zero, List.set_cons_succ]
      refine wpMix_held (Value.pointer (some ⟨g, 0, none⟩)) rfl hc (fun w' hw' => by go_simp) ?_
      simp only [Act.put, List.setIfInBounds_toArray, List.set_cons_zero, List.set_cons_succ]
      refine wpMix_held (Value.pointer (some ⟨g, 0, none⟩)) rfl hc (fun w' hw' => by go_simp) ?_
      simp only [Act.put, List.setIfInBounds_toArray, List.set_cons_zero, List.set_cons_succ]
      refine wpMix_held (Value.slice a n c) rfl hc (fun w' hw' => by go_simp) ?_
      simp only [Act.put, List.setIfInBounds_toArray, List.set_cons_zero, List.set_cons_succ]
      refine wpMix_held (Value.int .i64 (n : Int)) rfl hc (fun w' hw' => by go_simp) ?_
      simp only [Act.put, List.setIfInBounds_toArray, List.set_cons_zero, List.set_cons_succ]
      refine wpMix_held (Value.int .i64 ((n : Int) + 1)) rfl hc (fun w' hw' => by go_simp; simp [IntKind.wrap, IntKind.bits, IntKind.signed]; omega) ?_
      simp only [Act.put, List.setIfInBounds_toArray, List.set_cons_zero, List.set_cons_succ]
      refine wpMix_held (Value.string name) rfl hc (fun w' hw' => by go_simp) ?_
      simp only [Act.put, List.setIfInBounds_toArray, List.set_cons_zero, List.set_cons_succ]
      refine wpMix_held (Value.int .i64 m) rfl hc (fun w' hw' => by go_simp) ?_
      simp only [Act.put, List.setIfInBounds_toArray, List.set_cons_zero, List.set_cons_succ]
      refine wpMix_still (fun K hK => ?_)
      go_simp
      refine hK _ ?_
      clear hK K
      refine wpMix_still (fun K hK => ?_)
      go_simp
      refine hK _ ?_
      clear hK K
      refine wpMix_call ?_
      have hC := hF v hsafe' m hmm
      go_wp2_with (with_reducible refine hC.mono ?_; rintro e w1 ⟨a1, n1, k1, rfl, z1, h1⟩)
      have r1 := cell_below hrow' h1
      refine ⟨fun _ => cell0 r1, ?_⟩
      have s1 := hsafe'.trans (safe_below h1)
      have b1 := hbel'.trans (h1.mono (Nat.le_trans hlo hbel'.size))
      have o1 := instrsO_below hown' h1
      clear hC hrow' hown' hc hsafe' hbel' h1
      refine wpMix_call ?_
      go_wp2_with fail
      first | refine ⟨fun _ => cell0 r1, ?_⟩ | refine ⟨cell0 r1, ?_⟩
      refine wpMix_call ?_
      go_wp2_with fail
      have r2 := rowB_alloc r1 (.cells #[.int .i64 ((n : Int) + 1), .string name, .int .i64 m, .slice a1 n1 k1] 33)
      first | refine ⟨fun _ => cell0 r2, ?_⟩ | refine ⟨cell0 r2, ?_⟩
      have y := own_instr (w := w1) (cells := #[.int .i64 ((n : Int) + 1), .string name, .int .i64 m, .slice a1 n1 k1]) ⟨(n : Int) + 1, name, m, F m⟩ (.slice a1 n1 k1) z1 rfl
      have o2 := instrsO_below o1 (below_one w1 (.cells #[.int .i64 ((n : Int) + 1), .string name, .int .i64 m, .slice a1 n1 k1] 33))
      refine wpMix_call ?_
      go_wp2_with (at_builtin; refine wpList_instrs rfl _ _ rfl lo _ _ _ rfl rfl L [⟨(n : Int) + 1, name, m, F m⟩] o2 y ?b1 ?b2 ?_)
      case b1 => simp; omega
      case b2 => have := b1.size; simp; omega
      intro a2 n2 c2 w2 o3 g3
      have g4 : Safe (fun e => e ≠ 33) _ w2 := own_safe o2 g3 (by simp)
      have b3 := own_grown o2 g3 (by have := b1.size; simp; omega)
      have r3 : rowB w2 g 37 #[.slice a n c] := g4.2 _ _ _ _ r2 (by decide)
      have s3 := (s1.trans (safe_alloc _ _ _)).trans (show Safe staysK _ w2 from own_safe o2 g3 (by simp [staysK]))
      have b4 := (b1.alloc (Nat.le_trans hlo b1.size) (.cells #[.int .i64 ((n : Int) + 1), .string name, .int .i64 m, .slice a1 n1 k1] 33)).trans b3
      clear o2 g3 g4 b3 r2 y r1 o1 b1 s1 z1
      go_wp2_with fail
      first | refine ⟨fun _ => cell0 r3, ?_⟩ | refine ⟨cell0 r3, ?_⟩
      refine wpMix_still (fun K hK => ?_)
      go_simp
      refine hK _ ?_
      clear hK K
      refine wpMix_call ?_
      have z3 := rowB_free r3 0
      have q3 := cell0 r3
      go_wp2_with fail
      try refine ⟨fun h => (by cases h), ?_⟩
      refine wpMix_nil ?_
      have r5 := rowB_set r3 0 (.slice a2 n2 c2)
      have s5 := s3.trans (safe_set (j := 0) r3 (show ¬ staysK 37 from fun h => h.2 rfl) (.slice a2 n2 c2))
      have b5 : Below lo w (w2.setCell ⟨g, 0, none⟩ (.slice a2 n2 c2)) := b4.setCell (by show lo ≤ g; omega) _
      have o5 := instrsO_safe (T := fun e => e ≠ 37) o3 (safe_set (j := 0) r3 (by simp) (.slice a2 n2 c2)) ⟨by decide, by decide, by decide⟩
      have HO := Lib.hid (show atL lo g (w2.setCell ⟨g, 0, none⟩ (.slice a2 n2 c2)) (l ++ addI l.length name F (ms.take (k + 1))) from ⟨hg, a2, n2, c2, r5, by rw [HT.out]; have := HN.out; rw [show (l.length : Int) + k + 1 = (n : Int) + 1 by omega]; exact o5⟩)
      clear r3 o3 s3 b4 r5 o5 z3 q3
      go_wp2_with fail
      go_roundw
      case rel => exact ⟨k + 1, by omega, by go_num, HO.out, b5, s5⟩
      case measure => simp [intOf]; omega
    · obtain rfl : k = ms.length := by omega
      rw [List.take_length] at hA
      go_wp2_with fail
      exact bodyPost_end (results_none rfl _ _ _) rfl ⟨rfl, hA, hbel⟩
theorem atL_below {lo g : Nat} {w w' : World} {l : List In} (h : atL lo g w l) (hb : Below w.heap.size w w') : atL lo g w' l := by
  obtain ⟨h1, a, n, c, h2, h3⟩ := h
  exact ⟨h1, a, n, c, cell_below h2 hb, instrsO_below h3 hb⟩
theorem makes_load {w : World} {g : Nat} {r : Int} (h : rowB w g 3 #[.int .i64 r]) : makesC 78 #[.pointer (some ⟨g, 0, none⟩)] (loadC r) w := fun w2 hs m hm =>
  (loadF_std r m hm g w2 (hs.2 _ _ _ _ h ⟨by decide, by decide⟩)).mono fun _ _ ⟨a, n, c, h1, h2, h3⟩ => ⟨a, n, c, h1, cyclesO_mono h2 (Nat.zero_le _), h3⟩
theorem makes_store {w : World} {g : Nat} {r : Int} (h : rowB w g 3 #[.int .i64 r]) : makesC 80 #[.pointer (some ⟨g, 0, none⟩)] (storeC r) w := fun w2 hs m hm =>
  (storeF_std r m hm g w2 (hs.2 _ _ _ _ h ⟨by decide, by decide⟩)).mono fun _ _ ⟨a, n, c, h1, h2, h3⟩ => ⟨a, n, c, h1, cyclesO_mono h2 (Nat.zero_le _), h3⟩
theorem makes_change {w : World} {g : Nat} {r : Int} (h : rowB w g 3 #[.int .i64 r]) : makesC 83 #[.pointer (some ⟨g, 0, none⟩)] (changeC r) w := fun w2 hs m hm =>
  (changeF_std r m hm g w2 (hs.2 _ _ _ _ h ⟨by decide, by decide⟩)).mono fun _ _ ⟨a, n, c, h1, h2, h3⟩ => ⟨a, n, c, h1, cyclesO_mono h2 (Nat.zero_le _), h3⟩
theorem makes_combine {w : World} {g1 g2 : Nat} {d r : Int} (h1 : rowB w g1 3 #[.int .i64 d]) (h2 : rowB w g2 3 #[.int .i64 r]) : makesC 82 #[.pointer (some ⟨g1, 0, none⟩), .pointer (some ⟨g2, 0, none⟩)] (combineC d r) w := fun w2 hs m hm =>
  (combineF_std d r m hm g1 g2 w2 (hs.2 _ _ _ _ h1 ⟨by decide, by decide⟩) (hs.2 _ _ _ _ h2 ⟨by decide, by decide⟩)).mono fun _ _ ⟨a, n, c, h1, h2, h3⟩ => ⟨a, n, c, h1, cyclesO_mono h2 (Nat.zero_le _), h3⟩
theorem makes_plain {w : World} {g lo : Nat} {a : Option Addr} {n c : Nat} {cs : List Cy} (h : rowB w g 23 #[.slice a n c]) (hc : cyclesO lo w (.slice a n c) cs) : makesC 84 #[.pointer (some ⟨g, 0, none⟩)] (fun _ => cs) w := fun w2 hs m _ =>
  (plainF_std m g a n c w2 (hs.2 _ _ _ _ h ⟨by decide, by decide⟩)).mono fun _ _ ⟨h1, h2⟩ => ⟨a, n, c, h1, by subst h2; exact cyclesO_mono (cyclesO_safe hc hs ⟨⟨by decide, by decide⟩, by decide, by decide⟩) (Nat.zero_le _), by subst h2; exact Below.refl _ _⟩
set_option maxHeartbeats 4000000 in
theorem addPlain_std (lo g : Nat) (name : ByteArray) (m : Int) (cs : List Cy) (a : Option Addr) (n c : Nat) (w : World) (l : List In) (hL : atL lo g w l) (hlo : lo ≤ w.heap.size) (hlen : l.length + 1 ≤ 200) (hm : okMode m) {lc : Nat} (hc : cyclesO lc w (.slice a n c) cs) :
    Calls Tryz.prog 51 #[.pointer (some ⟨g, 0, none⟩), .string name, .int .i64 m, .slice a n c] w fun e w' => e = .returned (.tuple #[]) ∧ atL lo g w' (moreP l name m cs) ∧ Below lo w w' := by
  have b2 := below_al (below_one w (.cells #[.slice a n c] 23)) (.cells #[.int .i64 m] 3)
  have rows := rowB_alloc (rowB_new w 23 #[.slice a n c]) (.cells #[.int .i64 m] 3)
  have hF := makes_plain rows (cyclesO_below hc b2)
  have hl := atL_below hL b2
  have rm := rowB_new (w.alloc (.cells #[.slice a n c] 23)) 3 #[.int .i64 m]
  rw [World.size_alloc] at rm
  have hE : Enters Tryz.prog 84 := enters_of Tryz.func84 (by kernel_rfl) rfl
  have HA := Lib.hid (add_std lo g name 84 _ _ [m] _ _ l hl (Nat.le_trans hlo b2.size) hlen hE hF (by simpa using hm) rm)
  have HB := Lib.hid (b2.mono hlo)
  clear hL hc rows hF hl rm hE b2
  go_enter Tryz.func51, Tryz.ntmps51
  go_wp2_with (go_at_call 44; refine HA.out.mono ?_)
  rintro e w1 ⟨rfl, h1, h2⟩
  go_wp2_with fail
  exact bodyPost_end (results_none rfl _ _ _) rfl ⟨rfl, h1, HB.out.trans h2⟩
end Go.Proofs.YtbgjnegojoaimaaGreatDoor
namespace Go.Proofs.YtbgjnegojoaimaaGreatDoor
open Go.RowKit
set_option maxRecDepth 100000

theorem moreP_len (l : List In) (name : ByteArray) (m : Int) (cs : List Cy) : (moreP l name m cs).length = l.length + 1 := more_len _ _ _ _
theorem sumI_len (l : List In) (name : ByteArray) (d : Int) : (sumI l name d).length = l.length + 4 := more_len _ _ _ _
theorem add_load (lo g : Nat) (name : ByteArray) (r : Int) (ms : List Int) (w : World) (l : List In) (hL : atL lo g w l) (hlo : lo ≤ w.heap.size) (hlen : l.length + ms.length ≤ 200) (hm : ∀ m ∈ ms, okMode m) :
    Calls Tryz.prog 44 #[.pointer (some ⟨g, 0, none⟩), .string name, .func (.func 78) #[] #[.pointer (some ⟨w.heap.size, 0, none⟩)], .slice (some ⟨w.heap.size + 1, 0, none⟩) ms.length ms.length]
      ((w.alloc (.cells #[.int .i64 r] 3)).alloc (.cells ⟨ms.map (Value.int .i64)⟩ 3)) fun e w' => e = .returned (.tuple #[]) ∧ atL lo g w' (more l name (loadC r) ms) ∧ Below lo w w' := by
  have b2 := below_al (below_one w (.cells #[.int .i64 r] 3)) (.cells ⟨ms.map (Value.int .i64)⟩ 3)
  have rows := rowB_alloc (rowB_new w 3 #[.int .i64 r]) (.cells ⟨ms.map (Value.int .i64)⟩ 3)
  have rm := rowB_new (w.alloc (.cells #[.int .i64 r] 3)) 3 ⟨ms.map (Value.int .i64)⟩
  rw [World.size_alloc] at rm
  exact (add_std lo g name 78 _ _ ms _ _ l (atL_below hL b2) (Nat.le_trans hlo b2.size) hlen (enters_of Tryz.func78 (by kernel_rfl) rfl) (makes_load rows) hm rm).mono fun _ _ ⟨h1, h2, h3⟩ => ⟨h1, h2, (b2.mono hlo).trans h3⟩
theorem add_store (lo g : Nat) (name : ByteArray) (r : Int) (ms : List Int) (w : World) (l : List In) (hL : atL lo g w l) (hlo : lo ≤ w.heap.size) (hlen : l.length + ms.length ≤ 200) (hm : ∀ m ∈ ms, okMode m) :
    Calls Tryz.prog 44 #[.pointer (some ⟨g, 0, none⟩), .string name, .func (.func 80) #[] #[.pointer (some ⟨w.heap.size, 0, none⟩)], .slice (some ⟨w.heap.size + 1, 0, none⟩) ms.length ms.length]
      ((w.alloc (.cells #[.int .i64 r] 3)).alloc (.cells ⟨ms.map (Value.int .i64)⟩ 3)) fun e w' => e = .returned (.tuple #[]) ∧ atL lo g w' (more l name (storeC r) ms) ∧ Below lo w w' := by
  have b2 := below_al (below_one w (.cells #[.int .i64 r] 3)) (.cells ⟨ms.map (Value.int .i64)⟩ 3)
  have rows := rowB_alloc (rowB_new w 3 #[.int .i64 r]) (.cells ⟨ms.map (Value.int .i64)⟩ 3)
  have rm := rowB_new (w.alloc (.cells #[.int .i64 r] 3)) 3 ⟨ms.map (Value.int .i64)⟩
  rw [World.size_alloc] at rm
  exact (add_std lo g name 80 _ _ ms _ _ l (atL_below hL b2) (Nat.le_trans hlo b2.size) hlen (enters_of Tryz.func80 (by kernel_rfl) rfl) (makes_store rows) hm rm).mono fun _ _ ⟨h1, h2, h3⟩ => ⟨h1, h2, (b2.mono hlo).trans h3⟩
theorem add_change (lo g : Nat) (name : ByteArray) (r : Int) (ms : List Int) (w : World) (l : List In) (hL : atL lo g w l) (hlo : lo ≤ w.heap.size) (hlen : l.length + ms.length ≤ 200) (hm : ∀ m ∈ ms, okMode m) :
    Calls Tryz.prog 44 #[.pointer (some ⟨g, 0, none⟩), .string name, .func (.func 83) #[] #[.pointer (some ⟨w.heap.size, 0, none⟩)], .slice (some ⟨w.heap.size + 1, 0, none⟩) ms.length ms.length]
      ((w.alloc (.cells #[.int .i64 r] 3)).alloc (.cells ⟨ms.map (Value.int .i64)⟩ 3)) fun e w' => e = .returned (.tuple #[]) ∧ atL lo g w' (more l name (changeC r) ms) ∧ Below lo w w' := by
  have b2 := below_al (below_one w (.cells #[.int .i64 r] 3)) (.cells ⟨ms.map (Value.int .i64)⟩ 3)
  have rows := rowB_alloc (rowB_new w 3 #[.int .i64 r]) (.cells ⟨ms.map (Value.int .i64)⟩ 3)
  have rm := rowB_new (w.alloc (.cells #[.int .i64 r] 3)) 3 ⟨ms.map (Value.int .i64)⟩
  rw [World.size_alloc] at rm
  exact (add_std lo g name 83 _ _ ms _ _ l (atL_below hL b2) (Nat.le_trans hlo b2.size) hlen (enters_of Tryz.func83 (by kernel_rfl) rfl) (makes_change rows) hm rm).mono fun _ _ ⟨h1, h2, h3⟩ => ⟨h1, h2, (b2.mono hlo).trans h3⟩
theorem add_combine (lo g : Nat) (name : ByteArray) (d r : Int) (ms : List Int) (w : World) (l : List In) (hL : atL lo g w l) (hlo : lo ≤ w.heap.size) (hlen : l.length + ms.length ≤ 200) (hm : ∀ m ∈ ms, okMode m) :
    Calls Tryz.prog 44 #[.pointer (some ⟨g, 0, none⟩), .string name, .func (.func 82) #[] #[.pointer (some ⟨w.heap.size, 0, none⟩), .pointer (some ⟨w.heap.size + 1, 0, none⟩)], .slice (some ⟨w.heap.size + 1 + 1, 0, none⟩) ms.length ms.length]
      (((w.alloc (.cells #[.int .i64 d] 3)).alloc (.cells #[.int .i64 r] 3)).alloc (.cells ⟨ms.map (Value.int .i64)⟩ 3)) fun e w' => e = .returned (.tuple #[]) ∧ atL lo g w' (more l name (combineC d r) ms) ∧ Below lo w w' := by
  have b2 := below_al (below_al (below_one w (.cells #[.int .i64 d] 3)) (.cells #[.int .i64 r] 3)) (.cells ⟨ms.map (Value.int .i64)⟩ 3)
  have row1 := rowB_alloc (rowB_alloc (rowB_new w 3 #[.int .i64 d]) (.cells #[.int .i64 r] 3)) (.cells ⟨ms.map (Value.int .i64)⟩ 3)
  have row2 := rowB_alloc (rowB_new (w.alloc (.cells #[.int .i64 d] 3)) 3 #[.int .i64 r]) (.cells ⟨ms.map (Value.int .i64)⟩ 3)
  have rm := rowB_new ((w.alloc (.cells #[.int .i64 d] 3)).alloc (.cells #[.int .i64 r] 3)) 3 ⟨ms.map (Value.int .i64)⟩
  rw [World.size_alloc] at row2
  rw [World.size_alloc, World.size_alloc] at rm
  exact (add_std lo g name 82 _ _ ms _ _ l (atL_below hL b2) (Nat.le_trans hlo b2.size) hlen (enters_of Tryz.func82 (by kernel_rfl) rfl) (makes_combine row1 row2) hm rm).mono fun _ _ ⟨h1, h2, h3⟩ => ⟨h1, h2, (b2.mono hlo).trans h3⟩
set_option maxHeartbeats 4000000 in
theorem loads_std (lo g : Nat) (w : World) (l : List In) (hL : atL lo g w l) (hlo : lo ≤ w.heap.size) (hlen : l.length + 13 ≤ 200) :
    Calls Tryz.prog 11 #[.pointer (some ⟨g, 0, none⟩)] w fun e w' => e = .returned (.tuple #[]) ∧ atL lo g w' (loadsI l) ∧ Below lo w w' := by
  go_enter Tryz.func11, Tryz.ntmps11
  have b0 : Below lo w w := Below.refl _ _
  go_wp2_with (go_at_call 45; refine (load_std _ _).mono ?_)
  rintro e y ⟨rfl, rfl⟩
  go_wp2_with (go_at_call 44; refine (add_load lo g ⟨#[108, 100, 97]⟩ 0 [1, 2, 3, 4, 5, 6, 8] w _ hL (Nat.le_trans hlo b0.size) (by simp only [List.length_cons, List.length_nil] <;> omega) (by simp [okMode])).mono ?_)
  rintro e x1 ⟨rfl, a1, d1⟩
  have b1 := b0.trans d1
  clear b0 d1
  have e1 : (more l ⟨#[108, 100, 97]⟩ (loadC 0) [1, 2, 3, 4, 5, 6, 8]).length = l.length + 7 := (more_len _ _ _ _).trans (by simp only [List.length_cons, List.length_nil] <;> omega)
  go_wp2_with (go_at_call 45; refine (load_std _ _).mono ?_)
  rintro e y ⟨rfl, rfl⟩
  go_wp2_with (go_at_call 44; refine (add_load lo g ⟨#[108, 100, 120]⟩ 1 [1, 2, 4] x1 _ a1 (Nat.le_trans hlo b1.size) (by simp only [List.length_cons, List.length_nil] <;> omega) (by simp [okMode])).mono ?_)
  rintro e x2 ⟨rfl, a2, d2⟩
  have b2 := b1.trans d2
  clear b1 d2
  have e2 : (more (more l ⟨#[108, 100, 97]⟩ (loadC 0) [1, 2, 3, 4, 5, 6, 8]) ⟨#[108, 100, 120]⟩ (loadC 1) [1, 2, 4]).length = l.length + 10 := (more_len _ _ _ _).trans (by simp only [List.length_cons, List.length_nil] <;> omega)
  clear e1
  go_wp2_with (go_at_call 45; refine (load_std _ _).mono ?_)
  rintro e y ⟨rfl, rfl⟩
  go_wp2_with (go_at_call 44; refine (add_load lo g ⟨#[108, 100, 121]⟩ 2 [1, 2, 4] x2 _ a2 (Nat.le_trans hlo b2.size) (by simp only [List.length_cons, List.length_nil] <;> omega) (by simp [okMode])).mono ?_)
  rintro e x3 ⟨rfl, a3, d3⟩
  have b3 := b2.trans d3
  clear b2 d3
  have e3 : (more (more (more l ⟨#[108, 100, 97]⟩ (loadC 0) [1, 2, 3, 4, 5, 6, 8]) ⟨#[108, 100, 120]⟩ (loadC 1) [1, 2, 4]) ⟨#[108, 100, 121]⟩ (loadC 2) [1, 2, 4]).length = l.length + 13 := (more_len _ _ _ _).trans (by simp only [List.length_cons, List.length_nil] <;> omega)
  clear e2
  go_wp2_with fail
  exact bodyPost_end (results_none rfl _ _ _) rfl ⟨rfl, a3, b3⟩
set_option maxHeartbeats 4000000 in
theorem stores_std (lo g : Nat) (w : World) (l : List In) (hL : atL lo g w l) (hlo : lo ≤ w.heap.size) (hlen : l.length + 10 ≤ 200) :
    Calls Tryz.prog 12 #[.pointer (some ⟨g, 0, none⟩)] w fun e w' => e = .returned (.tuple #[]) ∧ atL lo g w' (storesI l) ∧ Below lo w w' := by
  go_enter Tryz.func12, Tryz.ntmps12
  have b0 : Below lo w w := Below.refl _ _
  go_wp2_with (go_at_call 46; refine (store_std _ _).mono ?_)
  rintro e y ⟨rfl, rfl⟩
  go_wp2_with (go_at_call 44; refine (add_store lo g ⟨#[115, 116, 97]⟩ 0 [2, 3, 4, 5, 6, 8] w _ hL (Nat.le_trans hlo b0.size) (by simp only [List.length_cons, List.length_nil] <;> omega) (by simp [okMode])).mono ?_)
  rintro e x1 ⟨rfl, a1, d1⟩
  have b1 := b0.trans d1
  clear b0 d1
  have e1 : (more l ⟨#[115, 116, 97]⟩ (storeC 0) [2, 3, 4, 5, 6, 8]).length = l.length + 6 := (more_len _ _ _ _).trans (by simp only [List.length_cons, List.length_nil] <;> omega)
  go_wp2_with (go_at_call 46; refine (store_std _ _).mono ?_)
  rintro e y ⟨rfl, rfl⟩
  go_wp2_with (go_at_call 44; refine (add_store lo g ⟨#[115, 116, 120]⟩ 1 [2, 4] x1 _ a1 (Nat.le_trans hlo b1.size) (by simp only [List.length_cons, List.length_nil] <;> omega) (by simp [okMode])).mono ?_)
  rintro e x2 ⟨rfl, a2, d2⟩
  have b2 := b1.trans d2
  clear b1 d2
  have e2 : (more (more l ⟨#[115, 116, 97]⟩ (storeC 0) [2, 3, 4, 5, 6, 8]) ⟨#[115, 116, 120]⟩ (storeC 1) [2, 4]).length = l.length + 8 := (more_len _ _ _ _).trans (by simp only [List.length_cons, List.length_nil] <;> omega)
  clear e1
  go_wp2_with (go_at_call 46; refine (store_std _ _).mono ?_)
  rintro e y ⟨rfl, rfl⟩
  go_wp2_with (go_at_call 44; refine (add_store lo g ⟨#[115, 116, 121]⟩ 2 [2, 4] x2 _ a2 (Nat.le_trans hlo b2.size) (by simp only [List.length_cons, List.length_nil] <;> omega) (by simp [okMode])).mono ?_)
  rintro e x3 ⟨rfl, a3, d3⟩
  have b3 := b2.trans d3
  clear b2 d3
  have e3 : (more (more (more l ⟨#[115, 116, 97]⟩ (storeC 0) [2, 3, 4, 5, 6, 8]) ⟨#[115, 116, 120]⟩ (storeC 1) [2, 4]) ⟨#[115, 116, 121]⟩ (storeC 2) [2, 4]).length = l.length + 10 := (more_len _ _ _ _).trans (by simp only [List.length_cons, List.length_nil] <;> omega)
  clear e2
  go_wp2_with fail
  exact bodyPost_end (results_none rfl _ _ _) rfl ⟨rfl, a3, b3⟩
set_option maxHeartbeats 4000000 in
theorem sum_std (lo g : Nat) (name : ByteArray) (d : Int) (w : World) (l : List In) (hL : atL lo g w l) (hlo : lo ≤ w.heap.size) (hlen : l.length + 4 ≤ 200) :
    Calls Tryz.prog 47 #[.pointer (some ⟨g, 0, none⟩), .string name, .int .i64 d] w fun e w' => e = .returned (.tuple #[]) ∧ atL lo g w' (sumI l name d) ∧ Below lo w w' := by
  go_enter Tryz.func47, Tryz.ntmps47
  have b0 : Below lo w w := Below.refl _ _
  go_wp2_with (go_at_call 48; refine (combine_std _ _ _).mono ?_)
  rintro e y ⟨rfl, rfl⟩
  go_wp2_with (go_at_call 44; refine (add_combine lo g name d 0 [1, 2, 4, 5] w _ hL (Nat.le_trans hlo b0.size) (by simp only [List.length_cons, List.length_nil] <;> omega) (by simp [okMode])).mono ?_)
  rintro e x1 ⟨rfl, a1, d1⟩
  have b1 := b0.trans d1
  clear b0 d1
  have e1 : (more l name (combineC d 0) [1, 2, 4, 5]).length = l.length + 4 := (more_len _ _ _ _).trans (by simp only [List.length_cons, List.length_nil] <;> omega)
  go_wp2_with fail
  exact bodyPost_end (results_none rfl _ _ _) rfl ⟨rfl, a1, b1⟩
set_option maxHeartbeats 4000000 in
theorem sums_std (lo g : Nat) (w : World) (l : List In) (hL : atL lo g w l) (hlo : lo ≤ w.heap.size) (hlen : l.length + 28 ≤ 200) :
    Calls Tryz.prog 13 #[.pointer (some ⟨g, 0, none⟩)] w fun e w' => e = .returned (.tuple #[]) ∧ atL lo g w' (sumsI l) ∧ Below lo w w' := by
  go_enter Tryz.func13, Tryz.ntmps13
  have b0 : Below lo w w := Below.refl _ _
  go_wp2_with (go_at_call 47; refine (sum_std lo g ⟨#[97, 100, 99]⟩ 4 w _ hL (Nat.le_trans hlo b0.size) (by omega)).mono ?_)
  rintro e x1 ⟨rfl, a1, d1⟩
  have b1 := b0.trans d1
  clear b0 d1
  have e1 : (sumI l ⟨#[97, 100, 99]⟩ 4).length = l.length + 4 := (sumI_len _ _ _).trans (by omega)
  go_wp2_with (go_at_call 47; refine (sum_std lo g ⟨#[115, 98, 99]⟩ 5 x1 _ a1 (Nat.le_trans hlo b1.size) (by omega)).mono ?_)
  rintro e x2 ⟨rfl, a2, d2⟩
  have b2 := b1.trans d2
  clear b1 d2
  have e2 : (sumI (sumI l ⟨#[97, 100, 99]⟩ 4) ⟨#[115, 98, 99]⟩ 5).length = l.length + 8 := (sumI_len _ _ _).trans (by omega)
  clear e1
  go_wp2_with (go_at_call 47; refine (sum_std lo g ⟨#[97, 110, 100]⟩ 7 x2 _ a2 (Nat.le_trans hlo b2.size) (by omega)).mono ?_)
  rintro e x3 ⟨rfl, a3, d3⟩
  have b3 := b2.trans d3
  clear b2 d3
  have e3 : (sumI (sumI (sumI l ⟨#[97, 100, 99]⟩ 4) ⟨#[115, 98, 99]⟩ 5) ⟨#[97, 110, 100]⟩ 7).length = l.length + 12 := (sumI_len _ _ _).trans (by omega)
  clear e2
  go_wp2_with (go_at_call 47; refine (sum_std lo g ⟨#[111, 114, 97]⟩ 8 x3 _ a3 (Nat.le_trans hlo b3.size) (by omega)).mono ?_)
  rintro e x4 ⟨rfl, a4, d4⟩
  have b4 := b3.trans d4
  clear b3 d4
  have e4 : (sumI (sumI (sumI (sumI l ⟨#[97, 100, 99]⟩ 4) ⟨#[115, 98, 99]⟩ 5) ⟨#[97, 110, 100]⟩ 7) ⟨#[111, 114, 97]⟩ 8).length = l.length + 16 := (sumI_len _ _ _).trans (by omega)
  clear e3
  go_wp2_with (go_at_call 47; refine (sum_std lo g ⟨#[101, 111, 114]⟩ 9 x4 _ a4 (Nat.le_trans hlo b4.size) (by omega)).mono ?_)
  rintro e x5 ⟨rfl, a5, d5⟩
  have b5 := b4.trans d5
  clear b4 d5
  have e5 : (sumI (sumI (sumI (sumI (sumI l ⟨#[97, 100, 99]⟩ 4) ⟨#[115, 98, 99]⟩ 5) ⟨#[97, 110, 100]⟩ 7) ⟨#[111, 114, 97]⟩ 8) ⟨#[101, 111, 114]⟩ 9).length = l.length + 20 := (sumI_len _ _ _).trans (by omega)
  clear e4
  go_wp2_with (go_at_call 47; refine (sum_std lo g ⟨#[99, 109, 112]⟩ 6 x5 _ a5 (Nat.le_trans hlo b5.size) (by omega)).mono ?_)
  rintro e x6 ⟨rfl, a6, d6⟩
  have b6 := b5.trans d6
  clear b5 d6
  have e6 : (sumI (sumI (sumI (sumI (sumI (sumI l ⟨#[97, 100, 99]⟩ 4) ⟨#[115, 98, 99]⟩ 5) ⟨#[97, 110, 100]⟩ 7) ⟨#[111, 114, 97]⟩ 8) ⟨#[101, 111, 114]⟩ 9) ⟨#[99, 109, 112]⟩ 6).length = l.length + 24 := (sumI_len _ _ _).trans (by omega)
  clear e5
  go_wp2_with (go_at_call 48; refine (combine_std _ _ _).mono ?_)
  rintro e y ⟨rfl, rfl⟩
  go_wp2_with (go_at_call 44; refine (add_combine lo g ⟨#[99, 112, 120]⟩ 6 1 [1, 2] x6 _ a6 (Nat.le_trans hlo b6.size) (by simp only [List.length_cons, List.length_nil] <;> omega) (by simp [okMode])).mono ?_)
  rintro e x7 ⟨rfl, a7, d7⟩
  have b7 := b6.trans d7
  clear b6 d7
  have e7 : (more (sumI (sumI (sumI (sumI (sumI (sumI l ⟨#[97, 100, 99]⟩ 4) ⟨#[115, 98, 99]⟩ 5) ⟨#[97, 110, 100]⟩ 7) ⟨#[111, 114, 97]⟩ 8) ⟨#[101, 111, 114]⟩ 9) ⟨#[99, 109, 112]⟩ 6) ⟨#[99, 112, 120]⟩ (combineC 6 1) [1, 2]).length = l.length + 26 := (more_len _ _ _ _).trans (by simp only [List.length_cons, List.length_nil] <;> omega)
  clear e6
  go_wp2_with (go_at_call 48; refine (combine_std _ _ _).mono ?_)
  rintro e y ⟨rfl, rfl⟩
  go_wp2_with (go_at_call 44; refine (add_combine lo g ⟨#[99, 112, 121]⟩ 6 2 [1, 2] x7 _ a7 (Nat.le_trans hlo b7.size) (by simp only [List.length_cons, List.length_nil] <;> omega) (by simp [okMode])).mono ?_)
  rintro e x8 ⟨rfl, a8, d8⟩
  have b8 := b7.trans d8
  clear b7 d8
  have e8 : (more (more (sumI (sumI (sumI (sumI (sumI (sumI l ⟨#[97, 100, 99]⟩ 4) ⟨#[115, 98, 99]⟩ 5) ⟨#[97, 110, 100]⟩ 7) ⟨#[111, 114, 97]⟩ 8) ⟨#[101, 111, 114]⟩ 9) ⟨#[99, 109, 112]⟩ 6) ⟨#[99, 112, 120]⟩ (combineC 6 1) [1, 2]) ⟨#[99, 112, 121]⟩ (combineC 6 2) [1, 2]).length = l.length + 28 := (more_len _ _ _ _).trans (by simp only [List.length_cons, List.length_nil] <;> omega)
  clear e7
  go_wp2_with fail
  exact bodyPost_end (results_none rfl _ _ _) rfl ⟨rfl, a8, b8⟩
set_option maxHeartbeats 4000000 in
theorem changes_std (lo g : Nat) (w : World) (l : List In) (hL : atL lo g w l) (hlo : lo ≤ w.heap.size) (hlen : l.length + 12 ≤ 200) :
    Calls Tryz.prog 14 #[.pointer (some ⟨g, 0, none⟩)] w fun e w' => e = .returned (.tuple #[]) ∧ atL lo g w' (changesI l) ∧ Below lo w w' := by
  go_enter Tryz.func14, Tryz.ntmps14
  have b0 : Below lo w w := Below.refl _ _
  go_wp2_with (go_at_call 49; refine (change_std _ _).mono ?_)
  rintro e y ⟨rfl, rfl⟩
  go_wp2_with (go_at_call 44; refine (add_change lo g ⟨#[105, 110, 99]⟩ 10 [2, 4] w _ hL (Nat.le_trans hlo b0.size) (by simp only [List.length_cons, List.length_nil] <;> omega) (by simp [okMode])).mono ?_)
  rintro e x1 ⟨rfl, a1, d1⟩
  have b1 := b0.trans d1
  clear b0 d1
  have e1 : (more l ⟨#[105, 110, 99]⟩ (changeC 10) [2, 4]).length = l.length + 2 := (more_len _ _ _ _).trans (by simp only [List.length_cons, List.length_nil] <;> omega)
  go_wp2_with (go_at_call 49; refine (change_std _ _).mono ?_)
  rintro e y ⟨rfl, rfl⟩
  go_wp2_with (go_at_call 44; refine (add_change lo g ⟨#[100, 101, 99]⟩ 11 [2, 4] x1 _ a1 (Nat.le_trans hlo b1.size) (by simp only [List.length_cons, List.length_nil] <;> omega) (by simp [okMode])).mono ?_)
  rintro e x2 ⟨rfl, a2, d2⟩
  have b2 := b1.trans d2
  clear b1 d2
  have e2 : (more (more l ⟨#[105, 110, 99]⟩ (changeC 10) [2, 4]) ⟨#[100, 101, 99]⟩ (changeC 11) [2, 4]).length = l.length + 4 := (more_len _ _ _ _).trans (by simp only [List.length_cons, List.length_nil] <;> omega)
  clear e1
  go_wp2_with (go_at_call 49; refine (change_std _ _).mono ?_)
  rintro e y ⟨rfl, rfl⟩
  go_wp2_with (go_at_call 44; refine (add_change lo g ⟨#[97, 115, 108]⟩ 12 [0, 2] x2 _ a2 (Nat.le_trans hlo b2.size) (by simp only [List.length_cons, List.length_nil] <;> omega) (by simp [okMode])).mono ?_)
  rintro e x3 ⟨rfl, a3, d3⟩
  have b3 := b2.trans d3
  clear b2 d3
  have e3 : (more (more (more l ⟨#[105, 110, 99]⟩ (changeC 10) [2, 4]) ⟨#[100, 101, 99]⟩ (changeC 11) [2, 4]) ⟨#[97, 115, 108]⟩ (changeC 12) [0, 2]).length = l.length + 6 := (more_len _ _ _ _).trans (by simp only [List.length_cons, List.length_nil] <;> omega)
  clear e2
  go_wp2_with (go_at_call 49; refine (change_std _ _).mono ?_)
  rintro e y ⟨rfl, rfl⟩
  go_wp2_with (go_at_call 44; refine (add_change lo g ⟨#[108, 115, 114]⟩ 13 [0, 2] x3 _ a3 (Nat.le_trans hlo b3.size) (by simp only [List.length_cons, List.length_nil] <;> omega) (by simp [okMode])).mono ?_)
  rintro e x4 ⟨rfl, a4, d4⟩
  have b4 := b3.trans d4
  clear b3 d4
  have e4 : (more (more (more (more l ⟨#[105, 110, 99]⟩ (changeC 10) [2, 4]) ⟨#[100, 101, 99]⟩ (changeC 11) [2, 4]) ⟨#[97, 115, 108]⟩ (changeC 12) [0, 2]) ⟨#[108, 115, 114]⟩ (changeC 13) [0, 2]).length = l.length + 8 := (more_len _ _ _ _).trans (by simp only [List.length_cons, List.length_nil] <;> omega)
  clear e3
  go_wp2_with (go_at_call 49; refine (change_std _ _).mono ?_)
  rintro e y ⟨rfl, rfl⟩
  go_wp2_with (go_at_call 44; refine (add_change lo g ⟨#[114, 111, 108]⟩ 14 [0, 2] x4 _ a4 (Nat.le_trans hlo b4.size) (by simp only [List.length_cons, List.length_nil] <;> omega) (by simp [okMode])).mono ?_)
  rintro e x5 ⟨rfl, a5, d5⟩
  have b5 := b4.trans d5
  clear b4 d5
  have e5 : (more (more (more (more (more l ⟨#[105, 110, 99]⟩ (changeC 10) [2, 4]) ⟨#[100, 101, 99]⟩ (changeC 11) [2, 4]) ⟨#[97, 115, 108]⟩ (changeC 12) [0, 2]) ⟨#[108, 115, 114]⟩ (changeC 13) [0, 2]) ⟨#[114, 111, 108]⟩ (changeC 14) [0, 2]).length = l.length + 10 := (more_len _ _ _ _).trans (by simp only [List.length_cons, List.length_nil] <;> omega)
  clear e4
  go_wp2_with (go_at_call 49; refine (change_std _ _).mono ?_)
  rintro e y ⟨rfl, rfl⟩
  go_wp2_with (go_at_call 44; refine (add_change lo g ⟨#[114, 111, 114]⟩ 15 [0, 2] x5 _ a5 (Nat.le_trans hlo b5.size) (by simp only [List.length_cons, List.length_nil] <;> omega) (by simp [okMode])).mono ?_)
  rintro e x6 ⟨rfl, a6, d6⟩
  have b6 := b5.trans d6
  clear b5 d6
  have e6 : (more (more (more (more (more (more l ⟨#[105, 110, 99]⟩ (changeC 10) [2, 4]) ⟨#[100, 101, 99]⟩ (changeC 11) [2, 4]) ⟨#[97, 115, 108]⟩ (changeC 12) [0, 2]) ⟨#[108, 115, 114]⟩ (changeC 13) [0, 2]) ⟨#[114, 111, 108]⟩ (changeC 14) [0, 2]) ⟨#[114, 111, 114]⟩ (changeC 15) [0, 2]).length = l.length + 12 := (more_len _ _ _ _).trans (by simp only [List.length_cons, List.length_nil] <;> omega)
  clear e5
  go_wp2_with fail
  exact bodyPost_end (results_none rfl _ _ _) rfl ⟨rfl, a6, b6⟩
set_option maxHeartbeats 4000000 in
theorem move_std (lo g : Nat) (name : ByteArray) (t f : Int) (w : World) (l : List In) (hL : atL lo g w l) (hlo : lo ≤ w.heap.size) (hlen : l.length + 1 ≤ 200) :
    Calls Tryz.prog 50 #[.pointer (some ⟨g, 0, none⟩), .string name, .int .i64 t, .int .i64 f] w fun e w' => e = .returned (.tuple #[]) ∧ atL lo g w' (moveI l name t f) ∧ Below lo w w' := by
  go_enter Tryz.func50, Tryz.ntmps50
  have b0 : Below lo w w := Below.refl _ _
  go_wp2_with (go_at_call 53; refine (with_std _ _ _ _ ).mono ?_)
  rintro e w1 ⟨rfl, h1⟩
  have c_w_w1 := h1
  go_wp2_with (go_at_call 54; refine (on_std _ _ _ ).mono ?_)
  rintro e w2 ⟨rfl, h2⟩
  have c_w_w2 := below_step c_w_w1 h2
  have c_w1_w2 := h2
  go_wp2_with (go_at_call 52; refine (quiet_std _ _ _ _ ).mono ?_)
  rintro e w3 ⟨rfl, h3⟩
  have c_w_w3 := below_step (below_al c_w_w2 _) h3
  have c_w1_w3 := below_step (below_al c_w1_w2 _) h3
  have c_w2_w3 := below_step (below_one _ _) h3
  have s3 := steps_built h3 [⟨1, t, f, 0⟩, ⟨3, t, 0, 0⟩] rfl rfl (Nat.le_of_ble_eq_true rfl)
  go_wp2_with (go_at_call 51; refine (addPlain_std lo g name 0 [⟨0, 0, 0, [⟨1, t, f, 0⟩, ⟨3, t, 0, 0⟩]⟩] _ _ _ _ _ (atL_below hL (below_al c_w_w3 _)) (Nat.le_trans (Nat.le_trans hlo b0.size) (below_al c_w_w3 _).size) (by omega) (by simp [okMode]) (own_cycles (w := w3) [(⟨0, 0, 0, [⟨1, t, f, 0⟩, ⟨3, t, 0, 0⟩]⟩, _)] ⟨⟨_, s3⟩, trivial⟩ rfl rfl (Nat.le_of_ble_eq_true rfl))).mono ?_; rintro e x1 ⟨rfl, a1, d1⟩)
  have b1 := b0.trans (((below_al c_w_w3 _).mono (Nat.le_trans hlo b0.size)).trans d1)
  clear b0 d1
  have e1 : (moreP l name 0 [⟨0, 0, 0, [⟨1, t, f, 0⟩, ⟨3, t, 0, 0⟩]⟩]).length = l.length + 1 := (moreP_len _ _ _ _).trans (by omega)
  go_wp2_with fail
  exact bodyPost_end (results_none rfl _ _ _) rfl ⟨rfl, a1, b1⟩
set_option maxHeartbeats 4000000 in
theorem moves_std (lo g : Nat) (w : World) (l : List In) (hL : atL lo g w l) (hlo : lo ≤ w.heap.size) (hlen : l.length + 10 ≤ 200) :
    Calls Tryz.prog 15 #[.pointer (some ⟨g, 0, none⟩)] w fun e w' => e = .returned (.tuple #[]) ∧ atL lo g w' (movesI l) ∧ Below lo w w' := by
  go_enter Tryz.func15, Tryz.ntmps15
  have b0 : Below lo w w := Below.refl _ _
  go_wp2_with (go_at_call 50; refine (move_std lo g ⟨#[116, 97, 120]⟩ 1 0 w _ hL (Nat.le_trans hlo b0.size) (by omega)).mono ?_)
  rintro e x1 ⟨rfl, a1, d1⟩
  have b1 := b0.trans d1
  clear b0 d1
  have e1 : (moveI l ⟨#[116, 97, 120]⟩ 1 0).length = l.length + 1 := (moreP_len _ _ _ _).trans (by omega)
  go_wp2_with (go_at_call 50; refine (move_std lo g ⟨#[116, 97, 121]⟩ 2 0 x1 _ a1 (Nat.le_trans hlo b1.size) (by omega)).mono ?_)
  rintro e x2 ⟨rfl, a2, d2⟩
  have b2 := b1.trans d2
  clear b1 d2
  have e2 : (moveI (moveI l ⟨#[116, 97, 120]⟩ 1 0) ⟨#[116, 97, 121]⟩ 2 0).length = l.length + 2 := (moreP_len _ _ _ _).trans (by omega)
  clear e1
  go_wp2_with (go_at_call 50; refine (move_std lo g ⟨#[116, 120, 97]⟩ 0 1 x2 _ a2 (Nat.le_trans hlo b2.size) (by omega)).mono ?_)
  rintro e x3 ⟨rfl, a3, d3⟩
  have b3 := b2.trans d3
  clear b2 d3
  have e3 : (moveI (moveI (moveI l ⟨#[116, 97, 120]⟩ 1 0) ⟨#[116, 97, 121]⟩ 2 0) ⟨#[116, 120, 97]⟩ 0 1).length = l.length + 3 := (moreP_len _ _ _ _).trans (by omega)
  clear e2
  go_wp2_with (go_at_call 50; refine (move_std lo g ⟨#[116, 121, 97]⟩ 0 2 x3 _ a3 (Nat.le_trans hlo b3.size) (by omega)).mono ?_)
  rintro e x4 ⟨rfl, a4, d4⟩
  have b4 := b3.trans d4
  clear b3 d4
  have e4 : (moveI (moveI (moveI (moveI l ⟨#[116, 97, 120]⟩ 1 0) ⟨#[116, 97, 121]⟩ 2 0) ⟨#[116, 120, 97]⟩ 0 1) ⟨#[116, 121, 97]⟩ 0 2).length = l.length + 4 := (moreP_len _ _ _ _).trans (by omega)
  clear e3
  go_wp2_with (go_at_call 50; refine (move_std lo g ⟨#[116, 115, 120]⟩ 1 3 x4 _ a4 (Nat.le_trans hlo b4.size) (by omega)).mono ?_)
  rintro e x5 ⟨rfl, a5, d5⟩
  have b5 := b4.trans d5
  clear b4 d5
  have e5 : (moveI (moveI (moveI (moveI (moveI l ⟨#[116, 97, 120]⟩ 1 0) ⟨#[116, 97, 121]⟩ 2 0) ⟨#[116, 120, 97]⟩ 0 1) ⟨#[116, 121, 97]⟩ 0 2) ⟨#[116, 115, 120]⟩ 1 3).length = l.length + 5 := (moreP_len _ _ _ _).trans (by omega)
  clear e4
  go_wp2_with (go_at_call 53; refine (with_std _ _ _ _ ).mono ?_)
  rintro e w1 ⟨rfl, h1⟩
  have c_x5_w1 := h1
  go_wp2_with (go_at_call 52; refine (quiet_std _ _ _ _ ).mono ?_)
  rintro e w2 ⟨rfl, h2⟩
  have c_x5_w2 := below_step (below_al c_x5_w1 _) h2
  have c_w1_w2 := below_step (below_one _ _) h2
  have s2 := steps_built h2 [⟨1, 3, 1, 0⟩] rfl rfl (Nat.le_of_ble_eq_true rfl)
  go_wp2_with (go_at_call 51; refine (addPlain_std lo g ⟨#[116, 120, 115]⟩ 0 [⟨0, 0, 0, [⟨1, 3, 1, 0⟩]⟩] _ _ _ _ _ (atL_below a5 (below_al c_x5_w2 _)) (Nat.le_trans (Nat.le_trans hlo b5.size) (below_al c_x5_w2 _).size) (by omega) (by simp [okMode]) (own_cycles (w := w2) [(⟨0, 0, 0, [⟨1, 3, 1, 0⟩]⟩, _)] ⟨⟨_, s2⟩, trivial⟩ rfl rfl (Nat.le_of_ble_eq_true rfl))).mono ?_; rintro e x6 ⟨rfl, a6, d6⟩)
  have b6 := b5.trans (((below_al c_x5_w2 _).mono (Nat.le_trans hlo b5.size)).trans d6)
  clear b5 d6
  have e6 : (moreP (moveI (moveI (moveI (moveI (moveI l ⟨#[116, 97, 120]⟩ 1 0) ⟨#[116, 97, 121]⟩ 2 0) ⟨#[116, 120, 97]⟩ 0 1) ⟨#[116, 121, 97]⟩ 0 2) ⟨#[116, 115, 120]⟩ 1 3) ⟨#[116, 120, 115]⟩ 0 [⟨0, 0, 0, [⟨1, 3, 1, 0⟩]⟩]).length = l.length + 6 := (moreP_len _ _ _ _).trans (by omega)
  clear e5
  go_wp2_with (go_at_call 54; refine (on_std _ _ _ ).mono ?_)
  rintro e w3 ⟨rfl, h3⟩
  have c_x6_w3 := h3
  go_wp2_with (go_at_call 52; refine (quiet_std _ _ _ _ ).mono ?_)
  rintro e w4 ⟨rfl, h4⟩
  have c_x6_w4 := below_step (below_al c_x6_w3 _) h4
  have c_w3_w4 := below_step (below_one _ _) h4
  have s4 := steps_built h4 [⟨10, 1, 0, 0⟩] rfl rfl (Nat.le_of_ble_eq_true rfl)
  go_wp2_with (go_at_call 51; refine (addPlain_std lo g ⟨#[105, 110, 120]⟩ 0 [⟨0, 0, 0, [⟨10, 1, 0, 0⟩]⟩] _ _ _ _ _ (atL_below a6 (below_al c_x6_w4 _)) (Nat.le_trans (Nat.le_trans hlo b6.size) (below_al c_x6_w4 _).size) (by omega) (by simp [okMode]) (own_cycles (w := w4) [(⟨0, 0, 0, [⟨10, 1, 0, 0⟩]⟩, _)] ⟨⟨_, s4⟩, trivial⟩ rfl rfl (Nat.le_of_ble_eq_true rfl))).mono ?_; rintro e x7 ⟨rfl, a7, d7⟩)
  have b7 := b6.trans (((below_al c_x6_w4 _).mono (Nat.le_trans hlo b6.size)).trans d7)
  clear b6 d7
  have e7 : (moreP (moreP (moveI (moveI (moveI (moveI (moveI l ⟨#[116, 97, 120]⟩ 1 0) ⟨#[116, 97, 121]⟩ 2 0) ⟨#[116, 120, 97]⟩ 0 1) ⟨#[116, 121, 97]⟩ 0 2) ⟨#[116, 115, 120]⟩ 1 3) ⟨#[116, 120, 115]⟩ 0 [⟨0, 0, 0, [⟨1, 3, 1, 0⟩]⟩]) ⟨#[105, 110, 120]⟩ 0 [⟨0, 0, 0, [⟨10, 1, 0, 0⟩]⟩]).length = l.length + 7 := (moreP_len _ _ _ _).trans (by omega)
  clear e6
  go_wp2_with (go_at_call 54; refine (on_std _ _ _ ).mono ?_)
  rintro e w5 ⟨rfl, h5⟩
  have c_x7_w5 := h5
  go_wp2_with (go_at_call 52; refine (quiet_std _ _ _ _ ).mono ?_)
  rintro e w6 ⟨rfl, h6⟩
  have c_x7_w6 := below_step (below_al c_x7_w5 _) h6
  have c_w5_w6 := below_step (below_one _ _) h6
  have s6 := steps_built h6 [⟨10, 2, 0, 0⟩] rfl rfl (Nat.le_of_ble_eq_true rfl)
  go_wp2_with (go_at_call 51; refine (addPlain_std lo g ⟨#[105, 110, 121]⟩ 0 [⟨0, 0, 0, [⟨10, 2, 0, 0⟩]⟩] _ _ _ _ _ (atL_below a7 (below_al c_x7_w6 _)) (Nat.le_trans (Nat.le_trans hlo b7.size) (below_al c_x7_w6 _).size) (by omega) (by simp [okMode]) (own_cycles (w := w6) [(⟨0, 0, 0, [⟨10, 2, 0, 0⟩]⟩, _)] ⟨⟨_, s6⟩, trivial⟩ rfl rfl (Nat.le_of_ble_eq_true rfl))).mono ?_; rintro e x8 ⟨rfl, a8, d8⟩)
  have b8 := b7.trans (((below_al c_x7_w6 _).mono (Nat.le_trans hlo b7.size)).trans d8)
  clear b7 d8
  have e8 : (moreP (moreP (moreP (moveI (moveI (moveI (moveI (moveI l ⟨#[116, 97, 120]⟩ 1 0) ⟨#[116, 97, 121]⟩ 2 0) ⟨#[116, 120, 97]⟩ 0 1) ⟨#[116, 121, 97]⟩ 0 2) ⟨#[116, 115, 120]⟩ 1 3) ⟨#[116, 120, 115]⟩ 0 [⟨0, 0, 0, [⟨1, 3, 1, 0⟩]⟩]) ⟨#[105, 110, 120]⟩ 0 [⟨0, 0, 0, [⟨10, 1, 0, 0⟩]⟩]) ⟨#[105, 110, 121]⟩ 0 [⟨0, 0, 0, [⟨10, 2, 0, 0⟩]⟩]).length = l.length + 8 := (moreP_len _ _ _ _).trans (by omega)
  clear e7
  go_wp2_with (go_at_call 54; refine (on_std _ _ _ ).mono ?_)
  rintro e w7 ⟨rfl, h7⟩
  have c_x8_w7 := h7
  go_wp2_with (go_at_call 52; refine (quiet_std _ _ _ _ ).mono ?_)
  rintro e w8 ⟨rfl, h8⟩
  have c_x8_w8 := below_step (below_al c_x8_w7 _) h8
  have c_w7_w8 := below_step (below_one _ _) h8
  have s8 := steps_built h8 [⟨11, 1, 0, 0⟩] rfl rfl (Nat.le_of_ble_eq_true rfl)
  go_wp2_with (go_at_call 51; refine (addPlain_std lo g ⟨#[100, 101, 120]⟩ 0 [⟨0, 0, 0, [⟨11, 1, 0, 0⟩]⟩] _ _ _ _ _ (atL_below a8 (below_al c_x8_w8 _)) (Nat.le_trans (Nat.le_trans hlo b8.size) (below_al c_x8_w8 _).size) (by omega) (by simp [okMode]) (own_cycles (w := w8) [(⟨0, 0, 0, [⟨11, 1, 0, 0⟩]⟩, _)] ⟨⟨_, s8⟩, trivial⟩ rfl rfl (Nat.le_of_ble_eq_true rfl))).mono ?_; rintro e x9 ⟨rfl, a9, d9⟩)
  have b9 := b8.trans (((below_al c_x8_w8 _).mono (Nat.le_trans hlo b8.size)).trans d9)
  clear b8 d9
  have e9 : (moreP (moreP (moreP (moreP (moveI (moveI (moveI (moveI (moveI l ⟨#[116, 97, 120]⟩ 1 0) ⟨#[116, 97, 121]⟩ 2 0) ⟨#[116, 120, 97]⟩ 0 1) ⟨#[116, 121, 97]⟩ 0 2) ⟨#[116, 115, 120]⟩ 1 3) ⟨#[116, 120, 115]⟩ 0 [⟨0, 0, 0, [⟨1, 3, 1, 0⟩]⟩]) ⟨#[105, 110, 120]⟩ 0 [⟨0, 0, 0, [⟨10, 1, 0, 0⟩]⟩]) ⟨#[105, 110, 121]⟩ 0 [⟨0, 0, 0, [⟨10, 2, 0, 0⟩]⟩]) ⟨#[100, 101, 120]⟩ 0 [⟨0, 0, 0, [⟨11, 1, 0, 0⟩]⟩]).length = l.length + 9 := (moreP_len _ _ _ _).trans (by omega)
  clear e8
  go_wp2_with (go_at_call 54; refine (on_std _ _ _ ).mono ?_)
  rintro e w9 ⟨rfl, h9⟩
  have c_x9_w9 := h9
  go_wp2_with (go_at_call 52; refine (quiet_std _ _ _ _ ).mono ?_)
  rintro e w10 ⟨rfl, h10⟩
  have c_x9_w10 := below_step (below_al c_x9_w9 _) h10
  have c_w9_w10 := below_step (below_one _ _) h10
  have s10 := steps_built h10 [⟨11, 2, 0, 0⟩] rfl rfl (Nat.le_of_ble_eq_true rfl)
  go_wp2_with (go_at_call 51; refine (addPlain_std lo g ⟨#[100, 101, 121]⟩ 0 [⟨0, 0, 0, [⟨11, 2, 0, 0⟩]⟩] _ _ _ _ _ (atL_below a9 (below_al c_x9_w10 _)) (Nat.le_trans (Nat.le_trans hlo b9.size) (below_al c_x9_w10 _).size) (by omega) (by simp [okMode]) (own_cycles (w := w10) [(⟨0, 0, 0, [⟨11, 2, 0, 0⟩]⟩, _)] ⟨⟨_, s10⟩, trivial⟩ rfl rfl (Nat.le_of_ble_eq_true rfl))).mono ?_; rintro e x10 ⟨rfl, a10, d10⟩)
  have b10 := b9.trans (((below_al c_x9_w10 _).mono (Nat.le_trans hlo b9.size)).trans d10)
  clear b9 d10
  have e10 : (moreP (moreP (moreP (moreP (moreP (moveI (moveI (moveI (moveI (moveI l ⟨#[116, 97, 120]⟩ 1 0) ⟨#[116, 97, 121]⟩ 2 0) ⟨#[116, 120, 97]⟩ 0 1) ⟨#[116, 121, 97]⟩ 0 2) ⟨#[116, 115, 120]⟩ 1 3) ⟨#[116, 120, 115]⟩ 0 [⟨0, 0, 0, [⟨1, 3, 1, 0⟩]⟩]) ⟨#[105, 110, 120]⟩ 0 [⟨0, 0, 0, [⟨10, 1, 0, 0⟩]⟩]) ⟨#[105, 110, 121]⟩ 0 [⟨0, 0, 0, [⟨10, 2, 0, 0⟩]⟩]) ⟨#[100, 101, 120]⟩ 0 [⟨0, 0, 0, [⟨11, 1, 0, 0⟩]⟩]) ⟨#[100, 101, 121]⟩ 0 [⟨0, 0, 0, [⟨11, 2, 0, 0⟩]⟩]).length = l.length + 10 := (moreP_len _ _ _ _).trans (by omega)
  clear e9
  go_wp2_with fail
  exact bodyPost_end (results_none rfl _ _ _) rfl ⟨rfl, a10, b10⟩
set_option maxHeartbeats 4000000 in
theorem flags_std (lo g : Nat) (w : World) (l : List In) (hL : atL lo g w l) (hlo : lo ≤ w.heap.size) (hlen : l.length + 5 ≤ 200) :
    Calls Tryz.prog 16 #[.pointer (some ⟨g, 0, none⟩)] w fun e w' => e = .returned (.tuple #[]) ∧ atL lo g w' (flagsI l) ∧ Below lo w w' := by
  go_enter Tryz.func16, Tryz.ntmps16
  have b0 : Below lo w w := Below.refl _ _
  go_wp2_with (go_at_call 55; refine (flag_std _ _ _ ).mono ?_)
  rintro e w1 ⟨rfl, h1⟩
  have c_w_w1 := h1
  go_wp2_with (go_at_call 52; refine (quiet_std _ _ _ _ ).mono ?_)
  rintro e w2 ⟨rfl, h2⟩
  have c_w_w2 := below_step (below_al c_w_w1 _) h2
  have c_w1_w2 := below_step (below_one _ _) h2
  have s2 := steps_built h2 [⟨17, 0, 0, 1⟩] rfl rfl (Nat.le_of_ble_eq_true rfl)
  go_wp2_with (go_at_call 51; refine (addPlain_std lo g ⟨#[99, 108, 99]⟩ 0 [⟨0, 0, 0, [⟨17, 0, 0, 1⟩]⟩] _ _ _ _ _ (atL_below hL (below_al c_w_w2 _)) (Nat.le_trans (Nat.le_trans hlo b0.size) (below_al c_w_w2 _).size) (by omega) (by simp [okMode]) (own_cycles (w := w2) [(⟨0, 0, 0, [⟨17, 0, 0, 1⟩]⟩, _)] ⟨⟨_, s2⟩, trivial⟩ rfl rfl (Nat.le_of_ble_eq_true rfl))).mono ?_; rintro e x1 ⟨rfl, a1, d1⟩)
  have b1 := b0.trans (((below_al c_w_w2 _).mono (Nat.le_trans hlo b0.size)).trans d1)
  clear b0 d1
  have e1 : (moreP l ⟨#[99, 108, 99]⟩ 0 [⟨0, 0, 0, [⟨17, 0, 0, 1⟩]⟩]).length = l.length + 1 := (moreP_len _ _ _ _).trans (by omega)
  go_wp2_with (go_at_call 55; refine (flag_std _ _ _ ).mono ?_)
  rintro e w3 ⟨rfl, h3⟩
  have c_x1_w3 := h3
  go_wp2_with (go_at_call 52; refine (quiet_std _ _ _ _ ).mono ?_)
  rintro e w4 ⟨rfl, h4⟩
  have c_x1_w4 := below_step (below_al c_x1_w3 _) h4
  have c_w3_w4 := below_step (below_one _ _) h4
  have s4 := steps_built h4 [⟨16, 0, 0, 1⟩] rfl rfl (Nat.le_of_ble_eq_true rfl)
  go_wp2_with (go_at_call 51; refine (addPlain_std lo g ⟨#[115, 101, 99]⟩ 0 [⟨0, 0, 0, [⟨16, 0, 0, 1⟩]⟩] _ _ _ _ _ (atL_below a1 (below_al c_x1_w4 _)) (Nat.le_trans (Nat.le_trans hlo b1.size) (below_al c_x1_w4 _).size) (by omega) (by simp [okMode]) (own_cycles (w := w4) [(⟨0, 0, 0, [⟨16, 0, 0, 1⟩]⟩, _)] ⟨⟨_, s4⟩, trivial⟩ rfl rfl (Nat.le_of_ble_eq_true rfl))).mono ?_; rintro e x2 ⟨rfl, a2, d2⟩)
  have b2 := b1.trans (((below_al c_x1_w4 _).mono (Nat.le_trans hlo b1.size)).trans d2)
  clear b1 d2
  have e2 : (moreP (moreP l ⟨#[99, 108, 99]⟩ 0 [⟨0, 0, 0, [⟨17, 0, 0, 1⟩]⟩]) ⟨#[115, 101, 99]⟩ 0 [⟨0, 0, 0, [⟨16, 0, 0, 1⟩]⟩]).length = l.length + 2 := (moreP_len _ _ _ _).trans (by omega)
  clear e1
  go_wp2_with (go_at_call 55; refine (flag_std _ _ _ ).mono ?_)
  rintro e w5 ⟨rfl, h5⟩
  have c_x2_w5 := h5
  go_wp2_with (go_at_call 52; refine (quiet_std _ _ _ _ ).mono ?_)
  rintro e w6 ⟨rfl, h6⟩
  have c_x2_w6 := below_step (below_al c_x2_w5 _) h6
  have c_w5_w6 := below_step (below_one _ _) h6
  have s6 := steps_built h6 [⟨17, 0, 0, 4⟩] rfl rfl (Nat.le_of_ble_eq_true rfl)
  go_wp2_with (go_at_call 51; refine (addPlain_std lo g ⟨#[99, 108, 105]⟩ 0 [⟨0, 0, 0, [⟨17, 0, 0, 4⟩]⟩] _ _ _ _ _ (atL_below a2 (below_al c_x2_w6 _)) (Nat.le_trans (Nat.le_trans hlo b2.size) (below_al c_x2_w6 _).size) (by omega) (by simp [okMode]) (own_cycles (w := w6) [(⟨0, 0, 0, [⟨17, 0, 0, 4⟩]⟩, _)] ⟨⟨_, s6⟩, trivial⟩ rfl rfl (Nat.le_of_ble_eq_true rfl))).mono ?_; rintro e x3 ⟨rfl, a3, d3⟩)
  have b3 := b2.trans (((below_al c_x2_w6 _).mono (Nat.le_trans hlo b2.size)).trans d3)
  clear b2 d3
  have e3 : (moreP (moreP (moreP l ⟨#[99, 108, 99]⟩ 0 [⟨0, 0, 0, [⟨17, 0, 0, 1⟩]⟩]) ⟨#[115, 101, 99]⟩ 0 [⟨0, 0, 0, [⟨16, 0, 0, 1⟩]⟩]) ⟨#[99, 108, 105]⟩ 0 [⟨0, 0, 0, [⟨17, 0, 0, 4⟩]⟩]).length = l.length + 3 := (moreP_len _ _ _ _).trans (by omega)
  clear e2
  go_wp2_with (go_at_call 55; refine (flag_std _ _ _ ).mono ?_)
  rintro e w7 ⟨rfl, h7⟩
  have c_x3_w7 := h7
  go_wp2_with (go_at_call 52; refine (quiet_std _ _ _ _ ).mono ?_)
  rintro e w8 ⟨rfl, h8⟩
  have c_x3_w8 := below_step (below_al c_x3_w7 _) h8
  have c_w7_w8 := below_step (below_one _ _) h8
  have s8 := steps_built h8 [⟨16, 0, 0, 4⟩] rfl rfl (Nat.le_of_ble_eq_true rfl)
  go_wp2_with (go_at_call 51; refine (addPlain_std lo g ⟨#[115, 101, 105]⟩ 0 [⟨0, 0, 0, [⟨16, 0, 0, 4⟩]⟩] _ _ _ _ _ (atL_below a3 (below_al c_x3_w8 _)) (Nat.le_trans (Nat.le_trans hlo b3.size) (below_al c_x3_w8 _).size) (by omega) (by simp [okMode]) (own_cycles (w := w8) [(⟨0, 0, 0, [⟨16, 0, 0, 4⟩]⟩, _)] ⟨⟨_, s8⟩, trivial⟩ rfl rfl (Nat.le_of_ble_eq_true rfl))).mono ?_; rintro e x4 ⟨rfl, a4, d4⟩)
  have b4 := b3.trans (((below_al c_x3_w8 _).mono (Nat.le_trans hlo b3.size)).trans d4)
  clear b3 d4
  have e4 : (moreP (moreP (moreP (moreP l ⟨#[99, 108, 99]⟩ 0 [⟨0, 0, 0, [⟨17, 0, 0, 1⟩]⟩]) ⟨#[115, 101, 99]⟩ 0 [⟨0, 0, 0, [⟨16, 0, 0, 1⟩]⟩]) ⟨#[99, 108, 105]⟩ 0 [⟨0, 0, 0, [⟨17, 0, 0, 4⟩]⟩]) ⟨#[115, 101, 105]⟩ 0 [⟨0, 0, 0, [⟨16, 0, 0, 4⟩]⟩]).length = l.length + 4 := (moreP_len _ _ _ _).trans (by omega)
  clear e3
  go_wp2_with (go_at_call 52; refine (quiet_std _ _ _ _ ).mono ?_)
  rintro e w9 ⟨rfl, h9⟩
  have c_x4_w9 := h9
  go_wp2_with (go_at_call 51; refine (addPlain_std lo g ⟨#[110, 111, 112]⟩ 0 [⟨0, 0, 0, []⟩] _ _ _ _ _ (atL_below a4 (below_al c_x4_w9 _)) (Nat.le_trans (Nat.le_trans hlo b4.size) (below_al c_x4_w9 _).size) (by omega) (by simp [okMode]) (own_cycles (w := w9) [(⟨0, 0, 0, []⟩, _)] ⟨⟨_, nil_steps _⟩, trivial⟩ rfl rfl (Nat.le_of_ble_eq_true rfl))).mono ?_; rintro e x5 ⟨rfl, a5, d5⟩)
  have b5 := b4.trans (((below_al c_x4_w9 _).mono (Nat.le_trans hlo b4.size)).trans d5)
  clear b4 d5
  have e5 : (moreP (moreP (moreP (moreP (moreP l ⟨#[99, 108, 99]⟩ 0 [⟨0, 0, 0, [⟨17, 0, 0, 1⟩]⟩]) ⟨#[115, 101, 99]⟩ 0 [⟨0, 0, 0, [⟨16, 0, 0, 1⟩]⟩]) ⟨#[99, 108, 105]⟩ 0 [⟨0, 0, 0, [⟨17, 0, 0, 4⟩]⟩]) ⟨#[115, 101, 105]⟩ 0 [⟨0, 0, 0, [⟨16, 0, 0, 4⟩]⟩]) ⟨#[110, 111, 112]⟩ 0 [⟨0, 0, 0, []⟩]).length = l.length + 5 := (moreP_len _ _ _ _).trans (by omega)
  clear e4
  go_wp2_with fail
  exact bodyPost_end (results_none rfl _ _ _) rfl ⟨rfl, a5, b5⟩
set_option maxHeartbeats 4000000 in
theorem stack_std (lo g : Nat) (w : World) (l : List In) (hL : atL lo g w l) (hlo : lo ≤ w.heap.size) (hlen : l.length + 4 ≤ 200) :
    Calls Tryz.prog 17 #[.pointer (some ⟨g, 0, none⟩)] w fun e w' => e = .returned (.tuple #[]) ∧ atL lo g w' (stackI l) ∧ Below lo w w' := by
  go_enter Tryz.func17, Tryz.ntmps17
  have b0 : Below lo w w := Below.refl _ _
  go_wp2_with (go_at_call 56; refine (write_std _ _ _ _ _ _ ).mono ?_)
  rintro e w1 ⟨rfl, h1⟩
  have c_w_w1 := h1
  go_wp2_with (go_at_call 51; refine (addPlain_std lo g ⟨#[112, 104, 97]⟩ 0 [⟨2, 4, 0, []⟩] _ _ _ _ _ (atL_below hL (below_al c_w_w1 _)) (Nat.le_trans (Nat.le_trans hlo b0.size) (below_al c_w_w1 _).size) (by omega) (by simp [okMode]) (own_cycles (w := w1) [(⟨2, 4, 0, []⟩, _)] ⟨⟨_, nil_steps _⟩, trivial⟩ rfl rfl (Nat.le_of_ble_eq_true rfl))).mono ?_; rintro e x1 ⟨rfl, a1, d1⟩)
  have b1 := b0.trans (((below_al c_w_w1 _).mono (Nat.le_trans hlo b0.size)).trans d1)
  clear b0 d1
  have e1 : (moreP l ⟨#[112, 104, 97]⟩ 0 [⟨2, 4, 0, []⟩]).length = l.length + 1 := (moreP_len _ _ _ _).trans (by omega)
  go_wp2_with (go_at_call 54; refine (on_std _ _ _ ).mono ?_)
  rintro e w2 ⟨rfl, h2⟩
  have c_x1_w2 := h2
  go_wp2_with (go_at_call 57; refine (read_std _ _ _ _ _ _ ).mono ?_)
  rintro e w3 ⟨rfl, h3⟩
  have c_x1_w3 := below_step (below_al c_x1_w2 _) h3
  have c_w2_w3 := below_step (below_one _ _) h3
  have s3 := steps_built h3 [⟨3, 0, 0, 0⟩] rfl rfl (Nat.le_of_ble_eq_true rfl)
  go_wp2_with (go_at_call 51; refine (addPlain_std lo g ⟨#[112, 108, 97]⟩ 0 [⟨1, 5, 0, [⟨3, 0, 0, 0⟩]⟩] _ _ _ _ _ (atL_below a1 (below_al c_x1_w3 _)) (Nat.le_trans (Nat.le_trans hlo b1.size) (below_al c_x1_w3 _).size) (by omega) (by simp [okMode]) (own_cycles (w := w3) [(⟨1, 5, 0, [⟨3, 0, 0, 0⟩]⟩, _)] ⟨⟨_, s3⟩, trivial⟩ rfl rfl (Nat.le_of_ble_eq_true rfl))).mono ?_; rintro e x2 ⟨rfl, a2, d2⟩)
  have b2 := b1.trans (((below_al c_x1_w3 _).mono (Nat.le_trans hlo b1.size)).trans d2)
  clear b1 d2
  have e2 : (moreP (moreP l ⟨#[112, 104, 97]⟩ 0 [⟨2, 4, 0, []⟩]) ⟨#[112, 108, 97]⟩ 0 [⟨1, 5, 0, [⟨3, 0, 0, 0⟩]⟩]).length = l.length + 2 := (moreP_len _ _ _ _).trans (by omega)
  clear e1
  go_wp2_with (go_at_call 56; refine (write_std _ _ _ _ _ _ ).mono ?_)
  rintro e w4 ⟨rfl, h4⟩
  have c_x2_w4 := h4
  go_wp2_with (go_at_call 51; refine (addPlain_std lo g ⟨#[112, 104, 112]⟩ 0 [⟨2, 4, 4, []⟩] _ _ _ _ _ (atL_below a2 (below_al c_x2_w4 _)) (Nat.le_trans (Nat.le_trans hlo b2.size) (below_al c_x2_w4 _).size) (by omega) (by simp [okMode]) (own_cycles (w := w4) [(⟨2, 4, 4, []⟩, _)] ⟨⟨_, nil_steps _⟩, trivial⟩ rfl rfl (Nat.le_of_ble_eq_true rfl))).mono ?_; rintro e x3 ⟨rfl, a3, d3⟩)
  have b3 := b2.trans (((below_al c_x2_w4 _).mono (Nat.le_trans hlo b2.size)).trans d3)
  clear b2 d3
  have e3 : (moreP (moreP (moreP l ⟨#[112, 104, 97]⟩ 0 [⟨2, 4, 0, []⟩]) ⟨#[112, 108, 97]⟩ 0 [⟨1, 5, 0, [⟨3, 0, 0, 0⟩]⟩]) ⟨#[112, 104, 112]⟩ 0 [⟨2, 4, 4, []⟩]).length = l.length + 3 := (moreP_len _ _ _ _).trans (by omega)
  clear e2
  go_wp2_with (go_at_call 57; refine (read_std _ _ _ _ _ _ ).mono ?_)
  rintro e w5 ⟨rfl, h5⟩
  have c_x3_w5 := h5
  go_wp2_with (go_at_call 51; refine (addPlain_std lo g ⟨#[112, 108, 112]⟩ 0 [⟨1, 5, 4, []⟩] _ _ _ _ _ (atL_below a3 (below_al c_x3_w5 _)) (Nat.le_trans (Nat.le_trans hlo b3.size) (below_al c_x3_w5 _).size) (by omega) (by simp [okMode]) (own_cycles (w := w5) [(⟨1, 5, 4, []⟩, _)] ⟨⟨_, nil_steps _⟩, trivial⟩ rfl rfl (Nat.le_of_ble_eq_true rfl))).mono ?_; rintro e x4 ⟨rfl, a4, d4⟩)
  have b4 := b3.trans (((below_al c_x3_w5 _).mono (Nat.le_trans hlo b3.size)).trans d4)
  clear b3 d4
  have e4 : (moreP (moreP (moreP (moreP l ⟨#[112, 104, 97]⟩ 0 [⟨2, 4, 0, []⟩]) ⟨#[112, 108, 97]⟩ 0 [⟨1, 5, 0, [⟨3, 0, 0, 0⟩]⟩]) ⟨#[112, 104, 112]⟩ 0 [⟨2, 4, 4, []⟩]) ⟨#[112, 108, 112]⟩ 0 [⟨1, 5, 4, []⟩]).length = l.length + 4 := (moreP_len _ _ _ _).trans (by omega)
  clear e3
  go_wp2_with fail
  exact bodyPost_end (results_none rfl _ _ _) rfl ⟨rfl, a4, b4⟩
set_option maxHeartbeats 4000000 in
theorem jumps_std (lo g : Nat) (w : World) (l : List In) (hL : atL lo g w l) (hlo : lo ≤ w.heap.size) (hlen : l.length + 4 ≤ 200) :
    Calls Tryz.prog 18 #[.pointer (some ⟨g, 0, none⟩)] w fun e w' => e = .returned (.tuple #[]) ∧ atL lo g w' (jumpsI l) ∧ Below lo w w' := by
  go_enter Tryz.func18, Tryz.ntmps18
  have b0 : Below lo w w := Below.refl _ _
  go_wp2_with (go_at_call 57; refine (read_std _ _ _ _ _ _ ).mono ?_)
  rintro e w1 ⟨rfl, h1⟩
  have c_w_w1 := h1
  go_wp2_with (go_at_call 58; refine (jump_std _ _).mono ?_)
  rintro e w2 ⟨q2, n2, k2, rfl, z2, h2⟩
  have c_w_w2 := below_step c_w_w1 h2
  have c_w1_w2 := h2
  go_wp2_with (go_at_call 57; refine (read_std _ _ _ _ _ _ ).mono ?_)
  rintro e w3 ⟨rfl, h3⟩
  have c_w_w3 := below_step c_w_w2 h3
  have c_w1_w3 := below_step c_w1_w2 h3
  have c_w2_w3 := h3
  go_wp2_with (go_at_call 51; refine (addPlain_std lo g ⟨#[106, 109, 112]⟩ 4 [⟨1, 0, 5, []⟩, ⟨1, 0, 6, jumpS 7⟩] _ _ _ _ _ (atL_below hL (below_al c_w_w3 _)) (Nat.le_trans (Nat.le_trans hlo b0.size) (below_al c_w_w3 _).size) (by omega) (by simp [okMode]) (own_cycles (w := w3) [(⟨1, 0, 5, []⟩, _), (⟨1, 0, 6, jumpS 7⟩, _)] ⟨⟨_, nil_steps _⟩, ⟨_, (stepsO_below z2 c_w2_w3)⟩, trivial⟩ rfl rfl (Nat.le_of_ble_eq_true rfl))).mono ?_; rintro e x1 ⟨rfl, a1, d1⟩)
  have b1 := b0.trans (((below_al c_w_w3 _).mono (Nat.le_trans hlo b0.size)).trans d1)
  clear b0 d1
  have e1 : (moreP l ⟨#[106, 109, 112]⟩ 4 [⟨1, 0, 5, []⟩, ⟨1, 0, 6, jumpS 7⟩]).length = l.length + 1 := (moreP_len _ _ _ _).trans (by omega)
  go_wp2_with (go_at_call 53; refine (with_std _ _ _ _ ).mono ?_)
  rintro e w4 ⟨rfl, h4⟩
  have c_x1_w4 := h4
  go_wp2_with (go_at_call 57; refine (read_std _ _ _ _ _ _ ).mono ?_)
  rintro e w5 ⟨rfl, h5⟩
  have c_x1_w5 := below_step (below_al c_x1_w4 _) h5
  have c_w4_w5 := below_step (below_one _ _) h5
  have s5 := steps_built h5 [⟨18, 8, 5, 0⟩] rfl rfl (Nat.le_of_ble_eq_true rfl)
  go_wp2_with (go_at_call 53; refine (with_std _ _ _ _ ).mono ?_)
  rintro e w6 ⟨rfl, h6⟩
  have c_x1_w6 := below_step c_x1_w5 h6
  have c_w4_w6 := below_step c_w4_w5 h6
  have c_w5_w6 := h6
  go_wp2_with (go_at_call 53; refine (with_std _ _ _ _ ).mono ?_)
  rintro e w7 ⟨rfl, h7⟩
  have c_x1_w7 := below_step c_x1_w6 h7
  have c_w4_w7 := below_step c_w4_w6 h7
  have c_w5_w7 := below_step c_w5_w6 h7
  have c_w6_w7 := h7
  go_wp2_with (go_at_call 57; refine (read_std _ _ _ _ _ _ ).mono ?_)
  rintro e w8 ⟨rfl, h8⟩
  have c_x1_w8 := below_step (below_al c_x1_w7 _) h8
  have c_w4_w8 := below_step (below_al c_w4_w7 _) h8
  have c_w5_w8 := below_step (below_al c_w5_w7 _) h8
  have c_w6_w8 := below_step (below_al c_w6_w7 _) h8
  have c_w7_w8 := below_step (below_one _ _) h8
  have s8 := steps_built h8 [⟨19, 8, 5, 0⟩, ⟨21, 5, 7, 0⟩] rfl rfl (Nat.le_of_ble_eq_true rfl)
  go_wp2_with (go_at_call 53; refine (with_std _ _ _ _ ).mono ?_)
  rintro e w9 ⟨rfl, h9⟩
  have c_x1_w9 := below_step c_x1_w8 h9
  have c_w4_w9 := below_step c_w4_w8 h9
  have c_w5_w9 := below_step c_w5_w8 h9
  have c_w6_w9 := below_step c_w6_w8 h9
  have c_w7_w9 := below_step c_w7_w8 h9
  have c_w8_w9 := h9
  go_wp2_with (go_at_call 56; refine (write_std _ _ _ _ _ _ ).mono ?_)
  rintro e w10 ⟨rfl, h10⟩
  have c_x1_w10 := below_step (below_al c_x1_w9 _) h10
  have c_w4_w10 := below_step (below_al c_w4_w9 _) h10
  have c_w5_w10 := below_step (below_al c_w5_w9 _) h10
  have c_w6_w10 := below_step (below_al c_w6_w9 _) h10
  have c_w7_w10 := below_step (below_al c_w7_w9 _) h10
  have c_w8_w10 := below_step (below_al c_w8_w9 _) h10
  have c_w9_w10 := below_step (below_one _ _) h10
  have s10 := steps_built h10 [⟨20, 5, 7, 0⟩] rfl rfl (Nat.le_of_ble_eq_true rfl)
  go_wp2_with (go_at_call 53; refine (with_std _ _ _ _ ).mono ?_)
  rintro e w11 ⟨rfl, h11⟩
  have c_x1_w11 := below_step c_x1_w10 h11
  have c_w4_w11 := below_step c_w4_w10 h11
  have c_w5_w11 := below_step c_w5_w10 h11
  have c_w6_w11 := below_step c_w6_w10 h11
  have c_w7_w11 := below_step c_w7_w10 h11
  have c_w8_w11 := below_step c_w8_w10 h11
  have c_w9_w11 := below_step c_w9_w10 h11
  have c_w10_w11 := h11
  go_wp2_with (go_at_call 56; refine (write_std _ _ _ _ _ _ ).mono ?_)
  rintro e w12 ⟨rfl, h12⟩
  have c_x1_w12 := below_step (below_al c_x1_w11 _) h12
  have c_w4_w12 := below_step (below_al c_w4_w11 _) h12
  have c_w5_w12 := below_step (below_al c_w5_w11 _) h12
  have c_w6_w12 := below_step (below_al c_w6_w11 _) h12
  have c_w7_w12 := below_step (below_al c_w7_w11 _) h12
  have c_w8_w12 := below_step (below_al c_w8_w11 _) h12
  have c_w9_w12 := below_step (below_al c_w9_w11 _) h12
  have c_w10_w12 := below_step (below_al c_w10_w11 _) h12
  have c_w11_w12 := below_step (below_one _ _) h12
  have s12 := steps_built h12 [⟨1, 7, 8, 0⟩] rfl rfl (Nat.le_of_ble_eq_true rfl)
  go_wp2_with (go_at_call 51; refine (addPlain_std lo g ⟨#[106, 115, 114]⟩ 4 [⟨1, 0, 5, [⟨18, 8, 5, 0⟩]⟩, ⟨1, 0, 5, [⟨19, 8, 5, 0⟩, ⟨21, 5, 7, 0⟩]⟩, ⟨2, 4, 5, [⟨20, 5, 7, 0⟩]⟩, ⟨2, 4, 5, [⟨1, 7, 8, 0⟩]⟩] _ _ _ _ _ (atL_below a1 (below_al c_x1_w12 _)) (Nat.le_trans (Nat.le_trans hlo b1.size) (below_al c_x1_w12 _).size) (by omega) (by simp [okMode]) (own_cycles (w := w12) [(⟨1, 0, 5, [⟨18, 8, 5, 0⟩]⟩, _), (⟨1, 0, 5, [⟨19, 8, 5, 0⟩, ⟨21, 5, 7, 0⟩]⟩, _), (⟨2, 4, 5, [⟨20, 5, 7, 0⟩]⟩, _), (⟨2, 4, 5, [⟨1, 7, 8, 0⟩]⟩, _)] ⟨⟨_, (stepsO_below s5 c_w5_w12)⟩, ⟨_, (stepsO_below s8 c_w8_w12)⟩, ⟨_, (stepsO_below s10 c_w10_w12)⟩, ⟨_, s12⟩, trivial⟩ rfl rfl (Nat.le_of_ble_eq_true rfl))).mono ?_; rintro e x2 ⟨rfl, a2, d2⟩)
  have b2 := b1.trans (((below_al c_x1_w12 _).mono (Nat.le_trans hlo b1.size)).trans d2)
  clear b1 d2
  have e2 : (moreP (moreP l ⟨#[106, 109, 112]⟩ 4 [⟨1, 0, 5, []⟩, ⟨1, 0, 6, jumpS 7⟩]) ⟨#[106, 115, 114]⟩ 4 [⟨1, 0, 5, [⟨18, 8, 5, 0⟩]⟩, ⟨1, 0, 5, [⟨19, 8, 5, 0⟩, ⟨21, 5, 7, 0⟩]⟩, ⟨2, 4, 5, [⟨20, 5, 7, 0⟩]⟩, ⟨2, 4, 5, [⟨1, 7, 8, 0⟩]⟩]).length = l.length + 2 := (moreP_len _ _ _ _).trans (by omega)
  clear e1
  go_wp2_with (go_at_call 57; refine (read_std _ _ _ _ _ _ ).mono ?_)
  rintro e w13 ⟨rfl, h13⟩
  have c_x2_w13 := h13
  go_wp2_with (go_at_call 58; refine (jump_std _ _).mono ?_)
  rintro e w14 ⟨q14, n14, k14, rfl, z14, h14⟩
  have c_x2_w14 := below_step c_x2_w13 h14
  have c_w13_w14 := h14
  go_wp2_with (go_at_call 57; refine (read_std _ _ _ _ _ _ ).mono ?_)
  rintro e w15 ⟨rfl, h15⟩
  have c_x2_w15 := below_step c_x2_w14 h15
  have c_w13_w15 := below_step c_w13_w14 h15
  have c_w14_w15 := h15
  go_wp2_with (go_at_call 51; refine (addPlain_std lo g ⟨#[114, 116, 115]⟩ 0 [⟨1, 5, 5, []⟩, ⟨1, 5, 6, jumpS 7⟩] _ _ _ _ _ (atL_below a2 (below_al c_x2_w15 _)) (Nat.le_trans (Nat.le_trans hlo b2.size) (below_al c_x2_w15 _).size) (by omega) (by simp [okMode]) (own_cycles (w := w15) [(⟨1, 5, 5, []⟩, _), (⟨1, 5, 6, jumpS 7⟩, _)] ⟨⟨_, nil_steps _⟩, ⟨_, (stepsO_below z14 c_w14_w15)⟩, trivial⟩ rfl rfl (Nat.le_of_ble_eq_true rfl))).mono ?_; rintro e x3 ⟨rfl, a3, d3⟩)
  have b3 := b2.trans (((below_al c_x2_w15 _).mono (Nat.le_trans hlo b2.size)).trans d3)
  clear b2 d3
  have e3 : (moreP (moreP (moreP l ⟨#[106, 109, 112]⟩ 4 [⟨1, 0, 5, []⟩, ⟨1, 0, 6, jumpS 7⟩]) ⟨#[106, 115, 114]⟩ 4 [⟨1, 0, 5, [⟨18, 8, 5, 0⟩]⟩, ⟨1, 0, 5, [⟨19, 8, 5, 0⟩, ⟨21, 5, 7, 0⟩]⟩, ⟨2, 4, 5, [⟨20, 5, 7, 0⟩]⟩, ⟨2, 4, 5, [⟨1, 7, 8, 0⟩]⟩]) ⟨#[114, 116, 115]⟩ 0 [⟨1, 5, 5, []⟩, ⟨1, 5, 6, jumpS 7⟩]).length = l.length + 3 := (moreP_len _ _ _ _).trans (by omega)
  clear e2
  go_wp2_with (go_at_call 57; refine (read_std _ _ _ _ _ _ ).mono ?_)
  rintro e w16 ⟨rfl, h16⟩
  have c_x3_w16 := h16
  go_wp2_with (go_at_call 57; refine (read_std _ _ _ _ _ _ ).mono ?_)
  rintro e w17 ⟨rfl, h17⟩
  have c_x3_w17 := below_step c_x3_w16 h17
  have c_w16_w17 := h17
  go_wp2_with (go_at_call 58; refine (jump_std _ _).mono ?_)
  rintro e w18 ⟨q18, n18, k18, rfl, z18, h18⟩
  have c_x3_w18 := below_step c_x3_w17 h18
  have c_w16_w18 := below_step c_w16_w17 h18
  have c_w17_w18 := h18
  go_wp2_with (go_at_call 57; refine (read_std _ _ _ _ _ _ ).mono ?_)
  rintro e w19 ⟨rfl, h19⟩
  have c_x3_w19 := below_step c_x3_w18 h19
  have c_w16_w19 := below_step c_w16_w18 h19
  have c_w17_w19 := below_step c_w17_w18 h19
  have c_w18_w19 := h19
  go_wp2_with (go_at_call 51; refine (addPlain_std lo g ⟨#[114, 116, 105]⟩ 0 [⟨1, 5, 4, []⟩, ⟨1, 5, 5, []⟩, ⟨1, 5, 6, jumpS 7⟩] _ _ _ _ _ (atL_below a3 (below_al c_x3_w19 _)) (Nat.le_trans (Nat.le_trans hlo b3.size) (below_al c_x3_w19 _).size) (by omega) (by simp [okMode]) (own_cycles (w := w19) [(⟨1, 5, 4, []⟩, _), (⟨1, 5, 5, []⟩, _), (⟨1, 5, 6, jumpS 7⟩, _)] ⟨⟨_, nil_steps _⟩, ⟨_, nil_steps _⟩, ⟨_, (stepsO_below z18 c_w18_w19)⟩, trivial⟩ rfl rfl (Nat.le_of_ble_eq_true rfl))).mono ?_; rintro e x4 ⟨rfl, a4, d4⟩)
  have b4 := b3.trans (((below_al c_x3_w19 _).mono (Nat.le_trans hlo b3.size)).trans d4)
  clear b3 d4
  have e4 : (moreP (moreP (moreP (moreP l ⟨#[106, 109, 112]⟩ 4 [⟨1, 0, 5, []⟩, ⟨1, 0, 6, jumpS 7⟩]) ⟨#[106, 115, 114]⟩ 4 [⟨1, 0, 5, [⟨18, 8, 5, 0⟩]⟩, ⟨1, 0, 5, [⟨19, 8, 5, 0⟩, ⟨21, 5, 7, 0⟩]⟩, ⟨2, 4, 5, [⟨20, 5, 7, 0⟩]⟩, ⟨2, 4, 5, [⟨1, 7, 8, 0⟩]⟩]) ⟨#[114, 116, 115]⟩ 0 [⟨1, 5, 5, []⟩, ⟨1, 5, 6, jumpS 7⟩]) ⟨#[114, 116, 105]⟩ 0 [⟨1, 5, 4, []⟩, ⟨1, 5, 5, []⟩, ⟨1, 5, 6, jumpS 7⟩]).length = l.length + 4 := (moreP_len _ _ _ _).trans (by omega)
  clear e3
  go_wp2_with fail
  exact bodyPost_end (results_none rfl _ _ _) rfl ⟨rfl, a4, b4⟩
set_option maxHeartbeats 4000000 in
theorem branch_std (lo g : Nat) (name : ByteArray) (v f : Int) (w : World) (l : List In) (hL : atL lo g w l) (hlo : lo ≤ w.heap.size) (hlen : l.length + 1 ≤ 200) :
    Calls Tryz.prog 59 #[.pointer (some ⟨g, 0, none⟩), .string name, .int .i64 v, .int .i64 f] w fun e w' => e = .returned (.tuple #[]) ∧ atL lo g w' (branchI l name v f) ∧ Below lo w w' := by
  go_enter Tryz.func59, Tryz.ntmps59
  have b0 : Below lo w w := Below.refl _ _
  go_wp2_with (go_at_call 57; refine (read_std _ _ _ _ _ _ ).mono ?_)
  rintro e w1 ⟨rfl, h1⟩
  have c_w_w1 := below_step (below_one _ _) h1
  have s1 := steps_built h1 [⟨24, 0, v, f⟩] rfl rfl (Nat.le_of_ble_eq_true rfl)
  go_wp2_with (go_at_call 53; refine (with_std _ _ _ _ ).mono ?_)
  rintro e w2 ⟨rfl, h2⟩
  have c_w_w2 := below_step c_w_w1 h2
  have c_w1_w2 := h2
  go_wp2_with (go_at_call 52; refine (quiet_std _ _ _ _ ).mono ?_)
  rintro e w3 ⟨rfl, h3⟩
  have c_w_w3 := below_step (below_al c_w_w2 _) h3
  have c_w1_w3 := below_step (below_al c_w1_w2 _) h3
  have c_w2_w3 := below_step (below_one _ _) h3
  have s3 := steps_built h3 [⟨23, 7, 5, 0⟩] rfl rfl (Nat.le_of_ble_eq_true rfl)
  go_wp2_with (go_at_call 51; refine (addPlain_std lo g name 7 [⟨1, 0, 5, [⟨24, 0, v, f⟩]⟩, ⟨0, 0, 0, [⟨23, 7, 5, 0⟩]⟩] _ _ _ _ _ (atL_below hL (below_al c_w_w3 _)) (Nat.le_trans (Nat.le_trans hlo b0.size) (below_al c_w_w3 _).size) (by omega) (by simp [okMode]) (own_cycles (w := w3) [(⟨1, 0, 5, [⟨24, 0, v, f⟩]⟩, _), (⟨0, 0, 0, [⟨23, 7, 5, 0⟩]⟩, _)] ⟨⟨_, (stepsO_below s1 c_w1_w3)⟩, ⟨_, s3⟩, trivial⟩ rfl rfl (Nat.le_of_ble_eq_true rfl))).mono ?_; rintro e x1 ⟨rfl, a1, d1⟩)
  have b1 := b0.trans (((below_al c_w_w3 _).mono (Nat.le_trans hlo b0.size)).trans d1)
  clear b0 d1
  have e1 : (moreP l name 7 [⟨1, 0, 5, [⟨24, 0, v, f⟩]⟩, ⟨0, 0, 0, [⟨23, 7, 5, 0⟩]⟩]).length = l.length + 1 := (moreP_len _ _ _ _).trans (by omega)
  go_wp2_with fail
  exact bodyPost_end (results_none rfl _ _ _) rfl ⟨rfl, a1, b1⟩
set_option maxHeartbeats 4000000 in
theorem branches_std (lo g : Nat) (w : World) (l : List In) (hL : atL lo g w l) (hlo : lo ≤ w.heap.size) (hlen : l.length + 6 ≤ 200) :
    Calls Tryz.prog 19 #[.pointer (some ⟨g, 0, none⟩)] w fun e w' => e = .returned (.tuple #[]) ∧ atL lo g w' (branchesI l) ∧ Below lo w w' := by
  go_enter Tryz.func19, Tryz.ntmps19
  have b0 : Below lo w w := Below.refl _ _
  go_wp2_with (go_at_call 59; refine (branch_std lo g ⟨#[98, 101, 113]⟩ 1 2 w _ hL (Nat.le_trans hlo b0.size) (by omega)).mono ?_)
  rintro e x1 ⟨rfl, a1, d1⟩
  have b1 := b0.trans d1
  clear b0 d1
  have e1 : (branchI l ⟨#[98, 101, 113]⟩ 1 2).length = l.length + 1 := (moreP_len _ _ _ _).trans (by omega)
  go_wp2_with (go_at_call 59; refine (branch_std lo g ⟨#[98, 110, 101]⟩ 0 2 x1 _ a1 (Nat.le_trans hlo b1.size) (by omega)).mono ?_)
  rintro e x2 ⟨rfl, a2, d2⟩
  have b2 := b1.trans d2
  clear b1 d2
  have e2 : (branchI (branchI l ⟨#[98, 101, 113]⟩ 1 2) ⟨#[98, 110, 101]⟩ 0 2).length = l.length + 2 := (moreP_len _ _ _ _).trans (by omega)
  clear e1
  go_wp2_with (go_at_call 59; refine (branch_std lo g ⟨#[98, 99, 115]⟩ 1 1 x2 _ a2 (Nat.le_trans hlo b2.size) (by omega)).mono ?_)
  rintro e x3 ⟨rfl, a3, d3⟩
  have b3 := b2.trans d3
  clear b2 d3
  have e3 : (branchI (branchI (branchI l ⟨#[98, 101, 113]⟩ 1 2) ⟨#[98, 110, 101]⟩ 0 2) ⟨#[98, 99, 115]⟩ 1 1).length = l.length + 3 := (moreP_len _ _ _ _).trans (by omega)
  clear e2
  go_wp2_with (go_at_call 59; refine (branch_std lo g ⟨#[98, 99, 99]⟩ 0 1 x3 _ a3 (Nat.le_trans hlo b3.size) (by omega)).mono ?_)
  rintro e x4 ⟨rfl, a4, d4⟩
  have b4 := b3.trans d4
  clear b3 d4
  have e4 : (branchI (branchI (branchI (branchI l ⟨#[98, 101, 113]⟩ 1 2) ⟨#[98, 110, 101]⟩ 0 2) ⟨#[98, 99, 115]⟩ 1 1) ⟨#[98, 99, 99]⟩ 0 1).length = l.length + 4 := (moreP_len _ _ _ _).trans (by omega)
  clear e3
  go_wp2_with (go_at_call 59; refine (branch_std lo g ⟨#[98, 109, 105]⟩ 1 128 x4 _ a4 (Nat.le_trans hlo b4.size) (by omega)).mono ?_)
  rintro e x5 ⟨rfl, a5, d5⟩
  have b5 := b4.trans d5
  clear b4 d5
  have e5 : (branchI (branchI (branchI (branchI (branchI l ⟨#[98, 101, 113]⟩ 1 2) ⟨#[98, 110, 101]⟩ 0 2) ⟨#[98, 99, 115]⟩ 1 1) ⟨#[98, 99, 99]⟩ 0 1) ⟨#[98, 109, 105]⟩ 1 128).length = l.length + 5 := (moreP_len _ _ _ _).trans (by omega)
  clear e4
  go_wp2_with (go_at_call 59; refine (branch_std lo g ⟨#[98, 112, 108]⟩ 0 128 x5 _ a5 (Nat.le_trans hlo b5.size) (by omega)).mono ?_)
  rintro e x6 ⟨rfl, a6, d6⟩
  have b6 := b5.trans d6
  clear b5 d6
  have e6 : (branchI (branchI (branchI (branchI (branchI (branchI l ⟨#[98, 101, 113]⟩ 1 2) ⟨#[98, 110, 101]⟩ 0 2) ⟨#[98, 99, 115]⟩ 1 1) ⟨#[98, 99, 99]⟩ 0 1) ⟨#[98, 109, 105]⟩ 1 128) ⟨#[98, 112, 108]⟩ 0 128).length = l.length + 6 := (moreP_len _ _ _ _).trans (by omega)
  clear e5
  go_wp2_with fail
  exact bodyPost_end (results_none rfl _ _ _) rfl ⟨rfl, a6, b6⟩
end Go.Proofs.YtbgjnegojoaimaaGreatDoor
namespace Go.Proofs.YtbgjnegojoaimaaGreatDoor
open Go.RowKit
set_option maxRecDepth 100000

theorem agCpu : isAg Tryz.prog 25 5 := ⟨⟨_, Tryz.underlying25, rfl⟩, by kernel_rfl⟩
/-- The processor's cells at its slices. -/
def cpuCells (a0 : Option Addr) (n0 c0 : Nat) (a1 : Option Addr) (n1 c1 : Nat) (a2 : Option Addr) (n2 c2 : Nat) (a3 : Option Addr) (n3 c3 : Nat) : Array Value := #[.string ⟨#[115, 116, 100]⟩, .slice a0 n0 c0, .slice a1 n1 c1, .slice a2 n2 c2, .slice a3 n3 c3]
theorem cpuCells_one (a0 : Option Addr) (n0 c0 : Nat) (a1 : Option Addr) (n1 c1 : Nat) (a2 : Option Addr) (n2 c2 : Nat) (a3 : Option Addr) (n3 c3 : Nat) : (cpuCells a0 n0 c0 a1 n1 c1 a2 n2 c2 a3 n3 c3).all (·.oneCell') = true := by simp [cpuCells, Value.oneCell']
theorem safe_row {T : TypeId → Prop} {w : World} {b : Nat} {c : Array Value} {e : TypeId} {fz : Nat × Nat} (h : w.heap[b]? = some (.cells c e fz)) (hT : ¬ T e) (cs : Array Value) : Safe T w (w.setRow b cs) :=
  safe_grown (r := some b) ⟨rfl, rfl, rfl, by simp [World.setRow], fun k _ hk => by
    simp only [World.setRow, Array.getElem?_modify]
    rw [if_neg (fun e => hk (by rw [e]))]⟩ fun g c' e' fz' hg h' hT' => by
    cases hg
    rw [h] at h'
    cases h'
    exact hT hT'
set_option maxHeartbeats 4000000 in
theorem cpu_std (w : World) : Calls Tryz.prog 4 #[] w fun e w' => ∃ a0 n0 c0 a1 n1 c1 a2 n2 c2 a3 n3 c3, e = .returned (.agg (cpuCells a0 n0 c0 a1 n1 c1 a2 n2 c2 a3 n3 c3)) ∧
    instrsO w.heap.size w' (.slice a0 n0 c0) stdI ∧ cyclesO w.heap.size w' (.slice a1 n1 c1) resetC ∧ cyclesO w.heap.size w' (.slice a2 n2 c2) (interruptC 6 7) ∧ cyclesO w.heap.size w' (.slice a3 n3 c3) (interruptC 8 9) ∧ Below w.heap.size w w' := by
  have b0 := below_al (below_one w (.cells #[.string ⟨#[]⟩, .slice none 0 0, .slice none 0 0, .slice none 0 0, .slice none 0 0] 25)) (.cells #[.slice none 0 0] 37)
  have r0 := rowB_alloc (rowB_new w 25 #[.string ⟨#[]⟩, .slice none 0 0, .slice none 0 0, .slice none 0 0, .slice none 0 0]) (.cells #[.slice none 0 0] 37)
  have l0 := rowB_new (w.alloc (.cells #[.string ⟨#[]⟩, .slice none 0 0, .slice none 0 0, .slice none 0 0, .slice none 0 0] 25)) 37 #[.slice none 0 0]
  rw [World.size_alloc] at l0
  have a0 : atL (w.heap.size + 1) (w.heap.size + 1) _ [] := ⟨Nat.le_refl _, none, 0, 0, l0, ownArr_nil _ _ _ _ _⟩
  have k0 : w.heap.size + 1 ≤ ((w.alloc (.cells #[.string ⟨#[]⟩, .slice none 0 0, .slice none 0 0, .slice none 0 0, .slice none 0 0] 25)).alloc (.cells #[.slice none 0 0] 37)).heap.size := by simp
  go_enter Tryz.func4, Tryz.ntmps4
  go_upto_region 2 with (fail)
  generalize (w.alloc (.cells #[.string ⟨#[]⟩, .slice none 0 0, .slice none 0 0, .slice none 0 0, .slice none 0 0] 25)).alloc (.cells #[.slice none 0 0] 37) = x0 at *
  have d0 : Below (w.heap.size + 1) x0 x0 := Below.refl _ _
  go_wp2_with (go_at_call 11; refine (loads_std _ _ x0 [] a0 (Nat.le_trans k0 d0.size) (by decide)).mono ?_)
  rintro e x1 ⟨rfl, a1, e1⟩
  have d1 := d0.trans e1
  clear e1 a0 d0
  go_wp2_with (go_at_call 12; refine (stores_std _ _ x1 (loadsI []) a1 (Nat.le_trans k0 d1.size) (by decide)).mono ?_)
  rintro e x2 ⟨rfl, a2, e2⟩
  have d2 := d1.trans e2
  clear e2 a1 d1
  go_wp2_with (go_at_call 13; refine (sums_std _ _ x2 (storesI (loadsI [])) a2 (Nat.le_trans k0 d2.size) (by decide)).mono ?_)
  rintro e x3 ⟨rfl, a3, e3⟩
  have d3 := d2.trans e3
  clear e3 a2 d2
  go_wp2_with (go_at_call 14; refine (changes_std _ _ x3 (sumsI (storesI (loadsI []))) a3 (Nat.le_trans k0 d3.size) (by decide)).mono ?_)
  rintro e x4 ⟨rfl, a4, e4⟩
  have d4 := d3.trans e4
  clear e4 a3 d3
  go_wp2_with (go_at_call 15; refine (moves_std _ _ x4 (changesI (sumsI (storesI (loadsI [])))) a4 (Nat.le_trans k0 d4.size) (by decide)).mono ?_)
  rintro e x5 ⟨rfl, a5, e5⟩
  have d5 := d4.trans e5
  clear e5 a4 d4
  go_wp2_with (go_at_call 16; refine (flags_std _ _ x5 (movesI (changesI (sumsI (storesI (loadsI []))))) a5 (Nat.le_trans k0 d5.size) (by decide)).mono ?_)
  rintro e x6 ⟨rfl, a6, e6⟩
  have d6 := d5.trans e6
  clear e6 a5 d5
  go_wp2_with (go_at_call 17; refine (stack_std _ _ x6 (flagsI (movesI (changesI (sumsI (storesI (loadsI [])))))) a6 (Nat.le_trans k0 d6.size) (by decide)).mono ?_)
  rintro e x7 ⟨rfl, a7, e7⟩
  have d7 := d6.trans e7
  clear e7 a6 d6
  go_wp2_with (go_at_call 18; refine (jumps_std _ _ x7 (stackI (flagsI (movesI (changesI (sumsI (storesI (loadsI []))))))) a7 (Nat.le_trans k0 d7.size) (by decide)).mono ?_)
  rintro e x8 ⟨rfl, a8, e8⟩
  have d8 := d7.trans e8
  clear e8 a7 d7
  go_wp2_with (go_at_call 19; refine (branches_std _ _ x8 (jumpsI (stackI (flagsI (movesI (changesI (sumsI (storesI (loadsI [])))))))) a8 (Nat.le_trans k0 d8.size) (by decide)).mono ?_)
  rintro e x9 ⟨rfl, a9, e9⟩
  have d9 := d8.trans e9
  clear e9 a8 d8
  have bw : Below w.heap.size w x9 := b0.trans (d9.mono (by omega))
  have r9 := rowB_below r0 d9 (by omega)
  have k9 := Nat.le_trans k0 d9.size
  obtain ⟨hg, p, n, c, hrow, hown⟩ := a9
  clear b0 r0 l0 k0 d9 hg x0
  go_upto_region 11 with (fail)
  refine wp_region_mix (fun w' => w'.cell? ⟨w.heap.size + 1, 0, none⟩ = some (.slice p n c)) [(0, 1), (1, 3), (2, 3), (3, 3), (4, 2), (5, 2)] (by kernel_rfl) (by kernel_rfl) (fun _ _ _ _ _ h => h) ?_
  simp only [List.map_cons, List.map_nil, opOf, List.getD_cons_zero, List.getD_cons_succ]
  change wpMix _ _ _ _ _ _ x9.drew
  have bw' : Below w.heap.size w x9.drew := bw.drew
  have r9' : rowB x9.drew w.heap.size 25 #[.string ⟨#[]⟩, .slice none 0 0, .slice none 0 0, .slice none 0 0, .slice none 0 0] := r9
  have hrow' : rowB x9.drew (w.heap.size + 1) 37 #[.slice p n c] := hrow
  have hown' := instrsO_below hown (Below.refl _ _).drew
  have k9' : w.heap.size + 1 ≤ x9.drew.heap.size := k9
  clear bw r9 hrow hown k9
  generalize x9.drew = v at *
  refine wpMix_held (.slice p n c) rfl (cell0 hrow') (fun w' hw' => by go_simp) ?_
  simp only [Act.put, List.setIfInBounds_toArray, List.set_cons_zero, List.set_cons_succ]
  refine wpMix_call ?_
  go_wp2_with (go_at_call 20; refine (reset_std _).mono ?_; rintro e y1 ⟨p1, n1, c1, rfl, z1, h1⟩)
  have hrow1 := cell_below hrow' h1
  refine ⟨fun _ => cell0 hrow1, ?_⟩
  have q1 : Below v.heap.size v y1 := h1
  refine wpMix_call ?_
  go_wp2_with (go_at_call 21; refine (interrupt_std _ _ _).mono ?_; rintro e y2 ⟨p2, n2, c2, rfl, z2, h2⟩)
  have hrow2 := cell_below hrow1 h2
  first | refine ⟨fun _ => cell0 hrow2, ?_⟩ | refine ⟨cell0 hrow2, ?_⟩
  have q2 := below_step q1 h2
  refine wpMix_call ?_
  go_wp2_with (go_at_call 21; refine (interrupt_std _ _ _).mono ?_; rintro e y3 ⟨p3, n3, c3, rfl, z3, h3⟩)
  have hrow3 := cell_below hrow2 h3
  first | refine ⟨fun _ => cell0 hrow3, ?_⟩ | refine ⟨cell0 hrow3, ?_⟩
  have q3 := below_step q2 h3
  have o3 := instrsO_below hown' q3
  have s1 := cyclesO_below (cyclesO_below z1 h2) h3
  have s2 := cyclesO_below z2 h3
  have u3 := bw'.trans (q3.mono bw'.size)
  have r3 := rowB_below r9' q3 (by omega)
  have m1 : w.heap.size ≤ v.heap.size := bw'.size
  have m2 : w.heap.size ≤ y1.heap.size := Nat.le_trans m1 q1.size
  have m3 : w.heap.size ≤ y2.heap.size := Nat.le_trans m1 q2.size
  clear z1 z2 hown' h1 h2 h3 q1 q2 q3 hrow' hrow1 hrow2 hrow3 r9' k9'
  refine wpMix_call ?_
  go_wp2_with fail
  try refine ⟨fun h => (by cases h), ?_⟩
  refine wpMix_call ?_
  go_wp2_with (refine wpList_storeR rfl 25 _ _ rfl (w.heap.size) rfl (cpuCells p n c p1 n1 c1 p2 n2 c2 p3 n3 c3) rfl (cpuCells_one _ _ _ _ _ _ _ _ _ _ _ _) 25 #[.string ⟨#[]⟩, .slice none 0 0, .slice none 0 0, .slice none 0 0, .slice none 0 0] rfl ?_ agCpu ?_; with_reducible exact r3)
  try refine ⟨fun h => (by cases h), ?_⟩
  refine wpMix_nil ?_
  go_wp2_with fail
  have v3 := safe_row (T := fun e => e ≠ 25) r3 (by simp) (cpuCells p n c p1 n1 c1 p2 n2 c2 p3 n3 c3)
  refine bodyPost_ret (resultsR rfl w.heap.size _ rfl (rowB_row r3 _) agCpu) rfl ⟨p, n, c, p1, n1, c1, p2, n2, c2, p3, n3, c3, rfl, ?_, ?_, ?_, ?_, below_rowR u3 _ (Nat.le_refl _)⟩
  · exact ownArr_mono (instrsO_safe o3 v3 ⟨by decide, by decide, by decide⟩) (by omega)
  · exact cyclesO_mono (cyclesO_safe s1 v3 ⟨by decide, by decide⟩) m1
  · exact cyclesO_mono (cyclesO_safe s2 v3 ⟨by decide, by decide⟩) m2
  · exact cyclesO_mono (cyclesO_safe z3 v3 ⟨by decide, by decide⟩) m3

theorem std_good : ∀ x ∈ stdC.instrs, goodIn x := by
  have h : stdC.instrs.all (fun x => decide (x.name.size = 3) && decide (0 ≤ x.mode) && decide (x.mode ≤ 8)) = true := by decide +kernel
  intro x hx
  have := List.all_eq_true.1 h x hx
  simp only [Bool.and_eq_true, decide_eq_true_eq] at this
  refine ⟨by omega, ?_⟩
  exact WalkArith.wf_i64 (by omega)
theorem instrs_isArr {lo : Nat} {w : World} {v : Value} {l : List In} (h : instrsO lo w v l) (hg : ∀ x ∈ l, goodIn x) : isArr 4 insR w v l := by
  rcases ownArr_isArr h with h | ⟨b, off, cap, rfl, h1, h2, h3, h4⟩
  · exact .inl h
  · refine .inr ⟨b, off, cap, rfl, h1, h2, h3, fun i x hx => ?_⟩
    obtain ⟨cs, c1, c2, u, rfl, c3⟩ := h4 i x hx
    exact ⟨_, c1, c2, u, rfl, cycles_isArr (lo := 0) c3, hg x (List.mem_of_getElem? hx)⟩
/-- As the laws ask it. -/
theorem cpu_arg {lo : Nat} {w : World} {v0 v1 v2 v3 : Value} (h0 : instrsO lo w v0 stdI) (h1 : cyclesO lo w v1 resetC) (h2 : cyclesO lo w v2 (interruptC 6 7)) (h3 : cyclesO lo w v3 (interruptC 8 9)) : cpuArg w v0 v1 v2 v3 stdC :=
  ⟨instrs_isArr h0 std_good, cycles_isArr h1, cycles_isArr h2, cycles_isArr h3, by decide⟩
end Go.Proofs.YtbgjnegojoaimaaGreatDoor
