/- The contracts of package std's add and addPlain: instructions are appended to what a variable holds. -/
import Derived.Test.YtdiajkgebicnnaaChecked
import Derived.Test.YtdiajkgebicnnaaStdFuncs
import Derived.Below
import Derived.BigQuiet
import Derived.ChangeMaps5
import Derived.Deep.DeepAppendWide
import Derived.Deep.DeepCutAuto
import Derived.Deep.Draws
import Derived.Deep.MidRow
import Derived.Deep.OwnRows
import Derived.Deep.QuietTactic
import Derived.Deep.RegionWith
import Derived.Deep.Slices
import Derived.Deep.WholeRow
import Derived.Laws.OwnMore
import Derived.Lib.Hide
import Derived.Lib.SmallJoins
import Derived.OpenShut
import Derived.OrdersHeld
import Derived.OwnWalk
import Derived.RowKit3
import Derived.Shelf.Abstract
import Derived.StillTactics
import Derived.StillTail
import Derived.WalkKit
namespace Go.Proofs.Ytdiajkgebicnnaa
open Go.RowKit
set_option maxRecDepth 100000

/-- What stays while instructions are added. -/
def staysK (e : TypeId) : Prop := e ≠ 78 ∧ e ≠ 124
/-- The variable in block g holds the instructions l. -/
def atL (lo g : Nat) (w : World) (l : List In) : Prop := lo ≤ g ∧ ∃ a n c, rowB w g 124 #[.slice a n c] ∧ instrsO lo w (.slice a n c) l
/-- A closure that makes cycles for a mode. -/
def makesC (fn : Nat) (caps : Array Value) (F : Int → List Cy) (w0 : World) : Prop :=
  ∀ w, Safe staysK w0 w → ∀ m, okMode m → Calls Try.prog fn (#[.int .i64 m] ++ caps) w fun e w' => ∃ a n c, e = .returned (.slice a n c) ∧ cyclesO 0 w' (.slice a n c) (F m) ∧ Below w.heap.size w w'
theorem infoIn : ∃ i, Try.prog.info? 78 = some i ∧ i.zero = some (.agg #[.int .i64 0, .string ⟨#[]⟩, .int .i64 0, .slice none 0 0]) ∧ i.size = 4 ∧ i.bytes = 56 := by
  have h : (Try.prog.info? 78).map (fun i => (i.zero, i.size, i.bytes)) = some (some (.agg #[.int .i64 0, .string ⟨#[]⟩, .int .i64 0, .slice none 0 0]), 4, 56) := by kernel_rfl
  cases hh : Try.prog.info? 78 with
  | none => rw [hh] at h; cases h
  | some i => rw [hh] at h; simp only [Option.map_some, Option.some.injEq, Prod.mk.injEq] at h; exact ⟨i, rfl, h⟩
theorem own_instr {w : World} {cells : Array Value} (x : In) (v : Value) {lo : Nat} (h : cyclesO lo w v x.cycles) (hc : cells.toList = [.int .i64 x.op, .string x.name, .int .i64 x.mode, v]) : instrsO w.heap.size (w.alloc (.cells cells 78)) (.slice (some ⟨w.heap.size, 0, none⟩) 1 1) [x] :=
  ownArr_imp (own_lit (R := insQ w) [[.int .i64 x.op, .string x.name, .int .i64 x.mode, v]] [x] ⟨rfl, ⟨v, rfl, cyclesO_mono h (Nat.zero_le _)⟩, trivial⟩ rfl cells hc 1 rfl (by decide) w (Nat.le_refl _) _ _ rfl) fun _ _ q => insQ_safe (T := fun _ => True) q (safe_alloc _ _ _) ⟨trivial, trivial⟩
section
variable {w : World} {ops : Array Oper} {rest : List Oper} {o : Oper} {a : Act} {Q : Exit → Act → World → Prop}
theorem wpList_instrs (hgd : o.guard = none) (s x : Operand) (ho : o.op = .call { callee := .builtin .append, args := #[s, x], argTypes := #[124, 124] })
    (B lo : Nat) (v u : Value) (hs : a.eval s = v) (hx : a.eval x = u) (l m : List In) (hown : instrsO B w v l) (harr : instrsO lo w u m) (hl : l.length + m.length ≤ 1000) (hB : B ≤ w.heap.size)
    (h : ∀ (a' : Option Addr) (n c : Nat) w', instrsO B w' (.slice a' n c) (l ++ m) → w.grownBy w' v.ownBlock → wpList Try.prog ops Q rest (a.put o.dst (.slice a' n c)) w') : wpList Try.prog ops Q (o :: rest) a w := by
  obtain ⟨i, i1, i2, i3, i4⟩ := infoIn
  refine wpList_append_arr2 hgd s x 124 ho 78 4 56 i _ Try.underlying124 i1 i2 i3 i4 rfl (by decide) (insQ_one w) B v u hs hx l m hown (ownArr_isArr harr) (by unfold maxLen; omega) (by omega) hB ?_
  intro v' w' h1 h2
  obtain ⟨a', c', rfl⟩ := own_slice h1
  exact h _ _ _ _ (ownArr_imp h1 fun _ _ q => insQ_safe (T := fun e => e ≠ 78) q (own_safe hown h2 (by simp)) ⟨by decide, by decide⟩) h2
end
theorem addI_take (n : Nat) (name : ByteArray) (F : Int → List Cy) (l : List In) (ms : List Int) (k : Nat) (m : Int) (hk : ms[k]? = some m) (hn : l.length = n) :
    l ++ addI l.length name F (ms.take (k + 1)) = (l ++ addI l.length name F (ms.take k)) ++ [⟨n + k + 1, name, m, F m⟩] := by
  subst hn
  rw [List.append_assoc]
  congr 1
  have : ∀ (ms : List Int) (n k : Nat) (m : Int), ms[k]? = some m → addI n name F (ms.take (k + 1)) = addI n name F (ms.take k) ++ [⟨n + k + 1, name, m, F m⟩] := by
    intro ms
    induction ms with
    | nil => intro n k m h; simp at h
    | cons x ms ih =>
      intro n k m h
      cases k with
      | zero => cases h; simp [addI]
      | succ k =>
        have h2 : ms[k]? = some m := by simpa using h
        rw [List.take_succ_cons, addI, ih (n + 1) k m h2, List.take_succ_cons, addI]
        simp
        omega
  exact_mod_cast this ms l.length k m hk

set_option maxHeartbeats 4000000 in
theorem add_std (lo g : Nat) (name : ByteArray) (fn : Nat) (caps : Array Value) (F : Int → List Cy) (ms : List Int) (b : Nat) (w : World) (l : List In) (hL : atL lo g w l) (hlo : lo ≤ w.heap.size) (hlen : l.length + ms.length ≤ 200) (hE : Enters Try.prog fn) (hF : makesC fn caps F w) (hm : ∀ m ∈ ms, okMode m)
    (hms : rowB w b 3 ⟨ms.map (Value.int .i64)⟩) :
    Calls Try.prog 108 #[.pointer (some ⟨g, 0, none⟩), .string name, .func (.func fn) #[] caps, .slice (some ⟨b, 0, none⟩) ms.length ms.length] w fun e w' => e = .returned (.tuple #[]) ∧ atL lo g w' (more l name F ms) ∧ Below lo w w' := by
  have hEn : ∀ (args : Array Value) (w : World), (callFunc fn args).run Try.prog w = .ok (.enter fn args) w := hE
  clear hE
  go_enter Try.func108, Try.ntmps108
  go_wp2_with fail
  go_loopw [12] (fun i wr => ∃ k : Nat, k ≤ ms.length ∧ i = .int .i64 k ∧ atL lo g wr (l ++ addI l.length name F (ms.take k)) ∧ Below lo w wr ∧ Safe staysK w wr) (fun i _ => ms.length - (intOf i).toNat)
  case atStart => exact ⟨0, Nat.zero_le _, rfl, by simpa [addI] using hL, Below.refl _ _, Safe.refl _ _⟩
  case round =>
    obtain ⟨k, hk, rfl, hA, hbel, hsafe⟩ := hrel
    by_cases hlt : k < ms.length
    · obtain ⟨m, hmk⟩ : ∃ m, ms[k]? = some m := ⟨_, List.getElem?_eq_getElem hlt⟩
      have hms' : rowB wr b 3 ⟨ms.map (Value.int .i64)⟩ := hsafe.2 _ _ _ _ hms ⟨by decide, by decide⟩
      have hcell : wr.cell? ⟨b, k, none⟩ = some (.int .i64 m) := rowB_cell hms' k (by simp [hmk])
      have hmm : okMode m := hm m (List.mem_of_getElem? hmk)
      obtain ⟨hg, a, n, c, hrow, hown⟩ := hA
      have hNl : (l ++ addI l.length name F (ms.take k)).length = l.length + k := by
        rw [List.length_append, addI_len, List.length_take, Nat.min_eq_left hk]
      obtain ⟨N, hN⟩ : ∃ N, l.length + k = N := ⟨_, rfl⟩
      rw [hN] at hNl
      have hN200 : N ≤ 200 := by omega
      obtain ⟨L, hL2⟩ : ∃ L, L = l ++ addI l.length name F (ms.take k) := ⟨_, rfl⟩
      have HT := Lib.hid (addI_take l.length name F l ms k m hmk rfl)
      rw [← hL2] at hNl hown HT
      obtain rfl : n = N := by
        obtain ⟨a', cap', e⟩ := own_slice hown
        rw [hNl] at e
        cases e
        rfl
      have HN := Lib.hid hN
      have HL := Lib.hid hL2
      clear hL hms hms' hL2 hN
      go_upto_region 3 with (fail)
      refine wp_region_mix (fun w' => w'.cell? ⟨g, 0, none⟩ = some (.slice a n c)) [(0, 1), (1, 1), (2, 1), (3, 1), (4, 1), (5, 1), (6, 1), (7, 1), (8, 1), (9, 1), (10, 1), (11, 0), (12, 0), (13, 3), (14, 3), (15, 3), (16, 3), (17, 0), (18, 2)] (by kernel_rfl) (by kernel_rfl) (fun _ _ _ _ _ h => h) ?_
      simp only [List.map_cons, List.map_nil, opOf, List.getD_cons_zero, List.getD_cons_succ]
      change wpMix _ _ _ _ _ _ wr.drew
      have hbel' : Below lo w wr.drew := hbel.drew
      have hsafe' : Safe staysK w wr.drew := hsafe.trans (safe_drew _ _)
      have hrow' : rowB wr.drew g 124 #[.slice a n c] := hrow
      have hown' : instrsO lo wr.drew (.slice a n c) L := instrsO_below hown (Below.refl _ _).drew
      have hc := cell0 hrow'
      clear hbel hsafe hrow hown
      generalize wr.drew = v at *
      refine wpMix_held (Value.pointer (some ⟨g, 0, none⟩)) rfl hc (fun w' hw' => by go_simp) ?_
      simp only [Act.put, List.setIfInBounds_toArray, List.set_cons_zero, List.set_cons_succ]
      refine wpMix_held (Value.pointer (some ⟨g, 0, none⟩)) rfl hc (fun w' hw' => by go_simp) ?_
      simp only [Act.put, List.setIfInBounds_toArray, List.set_cons_zero, List.set_cons_succ]
      refine wpMix_held (Value.pointer (some ⟨g, 0, none⟩)) rfl hc (fun w' hw' => by go_simp) ?_
      simp only [Act.put, List.setIfInBounds_toArray, List.set_cons_zero, List.set_cons_succ]
      refine wpMix_held (Value.slice a n c) rfl hc (fun w' hw' => by go_simp) ?_
      simp only [Act.put, List.setIfInBounds_toArray, List.set_cons_zero, List.set_cons_succ]
      refine wpMix_held (Value.pointer (some ⟨g, 0, none⟩)) rfl hc (fun w' hw' => by go_simp) ?_
      simp only [Act.put, List.setIfInBounds_toArray, List.set_cons_zero, List.set_cons_succ]
      refine wpMix_held (Value.pointer (some ⟨g, 0, none⟩)) rfl hc (fun w' hw' => by go_simp) ?_
      simp only [Act.put, List.setIfInBounds_toArray, List.set_cons_zero, List.set_cons_succ]
      refine wpMix_held (Value.slice a n c) rfl hc (fun w' hw' => by go_simp) ?_
      simp only [Act.put, List.setIfInBounds_toArray, List.set_cons_zero, List.set_cons_succ]
      refine wpMix_held (Value.int .i64 (n : Int)) rfl hc (fun w' hw' => by go_simp) ?_
      simp only [Act.put, List.setIfInBounds_toArray, List.set_cons_zero, List.set_cons_succ]
      refine wpMix_held (Value.int .i64 ((n : Int) + 1)) rfl hc (fun w' hw' => by go_simp; simp [IntKind.wrap, IntKind.bits, IntKind.signed]; omega) ?_
      simp only [Act.put, List.setIfInBounds_toArray, List.set_cons_zero, List.set_cons_succ]
      refine wpMix_held (Value.string name) rfl hc (fun w' hw' => by go_simp) ?_
      simp only [Act.put, List.setIfInBounds_toArray, List.set_cons_zero, List.set_cons_succ]
      refine wpMix_held (Value.int .i64 m) rfl hc (fun w' hw' => by go_simp) ?_
      simp only [Act.put, List.setIfInBounds_toArray, List.set_cons_zero, List.set_cons_succ]
      refine wpMix_still (fun K hK => ?_)
      go_simp
      refine hK _ ?_
      clear hK K
      refine wpMix_still (fun K hK => ?_)
      go_simp
      refine hK _ ?_
      clear hK K
      refine wpMix_call ?_
      have hC := hF v hsafe' m hmm
      go_wp2_with (with_reducible refine hC.mono ?_; rintro e w1 ⟨a1, n1, k1, rfl, z1, h1⟩)
      have r1 := cell_below hrow' h1
      refine ⟨fun _ => cell0 r1, ?_⟩
      have s1 := hsafe'.trans (safe_below h1)
      have b1 := hbel'.trans (h1.mono (Nat.le_trans hlo hbel'.size))
      have o1 := instrsO_below hown' h1
      clear hC hrow' hown' hc hsafe' hbel' h1
      refine wpMix_call ?_
      go_wp2_with fail
      first | refine ⟨fun _ => cell0 r1, ?_⟩ | refine ⟨cell0 r1, ?_⟩
      refine wpMix_call ?_
      go_wp2_with fail
      have r2 := rowB_alloc r1 (.cells #[.int .i64 ((n : Int) + 1), .string name, .int .i64 m, .slice a1 n1 k1] 78)
      first | refine ⟨fun _ => cell0 r2, ?_⟩ | refine ⟨cell0 r2, ?_⟩
      have y := own_instr (w := w1) (cells := #[.int .i64 ((n : Int) + 1), .string name, .int .i64 m, .slice a1 n1 k1]) ⟨(n : Int) + 1, name, m, F m⟩ (.slice a1 n1 k1) z1 rfl
      have o2 := instrsO_below o1 (below_laid1 w1 (.cells #[.int .i64 ((n : Int) + 1), .string name, .int .i64 m, .slice a1 n1 k1] 78))
      refine wpMix_call ?_
      go_wp2_with (at_builtin; refine wpList_instrs rfl _ _ rfl lo _ _ _ rfl rfl L [⟨(n : Int) + 1, name, m, F m⟩] o2 y ?b1 ?b2 ?_)
      case b1 => simp; omega
      case b2 => have := b1.size; simp; omega
      intro a2 n2 c2 w2 o3 g3
      have g4 : Safe (fun e => e ≠ 78) _ w2 := own_safe o2 g3 (by simp)
      have b3 := own_grown o2 g3 (by have := b1.size; simp; omega)
      have r3 : rowB w2 g 124 #[.slice a n c] := g4.2 _ _ _ _ r2 (by decide)
      have s3 := (s1.trans (safe_alloc _ _ _)).trans (show Safe staysK _ w2 from own_safe o2 g3 (by simp [staysK]))
      have b4 := (b1.alloc (Nat.le_trans hlo b1.size) (.cells #[.int .i64 ((n : Int) + 1), .string name, .int .i64 m, .slice a1 n1 k1] 78)).trans b3
      clear o2 g3 g4 b3 r2 y r1 o1 b1 s1 z1
      go_wp2_with fail
      first | refine ⟨fun _ => cell0 r3, ?_⟩ | refine ⟨cell0 r3, ?_⟩
      refine wpMix_still (fun K hK => ?_)
      go_simp
      refine hK _ ?_
      clear hK K
      refine wpMix_call ?_
      have z3 := rowB_free r3 0
      have q3 := cell0 r3
      go_wp2_with fail
      try refine ⟨fun h => (by cases h), ?_⟩
      refine wpMix_nil ?_
      have r5 := rowB_set r3 0 (.slice a2 n2 c2)
      have s5 := s3.trans (safe_set (j := 0) r3 (show ¬ staysK 124 from fun h => h.2 rfl) (.slice a2 n2 c2))
      have b5 : Below lo w (w2.setCell ⟨g, 0, none⟩ (.slice a2 n2 c2)) := b4.setCell (by show lo ≤ g; omega) _
      have o5 := instrsO_safe (T := fun e => e ≠ 124) o3 (safe_set (j := 0) r3 (by simp) (.slice a2 n2 c2)) ⟨by decide, by decide, by decide⟩
      have HO := Lib.hid (show atL lo g (w2.setCell ⟨g, 0, none⟩ (.slice a2 n2 c2)) (l ++ addI l.length name F (ms.take (k + 1))) from ⟨hg, a2, n2, c2, r5, by rw [HT.out]; have := HN.out; rw [show (l.length : Int) + k + 1 = (n : Int) + 1 by omega]; exact o5⟩)
      clear r3 o3 s3 b4 r5 o5 z3 q3
      go_wp2_with fail
      go_roundw
      case rel => exact ⟨k + 1, by omega, by go_num, HO.out, b5, s5⟩
      case measure => simp [intOf]; omega
    · obtain rfl : k = ms.length := by omega
      rw [List.take_length] at hA
      go_wp2_with fail
      exact bodyPost_end (results_none rfl _ _ _) rfl ⟨rfl, hA, hbel⟩
theorem atL_below {lo g : Nat} {w w' : World} {l : List In} (h : atL lo g w l) (hb : Below w.heap.size w w') : atL lo g w' l := by
  obtain ⟨h1, a, n, c, h2, h3⟩ := h
  exact ⟨h1, a, n, c, cell_below h2 hb, instrsO_below h3 hb⟩
theorem makes_load {w : World} {g : Nat} {r : Int} (h : rowB w g 3 #[.int .i64 r]) : makesC 144 #[.pointer (some ⟨g, 0, none⟩)] (loadC r) w := fun w2 hs m hm =>
  (loadF_std r m hm g w2 (hs.2 _ _ _ _ h ⟨by decide, by decide⟩)).mono fun _ _ ⟨a, n, c, h1, h2, h3⟩ => ⟨a, n, c, h1, cyclesO_mono h2 (Nat.zero_le _), h3⟩
theorem makes_store {w : World} {g : Nat} {r : Int} (h : rowB w g 3 #[.int .i64 r]) : makesC 146 #[.pointer (some ⟨g, 0, none⟩)] (storeC r) w := fun w2 hs m hm =>
  (storeF_std r m hm g w2 (hs.2 _ _ _ _ h ⟨by decide, by decide⟩)).mono fun _ _ ⟨a, n, c, h1, h2, h3⟩ => ⟨a, n, c, h1, cyclesO_mono h2 (Nat.zero_le _), h3⟩
theorem makes_change {w : World} {g : Nat} {r : Int} (h : rowB w g 3 #[.int .i64 r]) : makesC 149 #[.pointer (some ⟨g, 0, none⟩)] (changeC r) w := fun w2 hs m hm =>
  (changeF_std r m hm g w2 (hs.2 _ _ _ _ h ⟨by decide, by decide⟩)).mono fun _ _ ⟨a, n, c, h1, h2, h3⟩ => ⟨a, n, c, h1, cyclesO_mono h2 (Nat.zero_le _), h3⟩
theorem makes_combine {w : World} {g1 g2 : Nat} {d r : Int} (h1 : rowB w g1 3 #[.int .i64 d]) (h2 : rowB w g2 3 #[.int .i64 r]) : makesC 148 #[.pointer (some ⟨g1, 0, none⟩), .pointer (some ⟨g2, 0, none⟩)] (combineC d r) w := fun w2 hs m hm =>
  (combineF_std d r m hm g1 g2 w2 (hs.2 _ _ _ _ h1 ⟨by decide, by decide⟩) (hs.2 _ _ _ _ h2 ⟨by decide, by decide⟩)).mono fun _ _ ⟨a, n, c, h1, h2, h3⟩ => ⟨a, n, c, h1, cyclesO_mono h2 (Nat.zero_le _), h3⟩
theorem makes_plain {w : World} {g lo : Nat} {a : Option Addr} {n c : Nat} {cs : List Cy} (h : rowB w g 68 #[.slice a n c]) (hc : cyclesO lo w (.slice a n c) cs) : makesC 150 #[.pointer (some ⟨g, 0, none⟩)] (fun _ => cs) w := fun w2 hs m _ =>
  (plainF_std m g a n c w2 (hs.2 _ _ _ _ h ⟨by decide, by decide⟩)).mono fun _ _ ⟨h1, h2⟩ => ⟨a, n, c, h1, by subst h2; exact cyclesO_mono (cyclesO_safe hc hs ⟨⟨by decide, by decide⟩, by decide, by decide⟩) (Nat.zero_le _), by subst h2; exact Below.refl _ _⟩
set_option maxHeartbeats 4000000 in
theorem addPlain_std (lo g : Nat) (name : ByteArray) (m : Int) (cs : List Cy) (a : Option Addr) (n c : Nat) (w : World) (l : List In) (hL : atL lo g w l) (hlo : lo ≤ w.heap.size) (hlen : l.length + 1 ≤ 200) (hm : okMode m) {lc : Nat} (hc : cyclesO lc w (.slice a n c) cs) :
    Calls Try.prog 115 #[.pointer (some ⟨g, 0, none⟩), .string name, .int .i64 m, .slice a n c] w fun e w' => e = .returned (.tuple #[]) ∧ atL lo g w' (moreP l name m cs) ∧ Below lo w w' := by
  have b2 := below_al (below_laid1 w (.cells #[.slice a n c] 68)) (.cells #[.int .i64 m] 3)
  have rows := rowB_alloc (rowB_new w 68 #[.slice a n c]) (.cells #[.int .i64 m] 3)
  have hF := makes_plain rows (cyclesO_below hc b2)
  have hl := atL_below hL b2
  have rm := rowB_new (w.alloc (.cells #[.slice a n c] 68)) 3 #[.int .i64 m]
  rw [World.size_alloc] at rm
  have hE : Enters Try.prog 150 := enters_of Try.func150 (by kernel_rfl) rfl
  have HA := Lib.hid (add_std lo g name 150 _ _ [m] _ _ l hl (Nat.le_trans hlo b2.size) hlen hE hF (by simpa using hm) rm)
  have HB := Lib.hid (b2.mono hlo)
  clear hL hc rows hF hl rm hE b2
  go_enter Try.func115, Try.ntmps115
  go_wp2_with (go_at_call 108; refine HA.out.mono ?_)
  rintro e w1 ⟨rfl, h1, h2⟩
  go_wp2_with fail
  exact bodyPost_end (results_none rfl _ _ _) rfl ⟨rfl, h1, HB.out.trans h2⟩
end Go.Proofs.Ytdiajkgebicnnaa
