/- The reference's list of instructions: its closures and what adds a line. -/
import Derived.Test.YtbgjnegojoaimaaGreatDoorStdCyT
import Derived.Test.YtbgjnegojoaimaaGreatDoorStdLead
import Derived.Test.YtbgjnegojoaimaaGreatDoorLin
import Derived.Deep.AppendLies
namespace Go.Proofs.YtbgjnegojoaimaaGreatDoor
open Go.RowKit
set_option maxRecDepth 100000

theorem str_snoc {lo : Nat} {w' : World} {v' : Value} {l : List ByteArray} {s : ByteArray} {f : Nat → List Value} (hf : ∀ i, i < l.length → (f i).length = 1) (hR : ∀ i x, l[i]? = some x → strQ (f i) x)
    (ho : w'.ownsRow lo 9 1 v' (l.length + 1) (flat f l.length ++ [.string s])) : strsO lo w' v' (l ++ [s]) := by
  refine ⟨joinF l.length f (fun _ => [.string s]), fun i hi => ?_, ?_, fun i x hx => ?_⟩
  · unfold joinF
    split
    · exact hf i (by assumption)
    · rfl
  · rw [List.length_append, List.length_singleton, flat_join]
    exact ho
  · unfold joinF
    split
    · rw [List.getElem?_append_left (by assumption)] at hx
      exact hR i x hx
    · rw [List.getElem?_append_right (by omega)] at hx
      have h0 : i - l.length = 0 := by
        have := (List.getElem?_eq_some_iff.1 hx).1
        simpa using this
      rw [h0] at hx
      cases hx
      rfl
/-- The append of one text, and where the slice lies behind it. -/
theorem wpList_str1 {w : World} {ops : Array Oper} {rest : List Oper} {o : Oper} {a : Act} {Q : Exit → Act → World → Prop} (hgd : o.guard = none) (s x : Operand) (ho : o.op = .call { callee := .builtin .append, args := #[s, x], argTypes := #[27, 27] })
    (lo : Nat) (v : Value) (l : List ByteArray) (hs : a.eval s = v) (hown : strsO lo w v l) (B : Nat) (t : ByteArray) (hx : a.eval x = .slice (some ⟨B, 0, none⟩) 1 1) (hB : rowB w B 9 #[.string t]) (hl : l.length ≤ 1000) (hlo : lo ≤ w.heap.size)
    (h : ∀ (b n cap : Nat) w', strsO lo w' (.slice (some ⟨b, 0, none⟩) n cap) (l ++ [t]) → w.grownBy w' v.ownBlock → (v.ownBlock = some b ∨ b = w.heap.size) → wpList Tryz.prog ops Q rest (a.put o.dst (.slice (some ⟨b, 0, none⟩) n cap)) w') : wpList Tryz.prog ops Q (o :: rest) a w := by
  obtain ⟨i, i1, i2, i3, i4⟩ := infoStr
  obtain ⟨f, hf, hrow, hR⟩ := hown
  exact wpList_append_lies w hgd s x 27 ho lo 9 i _ 1 16 Tryz.underlying27 i1 i2 i3 i4 rfl (by decide) v l.length _ hs hrow ⟨B, 0, none⟩ 1 1 [.string t] hx rfl
    (World.news_of_block hB) (by intro u hu; simp only [List.mem_cons, List.not_mem_nil, or_false] at hu; subst hu; rfl) (by decide) (by simp only [maxLen]; omega) (by omega) hlo _ rfl
    (fun b cap w' h1 h2 h3 h4 => h b _ cap w' (str_snoc hf hR h1) h2 h3)

/-- What the closures say of a mode. -/
def rdT (s : ByteArray) (m : Int) : ByteArray := (((if m = 1 then ⟨#[114, 80, 84]⟩ else ⟨#[114, 65, 84]⟩) ++ ⟨#[40]⟩) ++ s) ++ ⟨#[41]⟩
theorem read_txt (s : ByteArray) (w : World) : Calls Tryz.prog 23 #[.string s] w fun e w' => e = .returned (.func (.func 24) #[] #[.pointer (some ⟨w.heap.size, 0, none⟩)]) ∧ w' = w.alloc (.cells #[.string s] 9) := by
  go_enter Tryz.func23, Tryz.ntmps23
  go_wp2
  go_ret
  exact ⟨rfl, rfl⟩
theorem fix_txt (s : ByteArray) (w : World) : Calls Tryz.prog 26 #[.string s] w fun e w' => e = .returned (.func (.func 27) #[] #[.pointer (some ⟨w.heap.size, 0, none⟩)]) ∧ w' = w.alloc (.cells #[.string s] 9) := by
  go_enter Tryz.func26, Tryz.ntmps26
  go_wp2
  go_ret
  exact ⟨rfl, rfl⟩
theorem fixF_txt (s : ByteArray) (m : Int) (g : Nat) (w : World) (hg : rowB w g 9 #[.string s]) : Calls Tryz.prog 27 #[.int .i64 m, .pointer (some ⟨g, 0, none⟩)] w fun e w' => e = .returned (.string s) ∧ Below w.heap.size w w' := by
  have hc := rowB_cell hg 0 (v := .string s) rfl
  go_enter Tryz.func27, Tryz.ntmps27
  go_wp2
  go_ret
  exact ⟨rfl, Below.refl _ _⟩
set_option maxHeartbeats 4000000 in
theorem readF_txt (s : ByteArray) (hs : s.size ≤ 1000) (m : Int) (g : Nat) (w : World) (hg : rowB w g 9 #[.string s]) : Calls Tryz.prog 24 #[.int .i64 m, .pointer (some ⟨g, 0, none⟩)] w fun e w' => e = .returned (.string (rdT s m)) ∧ Below w.heap.size w w' := by
  by_cases h1 : m = 1
  · have z1 : ¬ 9223372036854775807 < 4 + s.size := by omega
    have z2 : ¬ 9223372036854775807 < 4 + s.size + 1 := by omega
    have e : rdT s m = (((⟨#[114, 80, 84]⟩) ++ ⟨#[40]⟩) ++ s) ++ ⟨#[41]⟩ := by unfold rdT; rw [if_pos h1]
    have t : (m == 1) = true := by simpa using h1
    rw [e]
    clear e h1
    go_enter Tryz.func24, Tryz.ntmps24
    go_upto_region 1 with (fail)
    refine wp_region_mix (fun w' => w'.cell? ⟨g, 0, none⟩ = some (.string s)) [(1, 1), (2, 1), (3, 1), (7, 1), (0, 3), (4, 0), (5, 0), (6, 0), (8, 0), (9, 0), (10, 0)] (by kernel_rfl) (by kernel_rfl) (fun _ _ _ _ _ h => h) ?_
    simp only [List.map_cons, List.map_nil, opOf, List.getD_cons_zero, List.getD_cons_succ]
    change wpMix _ _ _ _ _ _ w.drew
    have c_w_v : Below w.heap.size w w.drew := (Below.refl _ _).drew
    have hg' : rowB w.drew g 9 #[.string s] := hg
    have hc : w.drew.cell? ⟨g, 0, none⟩ = some (.string s) := rowB_cell hg' 0 rfl
    clear hg
    generalize w.drew = v at *
    refine wpMix_held (Value.int .i64 m) rfl hc (fun w' hw' => by go_simp) ?_
    simp only [Act.put, List.setIfInBounds_toArray, List.set_cons_zero, List.set_cons_succ]
    refine wpMix_held (Value.bool true) rfl hc (fun w' hw' => by go_simp) ?_
    simp only [Act.put, List.setIfInBounds_toArray, List.set_cons_zero, List.set_cons_succ]
    refine wpMix_heldCall (.int .i64 1) rfl hc 25 #[.bool true] (fun w' _ => by go_simp) (fun w' _ => (seen_any true w').mono fun _ _ ⟨h, g⟩ => ⟨h, g.symm⟩) ?_
    simp only [Act.put, List.setIfInBounds_toArray, List.set_cons_zero, List.set_cons_succ]
    refine wpMix_held (Value.string s) rfl hc (fun w' hw' => by go_simp) ?_
    simp only [Act.put, List.setIfInBounds_toArray, List.set_cons_zero, List.set_cons_succ]
    refine wpMix_call ?_
    go_wp2_with fail
    have hg2 := rowB_alloc hg' (.cells #[.string ⟨#[114, 65, 84]⟩, .string ⟨#[114, 80, 84]⟩] 9)
    have hc2 : (v.alloc (.cells #[.string ⟨#[114, 65, 84]⟩, .string ⟨#[114, 80, 84]⟩] 9)).cell? ⟨g, 0, none⟩ = some (.string s) := rowB_cell hg2 0 rfl
    refine ⟨fun _ => hc2, ?_⟩
    refine wpMix_still (fun K hK => ?_)
    go_simp
    refine hK _ ?_
    clear hK K
    refine wpMix_still (fun K hK => ?_)
    go_simp
    refine hK _ ?_
    clear hK K
    refine wpMix_still (fun K hK => ?_)
    go_simp
    refine hK _ ?_
    clear hK K
    refine wpMix_still (fun K hK => ?_)
    go_simp
    refine hK _ ?_
    clear hK K
    refine wpMix_still (fun K hK => ?_)
    go_simp
    refine hK _ ?_
    clear hK K
    refine wpMix_still (fun K hK => ?_)
    go_simp
    refine hK _ ?_
    clear hK K
    refine wpMix_nil ?_
    go_wp2_with fail
    go_ret
    exact ⟨rfl, below_al c_w_v _⟩
  · have z1 : ¬ 9223372036854775807 < 4 + s.size := by omega
    have z2 : ¬ 9223372036854775807 < 4 + s.size + 1 := by omega
    have e : rdT s m = (((⟨#[114, 65, 84]⟩) ++ ⟨#[40]⟩) ++ s) ++ ⟨#[41]⟩ := by unfold rdT; rw [if_neg h1]
    have t : (m == 1) = false := by simpa using h1
    rw [e]
    clear e h1
    go_enter Tryz.func24, Tryz.ntmps24
    go_upto_region 1 with (fail)
    refine wp_region_mix (fun w' => w'.cell? ⟨g, 0, none⟩ = some (.string s)) [(1, 1), (2, 1), (3, 1), (7, 1), (0, 3), (4, 0), (5, 0), (6, 0), (8, 0), (9, 0), (10, 0)] (by kernel_rfl) (by kernel_rfl) (fun _ _ _ _ _ h => h) ?_
    simp only [List.map_cons, List.map_nil, opOf, List.getD_cons_zero, List.getD_cons_succ]
    change wpMix _ _ _ _ _ _ w.drew
    have c_w_v : Below w.heap.size w w.drew := (Below.refl _ _).drew
    have hg' : rowB w.drew g 9 #[.string s] := hg
    have hc : w.drew.cell? ⟨g, 0, none⟩ = some (.string s) := rowB_cell hg' 0 rfl
    clear hg
    generalize w.drew = v at *
    refine wpMix_held (Value.int .i64 m) rfl hc (fun w' hw' => by go_simp) ?_
    simp only [Act.put, List.setIfInBounds_toArray, List.set_cons_zero, List.set_cons_succ]
    refine wpMix_held (Value.bool false) rfl hc (fun w' hw' => by go_simp) ?_
    simp only [Act.put, List.setIfInBounds_toArray, List.set_cons_zero, List.set_cons_succ]
    refine wpMix_heldCall (.int .i64 0) rfl hc 25 #[.bool false] (fun w' _ => by go_simp) (fun w' _ => (seen_any false w').mono fun _ _ ⟨h, g⟩ => ⟨h, g.symm⟩) ?_
    simp only [Act.put, List.setIfInBounds_toArray, List.set_cons_zero, List.set_cons_succ]
    refine wpMix_held (Value.string s) rfl hc (fun w' hw' => by go_simp) ?_
    simp only [Act.put, List.setIfInBounds_toArray, List.set_cons_zero, List.set_cons_succ]
    refine wpMix_call ?_
    go_wp2_with fail
    have hg2 := rowB_alloc hg' (.cells #[.string ⟨#[114, 65, 84]⟩, .string ⟨#[114, 80, 84]⟩] 9)
    have hc2 : (v.alloc (.cells #[.string ⟨#[114, 65, 84]⟩, .string ⟨#[114, 80, 84]⟩] 9)).cell? ⟨g, 0, none⟩ = some (.string s) := rowB_cell hg2 0 rfl
    refine ⟨fun _ => hc2, ?_⟩
    refine wpMix_still (fun K hK => ?_)
    go_simp
    refine hK _ ?_
    clear hK K
    refine wpMix_still (fun K hK => ?_)
    go_simp
    refine hK _ ?_
    clear hK K
    refine wpMix_still (fun K hK => ?_)
    go_simp
    refine hK _ ?_
    clear hK K
    refine wpMix_still (fun K hK => ?_)
    go_simp
    refine hK _ ?_
    clear hK K
    refine wpMix_still (fun K hK => ?_)
    go_simp
    refine hK _ ?_
    clear hK K
    refine wpMix_still (fun K hK => ?_)
    go_simp
    refine hK _ ?_
    clear hK K
    refine wpMix_nil ?_
    go_wp2_with fail
    go_ret
    exact ⟨rfl, below_al c_w_v _⟩

/-- Block q is neither the variable's nor its slice's. -/
def sepT (g : Nat) (w : World) (q : Nat) : Prop := q ≠ g ∧ ∀ a n c, rowB w g 27 #[.slice a n c] → (Value.slice a n c).ownBlock ≠ some q
/-- What is apart from the variable stays, and stays apart. -/
def keepT (g : Nat) (w w' : World) : Prop := ∀ q t cs, rowB w q t cs → sepT g w q → rowB w' q t cs ∧ sepT g w' q
/-- The variable in block g holds the lines l. -/
def atT (lo g : Nat) (w : World) (l : List ByteArray) : Prop := lo ≤ g ∧ ∃ a n c, rowB w g 27 #[.slice a n c] ∧ strsO lo w (.slice a n c) l
/-- A closure that says something of a mode. -/
def saysC (fn : Nat) (caps : Array Value) (F : Int → ByteArray) (g : Nat) (s : ByteArray) : Prop :=
  ∀ w, rowB w g 9 #[.string s] → ∀ m, Calls Tryz.prog fn (#[.int .i64 m] ++ caps) w fun e w' => e = .returned (.string (F m)) ∧ Below w.heap.size w w'
def digM (m : Nat) : ByteArray := ⟨#[48 + m.toUInt8]⟩
def leads9 : List ByteArray := [⟨#[]⟩, ⟨#[]⟩, ⟨#[114, 80, 84, 40, 48, 68, 44, 108, 68, 84, 41, 32]⟩,
  ⟨#[114, 80, 84, 40, 48, 68, 44, 108, 68, 84, 44, 105, 68, 88, 41, 32, 45, 40, 103, 84, 68, 44, 48, 68, 44, 108, 68, 84, 41, 32]⟩,
  ⟨#[114, 80, 84, 40, 108, 68, 84, 41, 32, 114, 80, 84, 40, 104, 68, 84, 41, 32]⟩,
  ⟨#[114, 80, 84, 40, 108, 68, 84, 41, 32, 114, 80, 84, 40, 104, 68, 84, 41, 32, 45, 40, 105, 68, 88, 41, 32]⟩,
  ⟨#[114, 80, 84, 40, 108, 68, 84, 41, 32, 114, 80, 84, 40, 104, 68, 84, 41, 32, 45, 40, 105, 68, 89, 41, 32]⟩, ⟨#[]⟩,
  ⟨#[114, 80, 84, 40, 48, 68, 44, 108, 68, 84, 41, 32, 114, 65, 84, 32, 114, 78, 85, 40, 108, 68, 84, 44, 104, 68, 85, 44, 105, 68, 89, 41, 32]⟩]
def leadT (m : Nat) : ByteArray := (leads9[m]?).getD ⟨#[]⟩
def lineT (name : ByteArray) (F : Int → ByteArray) (m : Nat) : ByteArray := ((((name ++ ⟨#[32]⟩) ++ digM m) ++ ⟨#[32]⟩) ++ leadT m) ++ F m
def moreT (l : List ByteArray) (name : ByteArray) (F : Int → ByteArray) (ms : List Nat) : List ByteArray := l ++ ms.map (lineT name F)
theorem row_inj {v u : Value} {t : TypeId} {f : Nat × Nat} (h : some (Obj.cells #[v] t f) = some (Obj.cells #[u] t f)) : v = u := by
  simpa using h
theorem leadT_size {m : Nat} (h : m ≤ 8) : (leadT m).size ≤ 40 := by
  rcases (by omega : m = 0 ∨ m = 1 ∨ m = 2 ∨ m = 3 ∨ m = 4 ∨ m = 5 ∨ m = 6 ∨ m = 7 ∨ m = 8) with rfl | rfl | rfl | rfl | rfl | rfl | rfl | rfl | rfl <;> decide
theorem leadT_get {m : Nat} (h : m ≤ 8) : leads9[m]? = some (leadT m) := by
  rcases (by omega : m = 0 ∨ m = 1 ∨ m = 2 ∨ m = 3 ∨ m = 4 ∨ m = 5 ∨ m = 6 ∨ m = 7 ∨ m = 8) with rfl | rfl | rfl | rfl | rfl | rfl | rfl | rfl | rfl <;> rfl
theorem digM_enc {m : Nat} (h : m ≤ 8) : Utf8.encode (48 + (m : Int)) = digM m := by
  rcases (by omega : m = 0 ∨ m = 1 ∨ m = 2 ∨ m = 3 ∨ m = 4 ∨ m = 5 ∨ m = 6 ∨ m = 7 ∨ m = 8) with rfl | rfl | rfl | rfl | rfl | rfl | rfl | rfl | rfl <;> kernel_rfl
theorem digM_size (m : Nat) : (digM m).size = 1 := rfl
set_option maxHeartbeats 4000000 in
theorem addT_std (lo g gl bl : Nat) (name : ByteArray) (fn : Nat) (caps : Array Value) (F : Int → ByteArray) (g1 : Nat) (s1 : ByteArray) (ms : List Nat) (b : Nat) (w : World) (l : List ByteArray) (hL : atT lo g w l) (hlo : lo ≤ w.heap.size) (hlen : l.length + ms.length ≤ 200)
    (hE : Enters Tryz.prog fn) (hF : saysC fn caps F g1 s1) (h1 : rowB w g1 9 #[.string s1]) (hs1 : sepT g w g1) (hsb : sepT g w b)
    (hnm : name.size ≤ 100) (hFs : ∀ m, m ∈ ms → (F m).size ≤ 1000) (hm : ∀ m ∈ ms, m ≤ 8)
    (hms : rowB w b 3 ⟨ms.map fun (m : Nat) => Value.int .i64 (m : Int)⟩)
    (hgl : rowB w gl 27 #[.slice (some ⟨bl, 0, none⟩) 9 9]) (hbl : rowB w bl 9 ⟨leads9.map Value.string⟩) (hlg : gl < lo) (hlb : bl < lo) :
    Calls Tryz.prog 22 #[.string name, .func (.func fn) #[] caps, .slice (some ⟨b, 0, none⟩) ms.length ms.length, .pointer (some ⟨g, 0, none⟩), .pointer (some ⟨gl, 0, none⟩)] w fun e w' => e = .returned (.tuple #[]) ∧ atT lo g w' (moreT l name F ms) ∧ Below lo w w' ∧ keepT g w w' := by
  have hEn : ∀ (args : Array Value) (w : World), (callFunc fn args).run Tryz.prog w = .ok (.enter fn args) w := hE
  clear hE
  go_enter Tryz.func22, Tryz.ntmps22
  obtain ⟨hg, a0, n0, c0, r0, o0⟩ := hL
  go_wp2_with fail
  go_loopw [12] (fun i wr => ∃ (k : Nat) (a : Option Addr) (n c : Nat), k ≤ ms.length ∧ i = .int .i64 k ∧ rowB wr g 27 #[.slice a n c] ∧ strsO lo wr (.slice a n c) (l ++ (ms.take k).map (lineT name F)) ∧ keepT g w wr ∧ Below lo w wr) (fun i _ => ms.length - (intOf i).toNat)
  case atStart => exact ⟨0, a0, n0, c0, Nat.zero_le _, rfl, r0, by simpa using o0, fun _ _ _ h1 h2 => ⟨h1, h2⟩, Below.refl _ _⟩
  case round =>
    clear r0 o0
    obtain ⟨k, a, n, c, hk, rfl, hrow, hown, hkeep, hbel⟩ := hrel
    by_cases hlt : k < ms.length
    · have HK := Lib.hid hkeep
      have h1 := (hkeep _ _ _ h1 hs1).1
      have hms := (hkeep _ _ _ hms hsb).1
      clear hkeep
      obtain ⟨m, hmk⟩ : ∃ m, ms[k]? = some m := ⟨_, List.getElem?_eq_getElem hlt⟩
      have hcell : wr.cell? ⟨b, k, none⟩ = some (.int .i64 (m : Int)) := rowB_cell hms k (by simp [hmk])
      have hmm : m ≤ 8 := hm m (List.mem_of_getElem? hmk)
      have hFm : (F (m : Int)).size ≤ 1000 := hFs m (List.mem_of_getElem? hmk)
      have hll := leadT_size hmm
      have hds := digM_size m
      have hw1 : IntKind.i64.wrap (48 + (m : Int)) = 48 + (m : Int) := by simp [IntKind.wrap, IntKind.bits, IntKind.signed]; omega
      have hw2 : IntKind.i32.wrap (48 + (m : Int)) = 48 + (m : Int) := by simp [IntKind.wrap, IntKind.bits, IntKind.signed]; omega
      have hU := digM_enc hmm
      have hgl2 := rowB_below hgl hbel hlg
      have hbl2 := rowB_below hbl hbel hlb
      have x1 : wr.cell? ⟨bl, m, none⟩ = some (.string (leadT m)) := rowB_cell hbl2 m (by simp [leadT_get hmm])
      have HT : l ++ (ms.take (k + 1)).map (lineT name F) = (l ++ (ms.take k).map (lineT name F)) ++ [lineT name F m] := by
        rw [List.take_add_one, hmk]; simp
      obtain ⟨L, hL⟩ : ∃ L, L = l ++ (ms.take k).map (lineT name F) := ⟨_, rfl⟩
      have hLl : L.length ≤ 400 := by rw [hL]; simp; omega
      rw [← hL] at hown HT
      have HL := Lib.hid hL
      have HT := Lib.hid HT
      clear hL
      go_upto_region 3 with (fail)
      refine wp_region_mix (fun w' => w'.cell? ⟨g, 0, none⟩ = some (.slice a n c) ∧ w'.cell? ⟨gl, 0, none⟩ = some (.slice (some ⟨bl, 0, none⟩) 9 9) ∧ w'.cell? ⟨bl, m, none⟩ = some (.string (leadT m))) [(0, 1), (1, 1), (2, 1), (3, 1), (4, 1), (5, 1), (6, 1), (7, 1), (8, 1), (9, 1), (10, 1), (11, 1), (12, 1), (13, 1), (14, 0), (15, 0), (16, 3), (17, 0), (18, 3), (19, 2), (20, 2)] (by kernel_rfl) (by kernel_rfl) (fun _ _ _ _ _ h => h) ?_
      simp only [List.map_cons, List.map_nil, opOf, List.getD_cons_zero, List.getD_cons_succ]
      change wpMix _ _ _ _ _ _ wr.drew
      have hbel' : Below lo w wr.drew := hbel.drew
      have hrow' : rowB wr.drew g 27 #[.slice a n c] := hrow
      have hown' : strsO lo wr.drew (.slice a n c) L := strsO_below hown (Below.refl _ _).drew
      have h1' : rowB wr.drew g1 9 #[.string s1] := h1
      have hv : keepT g w wr.drew := HK.out
      have HK := Lib.hid hv
      clear hv
      have hgl' : rowB wr.drew gl 27 #[.slice (some ⟨bl, 0, none⟩) 9 9] := hgl2
      have hbl' : rowB wr.drew bl 9 ⟨leads9.map Value.string⟩ := hbl2
      have hS : wr.drew.cell? ⟨g, 0, none⟩ = some (.slice a n c) ∧ wr.drew.cell? ⟨gl, 0, none⟩ = some (.slice (some ⟨bl, 0, none⟩) 9 9) ∧ wr.drew.cell? ⟨bl, m, none⟩ = some (.string (leadT m)) := ⟨rowB_cell hrow' 0 rfl, rowB_cell hgl' 0 rfl, x1⟩
      clear hbel hrow hown h1 hms hgl2 hbl2 x1
      generalize wr.drew = v at *
      refine wpMix_held (Value.slice a n c) rfl hS (fun w' hw' => by obtain ⟨q1, q2, q3⟩ := hw'; go_simp <;> omega) ?_
      simp only [Act.put, List.setIfInBounds_toArray, List.set_cons_zero, List.set_cons_succ]
      refine wpMix_held (Value.string name) rfl hS (fun w' hw' => by obtain ⟨q1, q2, q3⟩ := hw'; go_simp <;> omega) ?_
      simp only [Act.put, List.setIfInBounds_toArray, List.set_cons_zero, List.set_cons_succ]
      refine wpMix_held (Value.string (name ++ ⟨#[32]⟩)) rfl hS (fun w' hw' => by obtain ⟨q1, q2, q3⟩ := hw'; go_simp <;> omega) ?_
      simp only [Act.put, List.setIfInBounds_toArray, List.set_cons_zero, List.set_cons_succ]
      refine wpMix_held (Value.int .i64 (m : Int)) rfl hS (fun w' hw' => by obtain ⟨q1, q2, q3⟩ := hw'; go_simp <;> omega) ?_
      simp only [Act.put, List.setIfInBounds_toArray, List.set_cons_zero, List.set_cons_succ]
      refine wpMix_held (Value.int .i64 (48 + (m : Int))) rfl hS (fun w' hw' => by obtain ⟨q1, q2, q3⟩ := hw'; go_simp <;> omega) ?_
      simp only [Act.put, List.setIfInBounds_toArray, List.set_cons_zero, List.set_cons_succ]
      refine wpMix_held (Value.int .i32 (48 + (m : Int))) rfl hS (fun w' hw' => by obtain ⟨q1, q2, q3⟩ := hw'; go_simp <;> omega) ?_
      simp only [Act.put, List.setIfInBounds_toArray, List.set_cons_zero, List.set_cons_succ]
      refine wpMix_held (Value.string (digM m)) rfl hS (fun w' hw' => by obtain ⟨q1, q2, q3⟩ := hw'; go_simp <;> omega) ?_
      simp only [Act.put, List.setIfInBounds_toArray, List.set_cons_zero, List.set_cons_succ]
      refine wpMix_held (Value.string ((name ++ ⟨#[32]⟩) ++ digM m)) rfl hS (fun w' hw' => by obtain ⟨q1, q2, q3⟩ := hw'; go_simp <;> omega) ?_
      simp only [Act.put, List.setIfInBounds_toArray, List.set_cons_zero, List.set_cons_succ]
      refine wpMix_held (Value.string (((name ++ ⟨#[32]⟩) ++ digM m) ++ ⟨#[32]⟩)) rfl hS (fun w' hw' => by obtain ⟨q1, q2, q3⟩ := hw'; go_simp <;> omega) ?_
      simp only [Act.put, List.setIfInBounds_toArray, List.set_cons_zero, List.set_cons_succ]
      refine wpMix_held (Value.slice (some ⟨bl, 0, none⟩) 9 9) rfl hS (fun w' hw' => by obtain ⟨q1, q2, q3⟩ := hw'; go_simp <;> omega) ?_
      simp only [Act.put, List.setIfInBounds_toArray, List.set_cons_zero, List.set_cons_succ]
      refine wpMix_held (Value.int .i64 (m : Int)) rfl hS (fun w' hw' => by obtain ⟨q1, q2, q3⟩ := hw'; go_simp <;> omega) ?_
      simp only [Act.put, List.setIfInBounds_toArray, List.set_cons_zero, List.set_cons_succ]
      refine wpMix_held (Value.pointer (some ⟨bl, m, none⟩)) rfl hS (fun w' hw' => by obtain ⟨q1, q2, q3⟩ := hw'; go_simp <;> omega) ?_
      simp only [Act.put, List.setIfInBounds_toArray, List.set_cons_zero, List.set_cons_succ]
      refine wpMix_held (Value.string (leadT m)) rfl hS (fun w' hw' => by obtain ⟨q1, q2, q3⟩ := hw'; go_simp <;> omega) ?_
      simp only [Act.put, List.setIfInBounds_toArray, List.set_cons_zero, List.set_cons_succ]
      refine wpMix_held (Value.string ((((name ++ ⟨#[32]⟩) ++ digM m) ++ ⟨#[32]⟩) ++ leadT m)) rfl hS (fun w' hw' => by obtain ⟨q1, q2, q3⟩ := hw'; go_simp <;> omega) ?_
      simp only [Act.put, List.setIfInBounds_toArray, List.set_cons_zero, List.set_cons_succ]
      refine wpMix_still (fun K hK => ?_)
      go_simp
      refine hK _ ?_
      clear hK K
      refine wpMix_still (fun K hK => ?_)
      go_simp
      refine hK _ ?_
      clear hK K
      refine wpMix_call ?_
      have hC := hF v h1' m
      go_wp2_with (with_reducible refine hC.mono ?_; rintro e w1 ⟨rfl, b1⟩)
      have hrow1 := rowB_below hrow' b1 (rowB_lt hrow')
      have hgl1 := rowB_below hgl' b1 (rowB_lt hgl')
      have hbl1 := rowB_below hbl' b1 (rowB_lt hbl')
      have y1 : w1.cell? ⟨bl, m, none⟩ = some (.string (leadT m)) := rowB_cell hbl1 m (by simp [leadT_get hmm])
      refine ⟨fun _ => ⟨rowB_cell hrow1 0 rfl, rowB_cell hgl1 0 rfl, y1⟩, ?_⟩
      have hown1 := strsO_below hown' b1
      have kw1 : keepT g w w1 := fun q t cs u1 u2 => by
        obtain ⟨u3, u4, u5⟩ := HK.out q t cs u1 u2
        refine ⟨rowB_below u3 b1 (rowB_lt u3), u4, fun a' n' c' u6 => u5 a' n' c' ?_⟩
        rw [rowB] at u6 hrow1
        rw [hrow1] at u6
        rw [← row_inj u6]
        exact hrow'
      have HK := Lib.hid kw1
      clear kw1
      have bel1 := hbel'.trans (b1.mono (Nat.le_trans hlo hbel'.size))
      have lo1 : lo ≤ w1.heap.size := Nat.le_trans hlo bel1.size
      clear hC hS hrow' hown' h1' hgl' hbl' b1 hbel'
      have hz1 : ¬ 9223372036854775807 < name.size + 1 + 1 + 1 + (leadT m).size + (F (m : Int)).size := by omega
      have hz2 : ¬ 9223372036854775807 < name.size + 3 + (leadT m).size + (F (m : Int)).size := by omega
      refine wpMix_still (fun K hK => ?_)
      go_simp
      refine hK _ ?_
      clear hK K
      refine wpMix_call ?_
      go_wp2_with fail
      have r2 := rowB_alloc hrow1 (.cells #[.string (lineT name F m)] 9)
      have gl2 := rowB_alloc hgl1 (.cells #[.string (lineT name F m)] 9)
      have bl2 := rowB_alloc hbl1 (.cells #[.string (lineT name F m)] 9)
      have y2 : (w1.alloc (.cells #[.string (lineT name F m)] 9)).cell? ⟨bl, m, none⟩ = some (.string (leadT m)) := rowB_cell bl2 m (by simp [leadT_get hmm])
      first | refine ⟨fun _ => ⟨rowB_cell r2 0 rfl, rowB_cell gl2 0 rfl, y2⟩, ?_⟩ | refine ⟨⟨rowB_cell r2 0 rfl, rowB_cell gl2 0 rfl, y2⟩, ?_⟩
      have o2 := strsO_below hown1 (below_one w1 (.cells #[.string (lineT name F m)] 9))
      have n2 := rowB_new w1 9 #[.string (lineT name F m)]
      have bel2 := bel1.alloc lo1 (.cells #[.string (lineT name F m)] 9)
      have HR1 := Lib.hid hrow1
      clear hrow1 hgl1 hbl1 hown1 gl2 bl2 y1 y2
      refine wpMix_call ?_
      go_wp2_with (at_builtin; refine wpList_str1 rfl _ _ rfl lo _ L rfl o2 w1.heap.size (lineT name F m) rfl n2 (by omega) ?b2 ?_)
      case b2 => simp; omega
      intro b3 n3 c3 w3 o3 g3 at3
      have row3 : rowB w3 g 27 #[.slice a n c] := (g3.block g (rowB_lt r2) (fun e => by have := own_tag o2 e.symm r2; cases this)).trans r2
      have bel3 := bel2.trans (own_grown o2 g3 (by simp; omega))
      have kw3 : ∀ q t cs, rowB w q t cs → sepT g w q → rowB w3 q t cs ∧ q ≠ g ∧ b3 ≠ q := fun q t cs u1 u2 => by
        obtain ⟨u3, u4, u5⟩ := HK.out q t cs u1 u2
        have u6 := u5 a n c HR1.out
        have u7 := rowB_alloc u3 (.cells #[.string (lineT name F m)] 9)
        have u8 := rowB_lt u3
        refine ⟨(g3.block q (rowB_lt u7) (fun e => u6 e.symm)).trans u7, u4, fun e1 => ?_⟩
        rcases at3 with e2 | e2
        · rw [e1] at e2; exact u6 e2
        · first | omega | (simp at e2; omega)
      have HK := Lib.hid kw3
      clear kw3
      clear r2 bel2 n2 o2 g3 at3 HR1
      have z3 := rowB_free row3 0
      have q3 : w3.cell? ⟨g, 0, none⟩ = some (.slice a n c) := rowB_cell row3 0 rfl
      go_wp2_with fail
      try refine ⟨fun h => (by cases h), ?_⟩
      refine wpMix_call ?_
      go_wp2_with fail
      try refine ⟨fun h => (by cases h), ?_⟩
      refine wpMix_nil ?_
      have r5 := rowB_set row3 0 (.slice (some ⟨b3, 0, none⟩) n3 c3)
      have s5 := safe_set (T := fun e => e ≠ 27) (j := 0) row3 (by simp) (.slice (some ⟨b3, 0, none⟩) n3 c3)
      have b5 : Below lo w (w3.setCell ⟨g, 0, none⟩ (.slice (some ⟨b3, 0, none⟩) n3 c3)) := bel3.setCell (by show lo ≤ g; omega) _
      have o5 : strsO lo _ _ _ := ownArr_safe o3 s5 (by decide)
      have k5 : keepT g w (w3.setCell ⟨g, 0, none⟩ (.slice (some ⟨b3, 0, none⟩) n3 c3)) := fun q t cs u1 u2 => by
        obtain ⟨u3, u4, u5⟩ := HK.out q t cs u1 u2
        refine ⟨rowB_other u3 ⟨g, 0, none⟩ _ (fun e => u4 e.symm), u4, fun a' n' c' u6 => ?_⟩
        have r5' := r5
        rw [rowB] at u6 r5'
        rw [r5'] at u6
        have u7 := row_inj u6
        rw [← u7]
        exact fun e => u5 (Option.some.inj e)
      have hO : strsO lo (w3.setCell ⟨g, 0, none⟩ (.slice (some ⟨b3, 0, none⟩) n3 c3)) (.slice (some ⟨b3, 0, none⟩) n3 c3) (l ++ (ms.take (k + 1)).map (lineT name F)) := by rw [HT.out]; exact o5
      have HR := Lib.hid (And.intro r5 (And.intro hO (And.intro k5 b5)))
      clear hO
      clear r5 s5 o5 k5 b5 z3 q3 row3 bel3 o3
      go_wp2_with fail
      go_roundw
      case rel => exact ⟨k + 1, some ⟨b3, 0, none⟩, n3, c3, by omega, by go_num, HR.out⟩
      case measure => simp [intOf]; omega
    · obtain rfl : k = ms.length := by omega
      rw [List.take_length] at hown
      go_wp2_with fail
      exact bodyPost_end (results_none rfl _ _ _) rfl ⟨rfl, ⟨hg, a, n, c, hrow, hown⟩, hbel, hkeep⟩
end Go.Proofs.YtbgjnegojoaimaaGreatDoor
