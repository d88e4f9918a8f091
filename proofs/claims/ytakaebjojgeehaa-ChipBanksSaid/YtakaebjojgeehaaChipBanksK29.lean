/- A part of the proof of ChipBanks: ChMemc. -/
import Derived.Test.YtakaebjojgeehaaChipBanksK01
import Derived.Test.YtakaebjojgeehaaChipBanksK02
import Derived.Test.YtakaebjojgeehaaChipBanksK03
import Derived.Test.YtakaebjojgeehaaChipBanksK04
import Derived.Test.YtakaebjojgeehaaChipBanksK05
import Derived.Test.YtakaebjojgeehaaChipBanksK06
import Derived.Test.YtakaebjojgeehaaChipBanksK07
import Derived.Test.YtakaebjojgeehaaChipBanksK08
import Derived.Test.YtakaebjojgeehaaChipBanksK09
import Derived.Test.YtakaebjojgeehaaChipBanksK11
import Derived.Test.YtakaebjojgeehaaChipBanksK15
import Derived.Test.YtakaebjojgeehaaChipBanksK16
import Derived.Test.YtakaebjojgeehaaChipBanksK17
import Derived.Test.YtakaebjojgeehaaChipBanksK18
import Derived.Test.YtakaebjojgeehaaChipBanksK19
import Derived.Test.YtakaebjojgeehaaChipBanksK20
import Derived.Test.YtakaebjojgeehaaChipBanksK21
import Derived.Test.YtakaebjojgeehaaChipBanksK22
import Derived.Test.YtakaebjojgeehaaChipBanksK23
import Derived.Test.YtakaebjojgeehaaChipBanksK28
import Derived.Below
import Derived.BigQuiet
import Derived.ChangeMaps5
import Derived.Deep.AppendSrc
import Derived.Deep.DeepAppendWide
import Derived.Deep.DeepCutAuto
import Derived.Deep.Draws
import Derived.Deep.MidRow
import Derived.Deep.OwnRows
import Derived.Deep.QuietTactic
import Derived.Deep.RegionHeld3
import Derived.Deep.RegionWith
import Derived.Deep.Slices
import Derived.Deep.WholeRow
import Derived.Laws.CopyOwn
import Derived.Laws.OwnMore
import Derived.Lib.Hide
import Derived.Lib.SmallJoins
import Derived.Maps.AppendAt
import Derived.OpenShut
import Derived.OrdersHeld
import Derived.OwnWalk
import Derived.RowKit3
import Derived.Shelf.Abstract
import Derived.StillTactics
import Derived.StillTail
import Derived.StillTailTactics
import Derived.Test.YtakaebjojgeehaaChecked
import Derived.WalkKit
namespace Go.Proofs.Ytakaebjojgeehaa
open Go.RowKit
set_option maxRecDepth 100000
/-- What is read, what is written. -/
def memRd (k z bk : Int) (m : List Int) (a : Int) : Int := if k = 2 ∧ a = 0 then bk else if 0 ≤ memAt k z bk m.length a then m.getD (memAt k z bk m.length a).toNat 0 else 0
def memWb (k z : Int) (nd : Nat) (bk a d : Int) : Int := if k = 2 ∧ a = 0 then lo d 8 % mbank nd (mwin z) else bk
def memWm (k z bk : Int) (m : List Int) (a d : Int) : List Int := if k = 1 ∨ memAt k z bk m.length a < 0 then m else m.set (memAt k z bk m.length a).toNat (lo d 8)
theorem setCell_row {w : World} {g : Nat} {t : TypeId} {cs ds : Array Value} (h : rowB w g t cs) (i : Nat) (v : Value) (hd : cs.setIfInBounds i v = ds) : w.setCell ⟨g, i, none⟩ v = w.setRow g ds := by
  rw [← hd]
  exact setCell_eq_setRow w g i cs t (0, 0) v h
theorem setRow_self {w : World} {g : Nat} {t : TypeId} {cs : Array Value} (h : rowB w g t cs) : w.setRow g cs = w := by
  have e : (w.setRow g cs).heap = w.heap := by
    refine Array.ext_getElem? fun i => ?_
    by_cases hi : i = g
    · subst hi
      rw [setRow_heap w i cs cs t (0, 0) h]
      exact h.symm
    · exact setRow_other w g i cs hi
  have e2 : w.setRow g cs = { w with heap := (w.setRow g cs).heap } := rfl
  rw [e2, e]
/-- A copy into a row: what becomes of the world, said outright. -/
theorem wpList_copy_row {P : Program} {w : World} {ops : Array Oper} {rest : List Oper} {o : Oper} {a : Act} {Q : Exit → Act → World → Prop} (hgd : o.guard = none) (d s : Operand) (dT sT : TypeId)
    (ho : o.op = .call { callee := .builtin .copy, args := #[d, s], argTypes := #[dT, sT] }) (elem : TypeId) (hu : P.underlying dT = some (.slice elem)) (hsz : (P.info? elem).map (·.size) = some 1)
    (dp sp : Option Addr) (dLen dCap sLen sCap : Nat) (hd : a.eval d = .slice dp dLen dCap) (hs : a.eval s = .slice sp sLen sCap)
    (g off : Nat) (cur : List Value) (t : TypeId) (hg : rowB w g t cur.toArray) (cs : List Value) (hn : cs.length = Nat.min sLen dLen)
    (hpos : 0 < cs.length → dp = some ⟨g, off, none⟩ ∧ ∃ ad, sp = some ad ∧ ∀ j v, cs[j]? = some v → w.cell? (ad.add j) = some v)
    (hfit : off + cs.length ≤ cur.length) (h1 : ∀ v ∈ cs, v.oneCell' = true)
    (h : wpList P ops Q rest (a.put o.dst (goInt cs.length)) (w.setRow g (splice cur off cs).toArray)) :
    wpList P ops Q (o :: rest) a w := by
  by_cases h0 : cs.length = 0
  · obtain rfl : cs = [] := List.eq_nil_of_length_eq_zero h0
    refine wpList_copy_nothing hgd d s dT sT ho elem hu hsz dp sp dLen dCap sLen sCap hd hs (by simpa using hn.symm) ?_
    have e : (splice cur off []).toArray = cur.toArray := by simp [splice]
    rw [e, setRow_self hg] at h
    exact h
  · obtain ⟨rfl, ad, rfl, hsrc⟩ := hpos (by omega)
    refine wpList_copy_own hgd d s dT sT ho elem hu hsz g off dLen dCap ad sLen sCap hd hs cur.toArray t hg cs hn hsrc (by simpa using hfit) h1 ?_
    simpa [splice] using h
theorem memAt_zero (z bk : Int) (n : Nat) : memAt 2 z bk n 0 = -1 := by unfold memAt; rw [if_pos rfl, if_neg (by omega)]
theorem wd8 : wd 8 = 8 := rfl
set_option maxHeartbeats 1000000 in
theorem mmRead_any {B y q : Nat} {nm : ByteArray} {k b z : Int} {da : Option Addr} {nd dc : Nat} {bk : Int} {m : List Int} {w : World} (h : stM B w y q nm k b z da nd dc bk m) (hm : ∀ x ∈ m, 0 ≤ x ∧ x < 256) (a : Int) (ha : -1 ≤ a ∧ a ≤ 4611686018427387904) (hd : nd ≤ 140737488351232) (hz : -9223372036854775808 ≤ z ∧ z ≤ 9223372036854775807) :
    Calls Try.prog 42 #[.pointer (some ⟨y, 0, none⟩), .int .i64 a] w fun e w' => e = .returned (.int .i64 (memRd k z bk m a)) ∧ Below w.heap.size w w' := by
  have hmb := memAt_bd h a
  have hpl := mmPlace_any h a ha hd hz
  have hlb := memSize_bd k z nd
  have hl := h.len
  unfold memRd
  by_cases h2 : k = 2 ∧ a = 0
  · rw [if_pos h2]
    obtain ⟨rfl, rfl⟩ := h2
    obtain ⟨⟨e0, e1, e2, e3, e4, e5, e6⟩, z5⟩ := h.cells
    go_enter Try.func42, Try.ntmps42
    go_wp2_with (go_at_call 54; refine (mmBankedT_any h).mono ?_; rintro e w' ⟨rfl, rfl⟩)
    go_ret
    exact ⟨rfl, Below.refl _ _⟩
  · rw [if_neg h2]
    obtain ⟨P, hP⟩ : ∃ P, memAt k z bk m.length a = P := ⟨_, rfl⟩
    rw [hP] at hmb hpl
    rw [hP]
    clear hP
    have hT : Calls Try.prog 54 #[.pointer (some ⟨y, 0, none⟩)] w fun e w' => e = .returned (.bool (decide (k = 2))) ∧ w = w' := by
      by_cases hk : k = 2
      · subst hk
        exact mmBankedT_any h
      · rw [decide_eq_false hk]
        exact mmBankedF_any h hk
    have hg : decide (k = 2) = false ∨ (decide (k = 2) = true ∧ (a == 0) = false) := by
      by_cases hk : k = 2
      · exact .inr ⟨decide_eq_true hk, beq_eq_false_iff_ne.2 (fun e => h2 ⟨hk, e⟩)⟩
      · exact .inl (decide_eq_false hk)
    obtain ⟨D, hD⟩ : ∃ D, decide (k = 2) = D := ⟨_, rfl⟩
    rw [hD] at hT hg
    clear hD h2
    have hB := fun w' (hb : Below w.heap.size w w') => h.below hb
    rcases hmb with rfl | ⟨p0, p1⟩
    · rw [if_neg (by decide)]
      rcases hg with rfl | ⟨rfl, hg⟩
      all_goals
        go_enter Try.func42, Try.ntmps42
        go_wp2_with (first
          | (go_at_call 54; refine hT.mono ?_; rintro e w' ⟨rfl, rfl⟩)
          | (go_at_call 65; refine hpl.mono ?_; rintro e w3 ⟨rfl, hb2⟩))
        go_ret
        exact ⟨rfl, hb2⟩
    · rw [if_pos p0]
      obtain ⟨i, rfl⟩ : ∃ i : Nat, P = i := ⟨P.toNat, by omega⟩
      rw [Int.toNat_natCast]
      have hi : i < m.length := by omega
      obtain ⟨X, hX⟩ : ∃ X, m.getD i 0 = X := ⟨_, rfl⟩
      have hXb : 0 ≤ X ∧ X < 256 := by
        rw [← hX, List.getD_eq_getElem?_getD, List.getElem?_eq_getElem hi]
        exact hm _ (List.getElem_mem hi)
      have wX : IntKind.i64.wrap X = X := IntWalk.i64_in _ (by omega)
      have wX2 : wrap64 X = X := IntWalk.wrap64_in _ (by omega)
      rw [hX]
      have hby : ∀ w', Below w.heap.size w w' → w'.cell? ⟨q, i, none⟩ = some (.int .u8 X) := fun w' hb => by rw [← hX]; exact ((hB w' hb).byte i hi).1
      obtain ⟨n, hn⟩ : ∃ n, m.length = n := ⟨_, rfl⟩
      rw [hn] at hi p1 hl
      clear hX hm
      rcases hg with rfl | ⟨rfl, hg⟩
      all_goals
        go_enter Try.func42, Try.ntmps42
        go_wp2_with (first
          | (go_at_call 54; refine hT.mono ?_; rintro e w' ⟨rfl, rfl⟩)
          | (go_at_call 65; refine hpl.mono ?_; rintro e w3 ⟨rfl, hb2⟩; obtain ⟨⟨e0, e1, e2, e3, e4, e5, e6⟩, z5⟩ := (hB _ hb2).cells; rw [hn] at e6; have c6 := hby _ hb2))
        go_ret
        exact ⟨rfl, hb2⟩
set_option maxHeartbeats 1000000 in
theorem mmWrite_any {B y q : Nat} {nm : ByteArray} {k b z : Int} {da : Option Addr} {nd dc : Nat} {bk : Int} {m : List Int} {w : World} (h : stM B w y q nm k b z da nd dc bk m) (a d : Int) (hk : k = 0 ∨ k = 1 ∨ k = 2) (ha : -1 ≤ a ∧ a ≤ 4611686018427387904) (hd : nd ≤ 140737488351232) (hz : -9223372036854775808 ≤ z ∧ z ≤ 9223372036854775807) :
    Calls Try.prog 35 #[.pointer (some ⟨y, 0, none⟩), .int .i64 a, .int .i64 d] w fun e w' => e = .returned (.tuple #[]) ∧ stM B w' y q nm k b z da nd dc (memWb k z nd bk a d) (memWm k z bk m a d) ∧ Below B w w' := by
  have hmb := memAt_bd h a
  have hlow := fun w => low_any d 8 w
  rw [wd8] at hlow
  have hdb : 0 ≤ lo d 8 ∧ lo d 8 < 256 := ⟨lo_nonneg _ _, lo_lt _ _⟩
  have hly : B ≤ w.heap.size := Nat.le_of_lt (Nat.lt_of_le_of_lt h.ly (rowB_lt h.row))
  obtain ⟨D, hD⟩ : ∃ D, lo d 8 = D := ⟨_, rfl⟩
  unfold memWb memWm
  rw [hD] at hlow hdb
  rw [hD]
  have wD : IntKind.u8.wrap D = D := by rw [IntKind.wrap_u8]; omega
  clear hD
  by_cases h2 : k = 2 ∧ a = 0
  · rw [if_pos h2]
    obtain ⟨rfl, rfl⟩ := h2
    rw [memAt_zero] at hmb
    rw [if_pos (.inr (by rw [memAt_zero]; decide))]
    have hch := mmChoose_any h D (by omega) hd hz
    obtain ⟨R, hR⟩ : ∃ R, D % mbank nd (mwin z) = R := ⟨_, rfl⟩
    rw [hR] at hch
    rw [hR]
    have hpl : ∀ w', stM B w' y q nm 2 b z da nd dc R m → Calls Try.prog 65 #[.pointer (some ⟨y, 0, none⟩), .int .i64 0] w' fun e w2 => e = .returned (.int .i64 (-1)) ∧ Below w'.heap.size w' w2 := fun w' h' => by
      have := mmPlace_any h' 0 (by omega) hd hz
      rw [memAt_zero] at this
      exact this
    clear hR
    have HPL := Lib.hid hpl
    have HCH := Lib.hid hch
    clear hpl hch
    go_enter Try.func35, Try.ntmps35
    go_wp2_with (first
      | (go_at_call 16; refine (hlow _).mono ?_; rintro e w' ⟨rfl, rfl⟩)
      | (go_at_call 54; refine (mmBankedT_any h).mono ?_; rintro e w' ⟨rfl, rfl⟩)
      | (go_at_call 55; refine HCH.out.mono ?_; rintro e w3 ⟨rfl, h3, hb3⟩)
      | (go_at_call 65; refine (HPL.out _ h3).mono ?_; rintro e w4 ⟨rfl, hb4⟩))
    first | refine bodyPost_end (results_none rfl _ _ _) rfl ?_ | refine bodyPost_ret (results_none rfl _ _ _) rfl ?_
    exact ⟨rfl, h3.below hb4, hb3.trans (hb4.mono (Nat.le_of_lt (Nat.lt_of_le_of_lt h3.ly (rowB_lt h3.row))))⟩
  · rw [if_neg h2]
    have hpl := mmPlace_any h a ha hd hz
    have hT : Calls Try.prog 54 #[.pointer (some ⟨y, 0, none⟩)] w fun e w' => e = .returned (.bool (decide (k = 2))) ∧ w = w' := by
      by_cases hk : k = 2
      · subst hk
        exact mmBankedT_any h
      · rw [decide_eq_false hk]
        exact mmBankedF_any h hk
    have hg : decide (k = 2) = false ∨ (decide (k = 2) = true ∧ (a == 0) = false) := by
      by_cases hk : k = 2
      · exact .inr ⟨decide_eq_true hk, beq_eq_false_iff_ne.2 (fun e => h2 ⟨hk, e⟩)⟩
      · exact .inl (decide_eq_false hk)
    obtain ⟨T, hTT⟩ : ∃ T, decide (k = 2) = T := ⟨_, rfl⟩
    rw [hTT] at hT hg
    clear hTT h2
    have hB := fun w' (hb : Below w.heap.size w w') => h.below hb
    obtain ⟨P, hP⟩ : ∃ P, memAt k z bk m.length a = P := ⟨_, rfl⟩
    rw [hP] at hmb hpl
    rw [hP]
    clear hP
    by_cases hPn : P < 0
    · rw [if_pos (.inr hPn)]
      have d1 : decide (0 ≤ P) = false := decide_eq_false (by omega)
      rcases hg with rfl | ⟨rfl, hg⟩
      all_goals
        go_enter Try.func35, Try.ntmps35
        go_wp2_with (first
          | (go_at_call 16; refine (hlow _).mono ?_; rintro e w' ⟨rfl, rfl⟩)
          | (go_at_call 54; refine hT.mono ?_; rintro e w' ⟨rfl, rfl⟩)
          | (go_at_call 65; refine hpl.mono ?_; rintro e w3 ⟨rfl, hb2⟩))
        first | refine bodyPost_end (results_none rfl _ _ _) rfl ?_ | refine bodyPost_ret (results_none rfl _ _ _) rfl ?_
        exact ⟨rfl, hB _ hb2, hb2.mono hly⟩
    · by_cases h1 : k = 1
      · rw [if_pos (.inl h1)]
        subst h1
        have d1 : decide (0 ≤ P) = true := decide_eq_true (by omega)
        rcases hg with rfl | ⟨rfl, hg⟩
        all_goals
          go_enter Try.func35, Try.ntmps35
          go_wp2_with (first
            | (go_at_call 16; refine (hlow _).mono ?_; rintro e w' ⟨rfl, rfl⟩)
            | (go_at_call 54; refine hT.mono ?_; rintro e w' ⟨rfl, rfl⟩)
            | (go_at_call 65; refine hpl.mono ?_; rintro e w3 ⟨rfl, hb2⟩; obtain ⟨⟨e0, e1, e2, e3, e4, e5, e6⟩, z5⟩ := (hB _ hb2).cells))
          first | refine bodyPost_end (results_none rfl _ _ _) rfl ?_ | refine bodyPost_ret (results_none rfl _ _ _) rfl ?_
          exact ⟨rfl, hB _ hb2, hb2.mono hly⟩
      · rw [if_neg (by omega)]
        obtain ⟨i, rfl⟩ : ∃ i : Nat, P = i := ⟨P.toNat, by omega⟩
        rw [Int.toNat_natCast]
        have hi : i < m.length := by omega
        have q1 : (k != 1) = true := by simpa using h1
        have hby : ∀ w', Below w.heap.size w w' → w'.cell? ⟨q, i, none⟩ = some (.int .u8 (m.getD i 0)) ∧ w'.frozen? ⟨q, i, none⟩ = false := fun w' hb => (hB w' hb).byte i hi
        obtain ⟨n, hn⟩ : ∃ n, m.length = n := ⟨_, rfl⟩
        rw [hn] at hi hmb
        have hnb : n ≤ 140737488420864 := by have := memSize_bd k z nd; have := h.len; omega
        have hlq := h.lq
        clear hPn h1 hk
        rcases hg with rfl | ⟨rfl, hg⟩
        all_goals
          go_enter Try.func35, Try.ntmps35
          go_wp2_with (first
            | (go_at_call 16; refine (hlow _).mono ?_; rintro e w' ⟨rfl, rfl⟩)
            | (go_at_call 54; refine hT.mono ?_; rintro e w' ⟨rfl, rfl⟩)
            | (go_at_call 65; refine hpl.mono ?_; rintro e w3 ⟨rfl, hb2⟩; obtain ⟨⟨e0, e1, e2, e3, e4, e5, e6⟩, z5⟩ := (hB _ hb2).cells; rw [hn] at e6; obtain ⟨c6, f6⟩ := hby _ hb2))
          first | refine bodyPost_end (results_none rfl _ _ _) rfl ?_ | refine bodyPost_ret (results_none rfl _ _ _) rfl ?_
          exact ⟨rfl, (hB _ hb2).put i D, (hb2.mono hly).setCell (p := ⟨q, i, none⟩) hlq _⟩
set_option maxHeartbeats 1000000 in
theorem mmDev_any {B y q : Nat} {nm : ByteArray} {k b z : Int} {da : Option Addr} {nd dc : Nat} {bk : Int} {m : List Int} {w : World} (h : stM B w y q nm k b z da nd dc bk m) (hd : nd ≤ 140737488351232) :
    Calls Try.prog 27 #[.pointer (some ⟨y, 0, none⟩)] w fun e w' => ∃ u, e = .returned u ∧ memR w' u (if k = 2 then [bk] else []) m ∧ Below w.heap.size w w' := by
  have hlb : m.length ≤ 9223372036854775807 := by have := memSize_bd k z nd; have := h.len; omega
  obtain ⟨ns, hns⟩ : ∃ ns, (if k = 2 then [bk] else []) = ns := ⟨_, rfl⟩
  rw [hns]
  have HNS := Lib.hid hns
  clear hns
  obtain ⟨k0, k1, bW, sW⟩ := boxes2 w (.cells #[.slice none 0 0, .slice none 0 0] 34) (.cells #[.slice none 0 0, .slice none 0 0] 34)
  have k0 : rowB _ _ _ _ := k0
  have k1 : rowB _ _ _ _ := k1
  have h2 := h.below bW
  have hlt := rowB_lt h.row
  have hlq := rowB_lt h.bts
  have hA := h.below (boxes1 w (.cells #[.slice none 0 0, .slice none 0 0] 34)).2.1
  obtain ⟨⟨e0, e1, e2, e3, e4, e5, e6⟩, z5⟩ := hA.cells
  obtain ⟨n, hn⟩ : ∃ n, m.length = n := ⟨_, rfl⟩
  rw [hn] at e6 hlb
  have hbq := bytB_arg (l := m) h2.bts (by omega)
  rw [hn] at hbq
  go_enter Try.func27, Try.ntmps27
  go_upto_region 2 with (refine wpList_storeR rfl 34 _ _ rfl (w.heap.size + 1) rfl #[.slice none 0 0, .slice (some ⟨q, 0, none⟩) n n] rfl (dev2_one _ _ _ _ _ _) 34 #[.slice none 0 0, .slice none 0 0] rfl ?_ agDv ?_; with_reducible exact k1)
  have hbx := isByt_box k1 (fun n h => by cases h) (fun n h => by cases h) hbq #[.slice none 0 0, .slice (some ⟨q, 0, none⟩) n n]
  have hst : stM B (((w.alloc (.cells #[.slice none 0 0, .slice none 0 0] 34)).alloc (.cells #[.slice none 0 0, .slice none 0 0] 34)).setRow (w.heap.size + 1) #[.slice none 0 0, .slice (some ⟨q, 0, none⟩) n n]) y q nm k b z da nd dc bk m :=
    ⟨rowB_row_other h2.row _ (by omega), rowB_row_other h2.bts _ (by omega), h.ne, h.ly, h.lq, h.len, h.bk0⟩
  replace k0 := rowB_row_other k0 #[.slice none 0 0, .slice (some ⟨q, 0, none⟩) n n] (show w.heap.size + 1 ≠ w.heap.size by omega)
  replace k1 := rowB_row k1 #[.slice none 0 0, .slice (some ⟨q, 0, none⟩) n n]
  replace bW := below_rowR bW #[.slice none 0 0, .slice (some ⟨q, 0, none⟩) n n] (show w.heap.size ≤ w.heap.size + 1 by omega)
  have sR : (((w.alloc (.cells #[.slice none 0 0, .slice none 0 0] 34)).alloc (.cells #[.slice none 0 0, .slice none 0 0] 34)).setRow (w.heap.size + 1) #[.slice none 0 0, .slice (some ⟨q, 0, none⟩) n n]).heap.size = w.heap.size + 2 := by rw [size_row]; exact sW
  clear e0 e1 e2 e3 e4 e5 e6 z5 h2 hbq sW hA
  change Code.wp _ _ _ _ (((w.alloc (.cells #[.slice none 0 0, .slice none 0 0] 34)).alloc (.cells #[.slice none 0 0, .slice none 0 0] 34)).setRow (w.heap.size + 1) #[.slice none 0 0, .slice (some ⟨q, 0, none⟩) n n])
  generalize ((w.alloc (.cells #[.slice none 0 0, .slice none 0 0] 34)).alloc (.cells #[.slice none 0 0, .slice none 0 0] 34)).setRow (w.heap.size + 1) #[.slice none 0 0, .slice (some ⟨q, 0, none⟩) n n] = w1 at *
  by_cases hk : k = 2
  · subst hk
    obtain rfl : ns = [bk] := by rw [← HNS.out, if_pos rfl]
    obtain ⟨⟨e0, e1, e2, e3, e4, e5, e6⟩, z5⟩ := hst.cells
    rw [hn] at e6
    obtain ⟨G, hG⟩ : ∃ G, w1.heap.size = G := ⟨_, rfl⟩
    have HG := Lib.hid hG
    have n0 := rowB_new w1 3 #[.int .i64 bk]
    rw [hG] at n0
    have t0 := rowB_alloc k0 (.cells #[.int .i64 bk] 3)
    have t1 := rowB_alloc k1 (.cells #[.int .i64 bk] 3)
    have bV := bW.alloc bW.size (.cells #[.int .i64 bk] 3)
    have hby := isByt_below hbx ((Below.refl w1.heap.size w1).alloc (Nat.le_refl _) (.cells #[.int .i64 bk] 3)) (Nat.le_refl _)
    obtain ⟨x0, x1, y0, y1⟩ := dcells2 t1
    have lG : w.heap.size + 2 ≤ G := by omega
    clear sR
    go_upto_region 4 with (go_at_call 54; refine (mmBankedT_any hst).mono ?_; rintro e w' ⟨rfl, rfl⟩)
    try rw [HG.out]
    change Code.wp _ _ _ _ ((w1.alloc (.cells #[.int .i64 bk] 3)).setCell ⟨w.heap.size + 1, 0, none⟩ (.slice (some ⟨G, 0, none⟩) 1 1))
    have hby2 := isByt_box t1 (fun n h => by cases h) (fun n h => by cases h) hby #[.slice (some ⟨G, 0, none⟩) 1 1, .slice (some ⟨q, 0, none⟩) n n]
    clear x0 x1 y0 y1 e0 e1 e2 e3 e4 e5 e6 z5 hst
    generalize w1.alloc (.cells #[.int .i64 bk] 3) = w2 at *
    have eR : w2.setCell ⟨w.heap.size + 1, 0, none⟩ (.slice (some ⟨G, 0, none⟩) 1 1) = w2.setRow (w.heap.size + 1) #[.slice (some ⟨G, 0, none⟩) 1 1, .slice (some ⟨q, 0, none⟩) n n] := setCell_row t1 0 _ rfl
    rw [eR]
    replace n0 := rowB_row_other n0 #[.slice (some ⟨G, 0, none⟩) 1 1, .slice (some ⟨q, 0, none⟩) n n] (show w.heap.size + 1 ≠ G by omega)
    replace t0 := rowB_row_other t0 #[.slice (some ⟨G, 0, none⟩) 1 1, .slice (some ⟨q, 0, none⟩) n n] (show w.heap.size + 1 ≠ w.heap.size by omega)
    replace bV := below_rowR bV #[.slice (some ⟨G, 0, none⟩) 1 1, .slice (some ⟨q, 0, none⟩) n n] (show w.heap.size ≤ w.heap.size + 1 by omega)
    replace t1 := rowB_row t1 #[.slice (some ⟨G, 0, none⟩) 1 1, .slice (some ⟨q, 0, none⟩) n n]
    clear eR hby hbx k0 k1 bW
    generalize w2.setRow (w.heap.size + 1) #[.slice (some ⟨G, 0, none⟩) 1 1, .slice (some ⟨q, 0, none⟩) n n] = w3 at *
    go_wp2_with (first
      | (refine wpList_loadR rfl 34 _ rfl (w.heap.size + 1) rfl 34 #[.slice (some ⟨G, 0, none⟩) 1 1, .slice (some ⟨q, 0, none⟩) n n] ?_ agDv ?_; with_reducible exact t1)
      | (refine wpList_storeR rfl 34 _ _ rfl w.heap.size rfl #[.slice (some ⟨G, 0, none⟩) 1 1, .slice (some ⟨q, 0, none⟩) n n] rfl (dev2_one _ _ _ _ _ _) 34 #[.slice none 0 0, .slice none 0 0] rfl ?_ agDv ?_; with_reducible exact t0))
    refine bodyPost_ret (resultsR rfl w.heap.size _ rfl (rowB_row t0 _) agDv) rfl ?_
    exact ⟨_, rfl, ⟨_, _, rfl, numB_arg (l := [bk]) (rowB_row_other n0 _ (by omega)) (by show 1 ≤ 9223372036854775807; decide), isByt_box t0 (fun n h => by cases h) (fun n h => by cases h) hby2 _⟩, below_rowR bV _ (Nat.le_refl _)⟩
  · obtain rfl : ns = [] := by rw [← HNS.out, if_neg hk]
    have q2 : (k == 2) = false := beq_eq_false_iff_ne.2 hk
    go_wp2_with (first
      | (go_at_call 54; refine (mmBankedF_any hst hk).mono ?_; rintro e w' ⟨rfl, rfl⟩)
      | (refine wpList_loadR rfl 34 _ rfl (w.heap.size + 1) rfl 34 #[.slice none 0 0, .slice (some ⟨q, 0, none⟩) n n] ?_ agDv ?_; with_reducible exact k1)
      | (refine wpList_storeR rfl 34 _ _ rfl w.heap.size rfl #[.slice none 0 0, .slice (some ⟨q, 0, none⟩) n n] rfl (dev2_one _ _ _ _ _ _) 34 #[.slice none 0 0, .slice none 0 0] rfl ?_ agDv ?_; with_reducible exact k0))
    refine bodyPost_ret (resultsR rfl w.heap.size _ rfl (rowB_row k0 _) agDv) rfl ?_
    exact ⟨_, rfl, ⟨_, _, rfl, .inl ⟨none, 0, rfl, rfl⟩, isByt_box k0 (fun n h => by cases h) (fun n h => by cases h) hbx _⟩, below_rowR bW _ (Nat.le_refl _)⟩
/-- The bank of a memory whose numbers are l. -/
def bankOf (k z : Int) (nd : Nat) (l : List Int) : Int := if k = 2 then l.getD 0 0 % mbank nd (mwin z) else 0
set_option maxHeartbeats 2000000 in
theorem mmLoad_any (nm : ByteArray) (k b z : Int) (da : Option Addr) (nd dc : Nat) (v vm : Value) (l lb : List Int) (w : World) (h : isArg w v l) (hm : isByt w vm lb) (hwf : ∀ x ∈ l, (Lit.int .i64 x).wf = true) (hd : nd ≤ 140737488351232) (hz : -9223372036854775808 ≤ z ∧ z ≤ 9223372036854775807) :
    Calls Try.prog 26 #[.agg (chip5 nm k b z (.slice da nd dc)), .agg #[v, vm]] w fun e w' => ∃ y q, e = .returned (.pointer (some ⟨y, 0, none⟩)) ∧ stM w.heap.size w' y q nm k b z da nd dc (bankOf k z nd l) (pad (memSize k z nd) lb) ∧ Below w.heap.size w w' := by
  have hlen := fun w => chLength_any nm k b z da nd dc w hd hz
  have hnb := memSize_bd k z nd
  obtain ⟨n, hn⟩ : ∃ n, memSize k z nd = n := ⟨_, rfl⟩
  simp only [hn] at hlen
  rw [hn] at hnb
  rw [hn]
  have HN := Lib.hid hn
  clear hn
  dsimp only [chip5] at *
  obtain ⟨a, cap, rfl, hf⟩ := isArg_form h
  clear hf
  obtain ⟨X1, hX1⟩ : ∃ X1, X1 = (lb.take n).map (Value.int .u8) := ⟨_, rfl⟩
  obtain ⟨Z1, hZ1⟩ : ∃ Z1, Z1 = (List.replicate n (0 : Int)).map (Value.int .u8) := ⟨_, rfl⟩
  have hsp : (splice Z1 0 X1).toArray = byts (pad n lb) := by rw [hX1, hZ1]; exact splice_pad n lb
  have hXl : X1.length = Nat.min lb.length n := by rw [hX1, List.length_map, List.length_take]; exact Nat.min_comm _ _
  have hX1c : ∀ x ∈ X1, x.oneCell' = true := fun x hx => by
    rw [hX1] at hx
    obtain ⟨y, _, rfl⟩ := List.mem_map.1 hx
    rfl
  have hZl : Z1.length = n := by rw [hZ1]; simp
  have hZa : madeCells #[.int .u8 0] n = Z1.toArray := by rw [made_byts, hZ1]; rfl
  have hfit : 0 + X1.length ≤ Z1.length := by rw [hZl, hXl, Nat.zero_add]; exact Nat.min_le_right lb.length n
  obtain ⟨ii, i1, i2, i3, i4⟩ := infoBt
  have hsz : (Try.prog.info? 5).map (·.size) = some 1 := by rw [i1]; exact congrArg some i3
  have HSP := Lib.hid hsp
  have HXL := Lib.hid hXl
  have HX1C := Lib.hid hX1c
  have HFIT := Lib.hid hfit
  have HX := Lib.hid hX1
  have hz0 : ∀ v ∈ Z1, v = Value.int .u8 0 := fun v hv => by rw [hZ1] at hv; obtain ⟨x, hx, rfl⟩ := List.mem_map.1 hv; rw [List.eq_of_mem_replicate hx]
  have HZ0 := Lib.hid hz0
  have HZA := Lib.hid hZa
  have HWF := Lib.hid hwf
  clear hsp hXl hX1c hfit hX1 hZa hZ1 hZl hwf hz0
  obtain ⟨sp, sc, rfl, _⟩ := isByt_src hm n
  obtain ⟨k0, k1, bW, sW⟩ := boxes2 w (.cells #[.string nm, .int .i64 k, .int .i64 b, .int .i64 z, .slice da nd dc] 24) (.cells #[.slice a l.length cap, .slice sp lb.length sc] 34)
  have k0 : rowB _ _ _ _ := k0
  have k1 : rowB _ _ _ _ := k1
  have hA := isArg_below h bW (Nat.le_refl _)
  have hM := isByt_below hm bW (Nat.le_refl _)
  clear h hm
  go_enter Try.func26, Try.ntmps26
  go_upto_region 1 with (fail)
  change Code.wp _ _ _ _ ((w.alloc (.cells #[.string nm, .int .i64 k, .int .i64 b, .int .i64 z, .slice da nd dc] 24)).alloc (.cells #[.slice a l.length cap, .slice sp lb.length sc] 34))
  generalize (w.alloc (.cells #[.string nm, .int .i64 k, .int .i64 b, .int .i64 z, .slice da nd dc] 24)).alloc (.cells #[.slice a l.length cap, .slice sp lb.length sc] 34) = w1 at *
  have hS := (Below.refl w1.heap.size w1).drew
  refine wp_region_mix (fun w' => Below w1.heap.size w1 w') [(0, 1), (1, 1), (2, 3), (3, 3), (4, 2), (5, 2), (6, 0)] (by kernel_rfl) (by kernel_rfl) (fun _ _ _ _ _ h => h) ?_
  simp only [List.map_cons, List.map_nil, opOf, List.getD_cons_zero, List.getD_cons_succ]
  change wpMix _ _ _ _ _ _ w1.drew
  refine wpMix_held (.agg #[.string nm, .int .i64 k, .int .i64 b, .int .i64 z, .slice da nd dc]) rfl hS (fun w' hw' => exec_rowR 24 _ rfl w.heap.size rfl 24 #[.string nm, .int .i64 k, .int .i64 b, .int .i64 z, .slice da nd dc] (rowB_below k0 hw' (rowB_lt k0)) agCh) ?_
  simp only [Act.put, List.setIfInBounds_toArray, List.set_cons_zero, List.set_cons_succ]
  refine wpMix_held (.agg #[.string nm, .int .i64 k, .int .i64 b, .int .i64 z, .slice da nd dc]) rfl hS (fun w' hw' => exec_rowR 24 _ rfl w.heap.size rfl 24 #[.string nm, .int .i64 k, .int .i64 b, .int .i64 z, .slice da nd dc] (rowB_below k0 hw' (rowB_lt k0)) agCh) ?_
  simp only [Act.put, List.setIfInBounds_toArray, List.set_cons_zero, List.set_cons_succ]
  refine wpMix_call ?_
  go_wp2_with (go_at_call 53; refine (hlen _).mono ?_; rintro e w3 ⟨rfl, hb⟩; replace hS := hS.trans (hb.mono hS.size); clear hb)
  first | refine ⟨fun _ => hS, ?_⟩ | refine ⟨hS, ?_⟩ | refine And.intro (fun _ => hS) ?_
  refine wpMix_call ?_
  go_wp2_with (at_make; refine wpList_make_row _ rfl _ _ _ rfl 5 ii (.int .u8 0) Try.underlying22 i1 i2 i3 rfl _ _ n rfl rfl (by rw [i4]; omega) (by omega) ?_; rw [HZA.out])
  have hS3 := hS
  replace hS := hS.alloc hS.size (.cells Z1.toArray 5)
  first | refine ⟨fun _ => hS, ?_⟩ | refine ⟨hS, ?_⟩ | refine And.intro (fun _ => hS) ?_
  refine wpMix_call ?_
  go_wp2_with fail
  try refine ⟨fun h => (by cases h), ?_⟩
  refine wpMix_call ?_
  go_wp2_with fail
  try refine ⟨fun h => (by cases h), ?_⟩
  (refine wpMix_still (fun K hK => ?_); go_simp; refine hK _ ?_; clear hK K)
  refine wpMix_nil ?_
  obtain ⟨q, hq⟩ : ∃ q, w3.heap.size = q := ⟨_, rfl⟩
  have n0 := rowB_alloc (rowB_new w3 5 Z1.toArray) (.cells #[.string nm, .int .i64 k, .int .i64 b, .int .i64 z, .slice da nd dc, .int .i64 0, .slice (some ⟨w3.heap.size, 0, none⟩) n n] 58)
  have m0 := rowB_new (w3.alloc (.cells Z1.toArray 5)) 58 #[.string nm, .int .i64 k, .int .i64 b, .int .i64 z, .slice da nd dc, .int .i64 0, .slice (some ⟨w3.heap.size, 0, none⟩) n n]
  rw [World.size_alloc] at m0
  have hS2 := hS.alloc hS.size (.cells #[.string nm, .int .i64 k, .int .i64 b, .int .i64 z, .slice da nd dc, .int .i64 0, .slice (some ⟨w3.heap.size, 0, none⟩) n n] 58)
  replace k1 := rowB_below k1 hS2 (rowB_lt k1)
  have bV := bW.trans (hS2.mono bW.size)
  replace hA := isArg_below hA hS2 (Nat.le_refl _)
  replace hM := isByt_below hM hS2 (Nat.le_refl _)
  have lq : w.heap.size + 2 ≤ q := by have := hS3.size; omega
  go_upto_region 2 with (fail)
  change Code.wp _ _ _ _ ((w3.alloc (.cells Z1.toArray 5)).alloc (.cells #[.string nm, .int .i64 k, .int .i64 b, .int .i64 z, .slice da nd dc, .int .i64 0, .slice (some ⟨w3.heap.size, 0, none⟩) n n] 58))
  rw [hq] at n0 m0 k1 bV hA hM hS2
  rw [hq]
  clear hS hS2 hS3 k0 bW sW hq hlen
  generalize (w3.alloc (.cells Z1.toArray 5)).alloc (.cells #[.string nm, .int .i64 k, .int .i64 b, .int .i64 z, .slice da nd dc, .int .i64 0, .slice (some ⟨q, 0, none⟩) n n] 58) = w4 at *
  have hk1 : rowB w4.drew (w.heap.size + 1) 34 _ := k1
  have hm0 : rowB w4.drew (q + 1) 58 _ := m0
  have hn0 : rowB w4.drew q 5 _ := n0
  have hA' := isArg_below hA (Below.refl w4.heap.size w4).drew (Nat.le_refl _)
  have hM' := isByt_below hM (Below.refl w4.heap.size w4).drew (Nat.le_refl _)
  have bV' := bV.drew
  clear k1 m0 n0 hA hM bV
  obtain ⟨sp', sc', e', hsrc⟩ := isByt_src hM' n
  cases e'
  rw [← HX.out] at hsrc
  have HSRC := Lib.hid hsrc
  clear hsrc
  refine wp_region_mix (fun _ => True) [(0, 0), (1, 0), (2, 0), (3, 0), (4, 0), (5, 0), (6, 2)] (by kernel_rfl) (by kernel_rfl) (fun _ _ _ _ _ h => h) ?_
  simp only [List.map_cons, List.map_nil, opOf, List.getD_cons_zero, List.getD_cons_succ]
  change wpMix _ _ _ _ _ _ w4.drew
  generalize w4.drew = w5 at *
  obtain ⟨d0, d1, _, _⟩ := dcells2 hk1
  have e6 := rowB_cell hm0 6 rfl
  (refine wpMix_still (fun K hK => ?_); go_simp; refine hK _ ?_; clear hK K)
  (refine wpMix_still (fun K hK => ?_); go_simp; refine hK _ ?_; clear hK K)
  (refine wpMix_still (fun K hK => ?_); go_simp; refine hK _ ?_; clear hK K)
  (refine wpMix_still (fun K hK => ?_); go_simp; refine hK _ ?_; clear hK K)
  (refine wpMix_still (fun K hK => ?_); go_simp; refine hK _ ?_; clear hK K)
  (refine wpMix_still (fun K hK => ?_); go_simp; refine hK _ ?_; clear hK K)
  refine wpMix_call ?_
  go_wp2_with (refine wpList_copy_row (o := ⟨some 18, _, _, _, _, _⟩) rfl _ _ 22 22 rfl 5 Try.underlying22 hsz (some ⟨q, 0, none⟩) sp n n lb.length sc rfl rfl q 0 Z1 5 hn0 X1 HXL.out (fun hp => ⟨rfl, HSRC.out hp⟩) HFIT.out HX1C.out ?_; rw [HSP.out])
  try refine ⟨fun h => (by cases h), ?_⟩
  refine wpMix_nil ?_
  replace hm0 := rowB_row_other hm0 (byts (pad n lb)) (show q ≠ q + 1 by omega)
  replace hk1 := rowB_row_other hk1 (byts (pad n lb)) (show q ≠ w.heap.size + 1 by omega)
  replace bV' := below_rowR bV' (byts (pad n lb)) (show w.heap.size ≤ q by omega)
  have hst : stM w.heap.size (w5.setRow q (byts (pad n lb))) (q + 1) q nm k b z da nd dc 0 (pad n lb) := by
    refine ⟨?_, rowB_row hn0 _, by omega, by omega, by omega, by rw [pad_len]; exact HN.out.symm, by omega, ?_⟩
    · rw [pad_len]
      exact hm0
    · split
      · exact (mbank_bd nd (mwin z) (mwin_bd z).1).1
      · decide
  have hL : isArg (w5.setRow q (byts (pad n lb))) (.slice a l.length cap) l := by
    rcases hA' with h | ⟨bb, off, cc, e, h1, h2, h3, h4⟩
    · exact .inl h
    · refine .inr ⟨bb, off, cc, e, by rw [size_row]; exact h1, h2, h3, fun j hj => ?_⟩
      have hc := h4 j hj
      by_cases hb : bb = q
      · subst hb
        have : w5.cell? ⟨bb, off + j, none⟩ = (Z1.toArray)[off + j]? := cell_of_row w5 bb _ _ _ (0, 0) hn0
        rw [this] at hc
        have hz : ∀ v ∈ Z1, v = .int .u8 0 := HZ0.out
        have := hz _ (by simpa using Array.mem_of_getElem? hc)
        cases this
      · rw [cell_setRow_other _ _ _ _ hb]
        exact hc
  clear hm0 hn0 hA' hM' HSRC d0 d1 e6
  go_upto_region 3 with (fail)
  change Code.wp _ _ _ _ (w5.setRow q (byts (pad n lb)))
  generalize w5.setRow q (byts (pad n lb)) = w6 at *
  by_cases hk : k = 2
  · subst hk
    have eB : ∀ x, bankOf 2 z nd x = x.getD 0 0 % mbank nd (mwin z) := fun x => by unfold bankOf; rw [if_pos rfl]
    have EB := Lib.hid eB
    clear eB
    obtain ⟨d0, d1, _, _⟩ := dcells2 hk1
    cases l with
    | nil =>
      go_wp2_with (go_at_call 54; refine (mmBankedT_any hst).mono ?_; rintro e w' ⟨rfl, rfl⟩)
      go_ret
      refine ⟨q + 1, q, rfl, ?_, bV'⟩
      rw [EB.out, show ([] : List Int).getD 0 0 = 0 from rfl, Int.zero_emod]
      exact hst
    | cons x l' =>
      have hx := bounds_i64 (HWF.out x (List.mem_cons_self ..))
      obtain ⟨bb, off, rfl, c0⟩ : ∃ bb off, a = some ⟨bb, off, none⟩ ∧ w6.cell? ⟨bb, off, none⟩ = some (.int .i64 x) := by
        rcases hL with ⟨_, _, _, h⟩ | ⟨bb, off, cc, e, h1, h2, h3, h4⟩
        · cases h
        · cases e
          exact ⟨bb, off, rfl, h4 0 (Nat.succ_pos _)⟩
      have kl : (x :: l').length = l'.length + 1 := rfl
      rw [kl] at d0
      have hp : (0 : Int) < ((l'.length + 1 : Nat) : Int) := by omega
      have hp2 : 0 < l'.length + 1 := by omega
      clear hL
      go_wp2_with (first
        | (go_at_call 54; refine (mmBankedT_any hst).mono ?_; rintro e w' ⟨rfl, rfl⟩)
        | (go_at_call 55; refine (mmChoose_any hst x hx hd hz).mono ?_; rintro e w7 ⟨rfl, h7, hb7⟩))
      go_ret
      refine ⟨q + 1, q, rfl, ?_, bV'.trans hb7⟩
      rw [EB.out]
      exact h7
  · have eB : bankOf k z nd l = 0 := by unfold bankOf; rw [if_neg hk]
    have EB := Lib.hid eB
    clear eB
    go_wp2_with (go_at_call 54; refine (mmBankedF_any hst hk).mono ?_; rintro e w' ⟨rfl, rfl⟩)
    go_ret
    exact ⟨q + 1, q, rfl, by rw [EB.out]; exact hst, bV'⟩
end Go.Proofs.Ytakaebjojgeehaa
