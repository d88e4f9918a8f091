/- What the library's texts do here: strings.Join, strings.Fields, strings.Cut, strings.TrimSpace. -/
import Derived.Test.YtbgjnegojoaimaaGreatDoorStdCyT
import Derived.Test.YtbgjnegojoaimaaGreatDoorShelf
import Derived.WalkSmall
namespace Go.Proofs.YtbgjnegojoaimaaGreatDoor
open Go.RowKit
set_option maxRecDepth 100000

theorem join_std : joinsC Tryz.prog 40 := fun bk o c xs sep w h1 h2 h3 h4 h5 =>
  Tryz.strings_Join bk o c xs sep w h1 h2 (by omega) h4 (by
    have e : (joinB xs sep).size = (Lib.join (xs.map (·.data.toList)) sep.data.toList).length := by
      show (Lib.join (xs.map (·.data.toList)) sep.data.toList).toArray.size = _
      rw [List.size_toArray]
    omega)
/-- The library's variables that these calls read. -/
def libW (w : World) : Prop := Lib.TabIs Tryz.prog w "strings.asciiSpace" .u8 Lib.asciiSpaceTab ∧ ∃ m : Int, w.cell? ⟨2, 0, none⟩ = some (.int .i64 m)
theorem libW_below {w w' : World} (h : libW w) (hb : Below w.heap.size w w') : libW w' := by
  obtain ⟨h1, m, h2⟩ := h
  refine ⟨?_, m, by rw [hb.cell (cell_block h2).1]; exact h2⟩
  have hg : Tryz.prog.globalNamed "strings.asciiSpace" = some 0 := by kernel_rfl
  unfold Lib.TabIs World.var? at h1 ⊢
  rw [hg] at h1 ⊢
  simp only [Option.bind_some] at h1 ⊢
  have hlt : 0 < w.heap.size := by
    rcases Nat.lt_or_ge 0 w.heap.size with h' | h'
    · exact h'
    · rw [Array.getElem?_eq_none h'] at h1; cases h1
  rw [hb.block _ hlt]
  exact h1
def isAscii (s : ByteArray) : Bool := s.data.toList.all fun b => decide (b.toNat < 128)
theorem ascii_at {s : ByteArray} (h : isAscii s = true) : ∀ (j : Nat) b, s.data.toList[j]? = some b → b.toNat < 128 := fun j b hj => by
  have := List.all_eq_true.1 h b (List.mem_of_getElem? hj)
  simpa using this
theorem trim_std (s t : ByteArray) (hs : s.size ≤ 100000) (ha : isAscii s = true) (ht : (⟨(Lib.trimSpace s.data.toList).toArray⟩ : ByteArray) = t) (w : World) (h : libW w) :
    Calls Tryz.prog 9 #[.string s] w fun e w' => e = .returned (.string t) ∧ Below w.heap.size w w' := by
  refine (Tryz.strings_TrimSpace s w (by omega) (ascii_at ha) h.1).mono ?_
  rintro e w' ⟨rfl, rfl⟩
  refine ⟨by rw [ht], ?_⟩
  unfold Lib.bytesWorld
  exact Lib.below_freeze (((Below.refl w.heap.size w).drew).alloc (Nat.le_refl _) _) (Nat.le_refl _) _
theorem fields_std (s : ByteArray) (l : List ByteArray) (hs : s.size ≤ 100000) (ha : isAscii s = true) (hl : ((Lib.fields s.data.toList).map fun l => (⟨l.toArray⟩ : ByteArray)) = l) (w : World) (h : libW w) :
    Calls Tryz.prog 28 #[.string s] w fun e w' => e = .returned (.slice (some ⟨w.heap.size, 0, none⟩) l.length l.length) ∧ w' = w.alloc (.cells ⟨l.map Value.string⟩ 9) := by
  refine (Tryz.strings_Fields s w (by omega) (ascii_at ha) h.1).mono ?_
  rintro e w' ⟨rfl, rfl⟩
  subst hl
  refine ⟨by rw [List.length_map], ?_⟩
  rw [List.map_map]
  rfl
theorem cut_std (s a b : ByteArray) (hs : s.size ≤ 100000) (hc : Lib.cut s.data.toList [58] = (a.data.toList, b.data.toList, true)) (w : World) (h : libW w) :
    Calls Tryz.prog 29 #[.string s, .string ⟨#[58]⟩] w fun e w' => e = .returned (.tuple #[.string a, .string b, .bool true]) ∧ Below w.heap.size w w' := by
  obtain ⟨m, hm⟩ := h.2
  refine (Tryz.strings_Cut s ⟨#[58]⟩ m w (by omega) hm).mono ?_
  rintro e w' ⟨rfl, n, rfl⟩
  refine ⟨?_, ⟨rfl, rfl, rfl, Nat.le_refl _, fun _ _ => rfl⟩⟩
  have e : (⟨#[58]⟩ : ByteArray).data.toList = [58] := rfl
  rw [e, hc]
end Go.Proofs.YtbgjnegojoaimaaGreatDoor
