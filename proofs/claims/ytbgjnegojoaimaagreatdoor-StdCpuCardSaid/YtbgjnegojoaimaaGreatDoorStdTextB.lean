/- The reference's list of instructions: lines by closures made on the spot. -/
import Derived.Test.YtbgjnegojoaimaaGreatDoorStdTextA
namespace Go.Proofs.YtbgjnegojoaimaaGreatDoor
open Go.RowKit
set_option maxRecDepth 100000

theorem rdT_size (s : ByteArray) (m : Int) : (rdT s m).size = s.size + 5 := by
  unfold rdT
  split
  all_goals
    simp only [ByteArray.size_append]
    rw [show (⟨#[40]⟩ : ByteArray).size = 1 from rfl, show (⟨#[41]⟩ : ByteArray).size = 1 from rfl]
    first | rw [show (⟨#[114, 80, 84]⟩ : ByteArray).size = 3 from rfl] | rw [show (⟨#[114, 65, 84]⟩ : ByteArray).size = 3 from rfl]
    omega
theorem atT_below {lo g : Nat} {w w' : World} {l : List ByteArray} (h : atT lo g w l) (hb : Below w.heap.size w w') : atT lo g w' l := by
  obtain ⟨h1, a, n, c, h2, h3⟩ := h
  exact ⟨h1, a, n, c, rowB_below h2 hb (rowB_lt h2), strsO_below h3 hb⟩
theorem keepT_below {lo g : Nat} {w w' : World} {l : List ByteArray} (h : atT lo g w l) (hb : Below w.heap.size w w') : keepT g w w' := fun q t cs h1 h2 => by
  obtain ⟨_, a, n, c, h3, _⟩ := h
  refine ⟨rowB_below h1 hb (rowB_lt h1), h2.1, fun a' n' c' h4 => ?_⟩
  have h5 := rowB_below h3 hb (rowB_lt h3)
  rw [rowB] at h4 h5
  rw [h5] at h4
  rw [← row_inj h4]
  exact h2.2 _ _ _ h3
theorem keepT_trans {g : Nat} {a b c : World} (h : keepT g a b) (k : keepT g b c) : keepT g a c := fun q t cs h1 h2 => by
  obtain ⟨h3, h4⟩ := h q t cs h1 h2
  exact k q t cs h3 h4
/-- A block that comes behind what was there is apart. -/
theorem sepT_new {lo g : Nat} {w w' : World} {l : List ByteArray} (h : atT lo g w l) (hb : Below w.heap.size w w') {q : Nat} (hq : w.heap.size ≤ q) : sepT g w' q := by
  obtain ⟨_, a, n, c, h3, h4⟩ := h
  have lg := rowB_lt h3
  refine ⟨by omega, fun a' n' c' h5 => ?_⟩
  have h6 := rowB_below h3 hb lg
  rw [rowB] at h5 h6
  rw [h6] at h5
  rw [← row_inj h5]
  intro e
  have := (h4.choose_spec.2.1.lt _ e).2
  omega
theorem addT_read (lo g gl bl : Nat) (name s : ByteArray) (ms : List Nat) (w : World) (l : List ByteArray) (hL : atT lo g w l) (hlo : lo ≤ w.heap.size) (hlen : l.length + ms.length ≤ 200) (hs : s.size ≤ 500) (hnm : name.size ≤ 100) (hm : ∀ m ∈ ms, m ≤ 8)
    (hgl : rowB w gl 27 #[.slice (some ⟨bl, 0, none⟩) 9 9]) (hbl : rowB w bl 9 ⟨leads9.map Value.string⟩) (hlg : gl < lo) (hlb : bl < lo) :
    Calls Tryz.prog 22 #[.string name, .func (.func 24) #[] #[.pointer (some ⟨w.heap.size, 0, none⟩)], .slice (some ⟨w.heap.size + 1, 0, none⟩) ms.length ms.length, .pointer (some ⟨g, 0, none⟩), .pointer (some ⟨gl, 0, none⟩)]
      ((w.alloc (.cells #[.string s] 9)).alloc (.cells ⟨ms.map fun (m : Nat) => Value.int .i64 (m : Int)⟩ 3)) fun e w' => e = .returned (.tuple #[]) ∧ atT lo g w' (moreT l name (rdT s) ms) ∧ Below lo w w' ∧ keepT g w w' := by
  have b1 := below_one w (.cells #[.string s] 9)
  have b2 := below_al b1 (.cells ⟨ms.map fun (m : Nat) => Value.int .i64 (m : Int)⟩ 3)
  have r1 := rowB_alloc (rowB_new w 9 #[.string s]) (.cells ⟨ms.map fun (m : Nat) => Value.int .i64 (m : Int)⟩ 3)
  have rm := rowB_new (w.alloc (.cells #[.string s] 9)) 3 ⟨ms.map fun (m : Nat) => Value.int .i64 (m : Int)⟩
  rw [World.size_alloc] at rm
  have hF : saysC 24 #[.pointer (some ⟨w.heap.size, 0, none⟩)] (rdT s) w.heap.size s := fun w2 h2 m => readF_txt s (by omega) m w.heap.size w2 h2
  refine (addT_std lo g gl bl name 24 _ _ w.heap.size s ms (w.heap.size + 1) _ l (atT_below hL b2) (Nat.le_trans hlo b2.size) hlen (enters_of Tryz.func24 (by kernel_rfl) rfl) hF r1 (sepT_new hL b2 (Nat.le_refl _)) (sepT_new hL b2 (by omega)) hnm (fun m _ => by rw [rdT_size]; omega) hm rm
    (rowB_below hgl b2 (rowB_lt hgl)) (rowB_below hbl b2 (rowB_lt hbl)) hlg hlb).mono fun _ _ ⟨h1, h2, h3, h4⟩ => ⟨h1, h2, (b2.mono hlo).trans h3, keepT_trans (keepT_below hL b2) h4⟩
theorem addT_fix (lo g gl bl : Nat) (name s : ByteArray) (ms : List Nat) (w : World) (l : List ByteArray) (hL : atT lo g w l) (hlo : lo ≤ w.heap.size) (hlen : l.length + ms.length ≤ 200) (hs : s.size ≤ 500) (hnm : name.size ≤ 100) (hm : ∀ m ∈ ms, m ≤ 8)
    (hgl : rowB w gl 27 #[.slice (some ⟨bl, 0, none⟩) 9 9]) (hbl : rowB w bl 9 ⟨leads9.map Value.string⟩) (hlg : gl < lo) (hlb : bl < lo) :
    Calls Tryz.prog 22 #[.string name, .func (.func 27) #[] #[.pointer (some ⟨w.heap.size, 0, none⟩)], .slice (some ⟨w.heap.size + 1, 0, none⟩) ms.length ms.length, .pointer (some ⟨g, 0, none⟩), .pointer (some ⟨gl, 0, none⟩)]
      ((w.alloc (.cells #[.string s] 9)).alloc (.cells ⟨ms.map fun (m : Nat) => Value.int .i64 (m : Int)⟩ 3)) fun e w' => e = .returned (.tuple #[]) ∧ atT lo g w' (moreT l name (fun _ => s) ms) ∧ Below lo w w' ∧ keepT g w w' := by
  have b1 := below_one w (.cells #[.string s] 9)
  have b2 := below_al b1 (.cells ⟨ms.map fun (m : Nat) => Value.int .i64 (m : Int)⟩ 3)
  have r1 := rowB_alloc (rowB_new w 9 #[.string s]) (.cells ⟨ms.map fun (m : Nat) => Value.int .i64 (m : Int)⟩ 3)
  have rm := rowB_new (w.alloc (.cells #[.string s] 9)) 3 ⟨ms.map fun (m : Nat) => Value.int .i64 (m : Int)⟩
  rw [World.size_alloc] at rm
  have hF : saysC 27 #[.pointer (some ⟨w.heap.size, 0, none⟩)] (fun _ => s) w.heap.size s := fun w2 h2 m => fixF_txt s m w.heap.size w2 h2
  refine (addT_std lo g gl bl name 27 _ _ w.heap.size s ms (w.heap.size + 1) _ l (atT_below hL b2) (Nat.le_trans hlo b2.size) hlen (enters_of Tryz.func27 (by kernel_rfl) rfl) hF r1 (sepT_new hL b2 (Nat.le_refl _)) (sepT_new hL b2 (by omega)) hnm (fun m _ => by show s.size ≤ 1000; omega) hm rm
    (rowB_below hgl b2 (rowB_lt hgl)) (rowB_below hbl b2 (rowB_lt hbl)) hlg hlb).mono fun _ _ ⟨h1, h2, h3, h4⟩ => ⟨h1, h2, (b2.mono hlo).trans h3, keepT_trans (keepT_below hL b2) h4⟩
end Go.Proofs.YtbgjnegojoaimaaGreatDoor
