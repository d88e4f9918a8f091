/- The reference's list of instructions: what it is. -/
import Derived.Test.YtbgjnegojoaimaaGreatDoorStdTextD
import Derived.Test.YtbgjnegojoaimaaGreatDoorStdLib
import Derived.Test.YtbgjnegojoaimaaGreatDoorLin
namespace Go.Proofs.YtbgjnegojoaimaaGreatDoor
open Go.RowKit
set_option maxRecDepth 100000

/-- Where the list stands: the variable, and the leads. -/
def stT (w x0 wx : World) (L : List ByteArray) : Prop := atT (w.heap.size + 2) (w.heap.size + 1 + 1) wx L ∧ Below (w.heap.size + 2) x0 wx ∧ rowB wx (w.heap.size + 1) 27 #[.slice (some ⟨w.heap.size, 0, none⟩) 9 9] ∧ rowB wx w.heap.size 9 ⟨leads9.map Value.string⟩ ∧ libW wx
theorem libW_low {lo : Nat} {w w' : World} (h : libW w) (hb : Below lo w w') (hl : 2 < lo ∧ 0 < lo) : libW w' := by
  obtain ⟨h1, m, h2⟩ := h
  refine ⟨?_, m, by rw [hb.cell (p := ⟨2, 0, none⟩) hl.1]; exact h2⟩
  have hg : Tryz.prog.globalNamed "strings.asciiSpace" = some 0 := by kernel_rfl
  unfold Lib.TabIs World.var? at h1 ⊢
  rw [hg] at h1 ⊢
  simp only [Option.bind_some] at h1 ⊢
  rw [hb.block _ hl.2]
  exact h1
def txL1 : List ByteArray := moreT [] ⟨#[108, 100, 97]⟩ (rdT ⟨#[109, 65, 84, 44, 122, 65]⟩) [1, 2, 3, 4, 5, 6, 8]
theorem txL1_len : txL1.length = 7 := by decide +kernel
def txL2 : List ByteArray := moreT txL1 ⟨#[108, 100, 120]⟩ (rdT ⟨#[109, 88, 84, 44, 122, 88]⟩) [1, 2, 4]
theorem txL2_len : txL2.length = 10 := by decide +kernel
def txL3 : List ByteArray := moreT txL2 ⟨#[108, 100, 121]⟩ (rdT ⟨#[109, 89, 84, 44, 122, 89]⟩) [1, 2, 4]
theorem txL3_len : txL3.length = 13 := by decide +kernel
def txL4 : List ByteArray := moreT txL3 ⟨#[115, 116, 97]⟩ (fun _ => ⟨#[119, 65, 65]⟩) [2, 3, 4, 5, 6, 8]
theorem txL4_len : txL4.length = 19 := by decide +kernel
def txL5 : List ByteArray := moreT txL4 ⟨#[115, 116, 120]⟩ (fun _ => ⟨#[119, 65, 88]⟩) [2, 4]
theorem txL5_len : txL5.length = 21 := by decide +kernel
def txL6 : List ByteArray := moreT txL5 ⟨#[115, 116, 121]⟩ (fun _ => ⟨#[119, 65, 89]⟩) [2, 4]
theorem txL6_len : txL6.length = 23 := by decide +kernel
def txL7 : List ByteArray := txL6
theorem txL7_len : txL7.length = 23 := by decide +kernel
def txL8 : List ByteArray := moreT txL7 ⟨#[97, 100, 99]⟩ (rdT ⟨#[43, 65, 84]⟩) [1, 2, 4, 5]
theorem txL8_len : txL8.length = 27 := by decide +kernel
def txL9 : List ByteArray := moreT txL8 ⟨#[115, 98, 99]⟩ (rdT ⟨#[126, 65, 84]⟩) [1, 2, 4, 5]
theorem txL9_len : txL9.length = 31 := by decide +kernel
def txL10 : List ByteArray := moreT txL9 ⟨#[97, 110, 100]⟩ (rdT ⟨#[38, 65, 84]⟩) [1, 2, 4, 5]
theorem txL10_len : txL10.length = 35 := by decide +kernel
def txL11 : List ByteArray := moreT txL10 ⟨#[111, 114, 97]⟩ (rdT ⟨#[124, 65, 84]⟩) [1, 2, 4, 5]
theorem txL11_len : txL11.length = 39 := by decide +kernel
def txL12 : List ByteArray := moreT txL11 ⟨#[101, 111, 114]⟩ (rdT ⟨#[94, 65, 84]⟩) [1, 2, 4, 5]
theorem txL12_len : txL12.length = 43 := by decide +kernel
def txL13 : List ByteArray := moreT txL12 ⟨#[99, 109, 112]⟩ (rdT ⟨#[61, 65, 84]⟩) [1, 2, 4, 5]
theorem txL13_len : txL13.length = 47 := by decide +kernel
def pre7 (k : Nat) : List ByteArray := match k with
  | 0 => txL7
  | 1 => txL8
  | 2 => txL9
  | 3 => txL10
  | 4 => txL11
  | 5 => txL12
  | _ => txL13
def txL14 : List ByteArray := moreT txL13 ⟨#[99, 112, 120]⟩ (rdT ⟨#[61, 88, 84]⟩) [1, 2]
theorem txL14_len : txL14.length = 49 := by decide +kernel
def txL15 : List ByteArray := moreT txL14 ⟨#[99, 112, 121]⟩ (rdT ⟨#[61, 89, 84]⟩) [1, 2]
theorem txL15_len : txL15.length = 51 := by decide +kernel
def txL16 : List ByteArray := txL15
theorem txL16_len : txL16.length = 51 := by decide +kernel
def txL17 : List ByteArray := moreT txL16 ⟨#[105, 110, 99]⟩ (fun _ => ⟨#[114, 65, 84, 40, 117, 84, 41, 32, 119, 65, 84]⟩) [2, 4]
theorem txL17_len : txL17.length = 53 := by decide +kernel
def txL18 : List ByteArray := moreT txL17 ⟨#[100, 101, 99]⟩ (fun _ => ⟨#[114, 65, 84, 40, 100, 84, 41, 32, 119, 65, 84]⟩) [2, 4]
theorem txL18_len : txL18.length = 55 := by decide +kernel
def pre16 (k : Nat) : List ByteArray := match k with
  | 0 => txL16
  | 1 => txL17
  | _ => txL18
def txL19 : List ByteArray := txL18
theorem txL19_len : txL19.length = 55 := by decide +kernel
def txL20 : List ByteArray := moreT txL19 ⟨#[97, 115, 108]⟩ (fun _ => ⟨#[45, 40, 60, 65, 41]⟩) [0]
theorem txL20_len : txL20.length = 56 := by decide +kernel
def txL21 : List ByteArray := moreT txL20 ⟨#[97, 115, 108]⟩ (fun _ => ⟨#[114, 65, 84, 40, 60, 84, 41, 32, 119, 65, 84]⟩) [2]
theorem txL21_len : txL21.length = 57 := by decide +kernel
def txL22 : List ByteArray := moreT txL21 ⟨#[108, 115, 114]⟩ (fun _ => ⟨#[45, 40, 62, 65, 41]⟩) [0]
theorem txL22_len : txL22.length = 58 := by decide +kernel
def txL23 : List ByteArray := moreT txL22 ⟨#[108, 115, 114]⟩ (fun _ => ⟨#[114, 65, 84, 40, 62, 84, 41, 32, 119, 65, 84]⟩) [2]
theorem txL23_len : txL23.length = 59 := by decide +kernel
def txL24 : List ByteArray := moreT txL23 ⟨#[114, 111, 108]⟩ (fun _ => ⟨#[45, 40, 91, 65, 41]⟩) [0]
theorem txL24_len : txL24.length = 60 := by decide +kernel
def txL25 : List ByteArray := moreT txL24 ⟨#[114, 111, 108]⟩ (fun _ => ⟨#[114, 65, 84, 40, 91, 84, 41, 32, 119, 65, 84]⟩) [2]
theorem txL25_len : txL25.length = 61 := by decide +kernel
def txL26 : List ByteArray := moreT txL25 ⟨#[114, 111, 114]⟩ (fun _ => ⟨#[45, 40, 93, 65, 41]⟩) [0]
theorem txL26_len : txL26.length = 62 := by decide +kernel
def txL27 : List ByteArray := moreT txL26 ⟨#[114, 111, 114]⟩ (fun _ => ⟨#[114, 65, 84, 40, 93, 84, 41, 32, 119, 65, 84]⟩) [2]
theorem txL27_len : txL27.length = 63 := by decide +kernel
def pre19 (k : Nat) : List ByteArray := match k with
  | 0 => txL19
  | 1 => txL21
  | 2 => txL23
  | 3 => txL25
  | _ => txL27
def fieldsS : ByteArray := ⟨#[116, 97, 120, 58, 45, 40, 109, 88, 65, 44, 122, 88, 41, 32, 116, 97, 121, 58, 45, 40, 109, 89, 65, 44, 122, 89, 41, 32, 116, 120, 97, 58, 45, 40, 109, 65, 88, 44, 122, 65, 41, 32, 116, 121, 97, 58, 45, 40, 109, 65, 89, 44, 122, 65, 41, 32, 116, 115, 120, 58, 45, 40, 109, 88, 83, 44, 122, 88, 41, 32, 116, 120, 115, 58, 45, 40, 109, 83, 88, 41, 32, 105, 110, 120, 58, 45, 40, 117, 88, 41, 32, 105, 110, 121, 58, 45, 40, 117, 89, 41, 32, 100, 101, 120, 58, 45, 40, 100, 88, 41, 32, 100, 101, 121, 58, 45, 40, 100, 89, 41, 32, 99, 108, 99, 58, 45, 40, 99, 49, 41, 32, 115, 101, 99, 58, 45, 40, 115, 49, 41, 32, 99, 108, 105, 58, 45, 40, 99, 52, 41, 32, 115, 101, 105, 58, 45, 40, 115, 52, 41, 32, 110, 111, 112, 58, 45, 32, 112, 104, 97, 58, 119, 33, 65, 32, 112, 108, 97, 58, 114, 63, 65, 40, 122, 65, 41, 32, 112, 104, 112, 58, 119, 33, 80, 32, 112, 108, 112, 58, 114, 63, 80]⟩
def fieldsL : List ByteArray := [⟨#[116, 97, 120, 58, 45, 40, 109, 88, 65, 44, 122, 88, 41]⟩, ⟨#[116, 97, 121, 58, 45, 40, 109, 89, 65, 44, 122, 89, 41]⟩, ⟨#[116, 120, 97, 58, 45, 40, 109, 65, 88, 44, 122, 65, 41]⟩, ⟨#[116, 121, 97, 58, 45, 40, 109, 65, 89, 44, 122, 65, 41]⟩, ⟨#[116, 115, 120, 58, 45, 40, 109, 88, 83, 44, 122, 88, 41]⟩, ⟨#[116, 120, 115, 58, 45, 40, 109, 83, 88, 41]⟩, ⟨#[105, 110, 120, 58, 45, 40, 117, 88, 41]⟩, ⟨#[105, 110, 121, 58, 45, 40, 117, 89, 41]⟩, ⟨#[100, 101, 120, 58, 45, 40, 100, 88, 41]⟩, ⟨#[100, 101, 121, 58, 45, 40, 100, 89, 41]⟩, ⟨#[99, 108, 99, 58, 45, 40, 99, 49, 41]⟩, ⟨#[115, 101, 99, 58, 45, 40, 115, 49, 41]⟩, ⟨#[99, 108, 105, 58, 45, 40, 99, 52, 41]⟩, ⟨#[115, 101, 105, 58, 45, 40, 115, 52, 41]⟩, ⟨#[110, 111, 112, 58, 45]⟩, ⟨#[112, 104, 97, 58, 119, 33, 65]⟩, ⟨#[112, 108, 97, 58, 114, 63, 65, 40, 122, 65, 41]⟩, ⟨#[112, 104, 112, 58, 119, 33, 80]⟩, ⟨#[112, 108, 112, 58, 114, 63, 80]⟩]
theorem fieldsS_fields : ((Lib.fields fieldsS.data.toList).map fun l => (⟨l.toArray⟩ : ByteArray)) = fieldsL := by decide +kernel
def txL28 : List ByteArray := txL27
theorem txL28_len : txL28.length = 63 := by decide +kernel
def txL29 : List ByteArray := moreT txL28 ⟨#[116, 97, 120]⟩ (fun _ => ⟨#[45, 40, 109, 88, 65, 44, 122, 88, 41]⟩) [0]
theorem txL29_len : txL29.length = 64 := by decide +kernel
def txL30 : List ByteArray := moreT txL29 ⟨#[116, 97, 121]⟩ (fun _ => ⟨#[45, 40, 109, 89, 65, 44, 122, 89, 41]⟩) [0]
theorem txL30_len : txL30.length = 65 := by decide +kernel
def txL31 : List ByteArray := moreT txL30 ⟨#[116, 120, 97]⟩ (fun _ => ⟨#[45, 40, 109, 65, 88, 44, 122, 65, 41]⟩) [0]
theorem txL31_len : txL31.length = 66 := by decide +kernel
def txL32 : List ByteArray := moreT txL31 ⟨#[116, 121, 97]⟩ (fun _ => ⟨#[45, 40, 109, 65, 89, 44, 122, 65, 41]⟩) [0]
theorem txL32_len : txL32.length = 67 := by decide +kernel
def txL33 : List ByteArray := moreT txL32 ⟨#[116, 115, 120]⟩ (fun _ => ⟨#[45, 40, 109, 88, 83, 44, 122, 88, 41]⟩) [0]
theorem txL33_len : txL33.length = 68 := by decide +kernel
def txL34 : List ByteArray := moreT txL33 ⟨#[116, 120, 115]⟩ (fun _ => ⟨#[45, 40, 109, 83, 88, 41]⟩) [0]
theorem txL34_len : txL34.length = 69 := by decide +kernel
def txL35 : List ByteArray := moreT txL34 ⟨#[105, 110, 120]⟩ (fun _ => ⟨#[45, 40, 117, 88, 41]⟩) [0]
theorem txL35_len : txL35.length = 70 := by decide +kernel
def txL36 : List ByteArray := moreT txL35 ⟨#[105, 110, 121]⟩ (fun _ => ⟨#[45, 40, 117, 89, 41]⟩) [0]
theorem txL36_len : txL36.length = 71 := by decide +kernel
def txL37 : List ByteArray := moreT txL36 ⟨#[100, 101, 120]⟩ (fun _ => ⟨#[45, 40, 100, 88, 41]⟩) [0]
theorem txL37_len : txL37.length = 72 := by decide +kernel
def txL38 : List ByteArray := moreT txL37 ⟨#[100, 101, 121]⟩ (fun _ => ⟨#[45, 40, 100, 89, 41]⟩) [0]
theorem txL38_len : txL38.length = 73 := by decide +kernel
def txL39 : List ByteArray := moreT txL38 ⟨#[99, 108, 99]⟩ (fun _ => ⟨#[45, 40, 99, 49, 41]⟩) [0]
theorem txL39_len : txL39.length = 74 := by decide +kernel
def txL40 : List ByteArray := moreT txL39 ⟨#[115, 101, 99]⟩ (fun _ => ⟨#[45, 40, 115, 49, 41]⟩) [0]
theorem txL40_len : txL40.length = 75 := by decide +kernel
def txL41 : List ByteArray := moreT txL40 ⟨#[99, 108, 105]⟩ (fun _ => ⟨#[45, 40, 99, 52, 41]⟩) [0]
theorem txL41_len : txL41.length = 76 := by decide +kernel
def txL42 : List ByteArray := moreT txL41 ⟨#[115, 101, 105]⟩ (fun _ => ⟨#[45, 40, 115, 52, 41]⟩) [0]
theorem txL42_len : txL42.length = 77 := by decide +kernel
def txL43 : List ByteArray := moreT txL42 ⟨#[110, 111, 112]⟩ (fun _ => ⟨#[45]⟩) [0]
theorem txL43_len : txL43.length = 78 := by decide +kernel
def txL44 : List ByteArray := moreT txL43 ⟨#[112, 104, 97]⟩ (fun _ => ⟨#[119, 33, 65]⟩) [0]
theorem txL44_len : txL44.length = 79 := by decide +kernel
def txL45 : List ByteArray := moreT txL44 ⟨#[112, 108, 97]⟩ (fun _ => ⟨#[114, 63, 65, 40, 122, 65, 41]⟩) [0]
theorem txL45_len : txL45.length = 80 := by decide +kernel
def txL46 : List ByteArray := moreT txL45 ⟨#[112, 104, 112]⟩ (fun _ => ⟨#[119, 33, 80]⟩) [0]
theorem txL46_len : txL46.length = 81 := by decide +kernel
def txL47 : List ByteArray := moreT txL46 ⟨#[112, 108, 112]⟩ (fun _ => ⟨#[114, 63, 80]⟩) [0]
theorem txL47_len : txL47.length = 82 := by decide +kernel
def pre28 (k : Nat) : List ByteArray := match k with
  | 0 => txL28
  | 1 => txL29
  | 2 => txL30
  | 3 => txL31
  | 4 => txL32
  | 5 => txL33
  | 6 => txL34
  | 7 => txL35
  | 8 => txL36
  | 9 => txL37
  | 10 => txL38
  | 11 => txL39
  | 12 => txL40
  | 13 => txL41
  | 14 => txL42
  | 15 => txL43
  | 16 => txL44
  | 17 => txL45
  | 18 => txL46
  | _ => txL47
def txL48 : List ByteArray := txL47 ++ [⟨#[106, 109, 112, 32, 52, 32, 114, 80, 84, 32, 114, 80, 85, 40, 108, 67, 84, 44, 104, 67, 85, 41]⟩, ⟨#[106, 115, 114, 32, 52, 32, 114, 80, 84, 40, 108, 68, 84, 41, 32, 114, 80, 84, 40, 104, 68, 84, 44, 71, 84, 67, 41, 32, 119, 33, 84, 40, 103, 84, 67, 41, 32, 119, 33, 84, 40, 109, 67, 68, 41]⟩, ⟨#[114, 116, 115, 32, 48, 32, 114, 63, 84, 32, 114, 63, 85, 40, 108, 67, 84, 44, 104, 67, 85, 41]⟩, ⟨#[114, 116, 105, 32, 48, 32, 114, 63, 80, 32, 114, 63, 84, 32, 114, 63, 85, 40, 108, 67, 84, 44, 104, 67, 85, 41]⟩]
theorem txL48_len : txL48.length = 86 := by decide +kernel
def txL49 : List ByteArray := txL48 ++ [⟨#[98, 101, 113, 32, 55, 32, 114, 80, 84, 40, 102, 49, 122, 41, 32, 45, 40, 114, 67, 84, 41]⟩]
theorem txL49_len : txL49.length = 87 := by decide +kernel
def txL50 : List ByteArray := txL49 ++ [⟨#[98, 110, 101, 32, 55, 32, 114, 80, 84, 40, 102, 48, 122, 41, 32, 45, 40, 114, 67, 84, 41]⟩]
theorem txL50_len : txL50.length = 88 := by decide +kernel
def txL51 : List ByteArray := txL50 ++ [⟨#[98, 99, 115, 32, 55, 32, 114, 80, 84, 40, 102, 49, 99, 41, 32, 45, 40, 114, 67, 84, 41]⟩]
theorem txL51_len : txL51.length = 89 := by decide +kernel
def txL52 : List ByteArray := txL51 ++ [⟨#[98, 99, 99, 32, 55, 32, 114, 80, 84, 40, 102, 48, 99, 41, 32, 45, 40, 114, 67, 84, 41]⟩]
theorem txL52_len : txL52.length = 90 := by decide +kernel
def txL53 : List ByteArray := txL52 ++ [⟨#[98, 109, 105, 32, 55, 32, 114, 80, 84, 40, 102, 49, 110, 41, 32, 45, 40, 114, 67, 84, 41]⟩]
theorem txL53_len : txL53.length = 91 := by decide +kernel
def txL54 : List ByteArray := txL53 ++ [⟨#[98, 112, 108, 32, 55, 32, 114, 80, 84, 40, 102, 48, 110, 41, 32, 45, 40, 114, 67, 84, 41]⟩]
theorem txL54_len : txL54.length = 92 := by decide +kernel
def pre5 (k : Nat) : List ByteArray := match k with
  | 0 => txL48
  | 1 => txL49
  | 2 => txL50
  | 3 => txL51
  | 4 => txL52
  | 5 => txL53
  | _ => txL54
end Go.Proofs.YtbgjnegojoaimaaGreatDoor
