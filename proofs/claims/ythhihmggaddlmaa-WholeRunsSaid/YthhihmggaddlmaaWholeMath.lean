/- What whole instructions do, as plain data: a cycle with a memory, a run up to the end of the instruction. -/
import Derived.Test.YthhihmggaddlmaaChecked
import Derived.Test.YthhihmggaddlmaaCoreTellA
import Derived.Below
import Derived.BigQuiet
import Derived.ChangeMaps5
import Derived.Deep.CutBlock
import Derived.Deep.DeepCutAuto
import Derived.Deep.Draws
import Derived.Deep.MidRow
import Derived.Deep.OwnRows
import Derived.Deep.QuietTactic
import Derived.Deep.RegionHeld3
import Derived.Deep.RegionLaw
import Derived.Deep.RegionWith
import Derived.Deep.Slices
import Derived.Deep.WholeRow
import Derived.Lib.Hide
import Derived.Lib.SmallJoins
import Derived.OpenShut
import Derived.OrdersHeld
import Derived.OwnWalk
import Derived.RowKit3
import Derived.SizedLaws
import Derived.StillTactics
import Derived.StillTail
import Derived.StillTailTactics
import Derived.WalkKit
namespace Go.Proofs.Ythhihmggaddlmaa
open Go.RowKit
set_option maxRecDepth 100000

structure Ks where
  f : Nat → Int
  op : Int
  pl : Int
  n : Bool
structure Bu where
  d : Int
  a : Int
  x : Int
def Ks.row (k : Ks) : Array Value := core12 k.f k.op k.pl k.n
def Bu.row (b : Bu) : Array Value := bus3 b.d b.a b.x
def askK (c : Cp) (k : Ks) (q : Bool) : Ks :=
  let m := meets c (fitR k.f) k.op k.pl k.n q
  ⟨if (doneC c m.1 m.2.1).bus = 0 then fitR k.f else placeR (doneC c m.1 m.2.1).place (fitR k.f), m.1, m.2.1, m.2.2⟩
def askU (c : Cp) (k : Ks) (q : Bool) : Bu :=
  let m := meets c (fitR k.f) k.op k.pl k.n q
  let x := doneC c m.1 m.2.1
  if x.bus = 0 then ⟨0, 0, 0⟩ else ⟨x.bus, placeA x.place (fitR k.f), dataA x (fitR k.f)⟩
theorem askK_row (c : Cp) (k : Ks) (q : Bool) : askCore c (fitR k.f) k.op k.pl k.n q = (askK c k q).row := by
  unfold askCore askK Ks.row; dsimp only; split <;> rfl
theorem askU_row (c : Cp) (k : Ks) (q : Bool) : askBus c (fitR k.f) k.op k.pl k.n q = (askU c k q).row := by
  unfold askBus askU Bu.row; dsimp only; split <;> rfl
def tellK (c : Cp) (k : Ks) (data : Int) : Ks :=
  if k.op = -1 then ⟨fitR k.f, begunV c (lo data 8), 0, k.n⟩
  else if curB (cyclesOf c k.op) k.pl = false then (if k.op = 259 then ⟨fitR k.f, k.op, k.pl, k.n⟩ else ⟨fitR k.f, -1, 0, k.n⟩)
  else if overB (cyclesOf c k.op) k.pl (stepsF (cycAt (cyclesOf c k.op) k.pl).steps (readR (cycAt (cyclesOf c k.op) k.pl) (lo data 8) (fitR k.f))) = true
    then ⟨(stepsF (cycAt (cyclesOf c k.op) k.pl).steps (readR (cycAt (cyclesOf c k.op) k.pl) (lo data 8) (fitR k.f))).1, -1, 0, k.n⟩
    else ⟨(stepsF (cycAt (cyclesOf c k.op) k.pl).steps (readR (cycAt (cyclesOf c k.op) k.pl) (lo data 8) (fitR k.f))).1, k.op, k.pl + 1, k.n⟩
theorem tellK_row (c : Cp) (k : Ks) (d : Int) : tellCore c (fitR k.f) k.op k.pl k.n d = (tellK c k d).row := by
  unfold tellCore tellK Ks.row
  split
  · rfl
  · split
    · split <;> rfl
    · split <;> rfl

/-- What a memory does. -/
structure MemF (M : Type) where
  rd : M → Int → Int
  wr : M → Int → Int → M
section
variable {M : Type} (F : MemF M) (c : Cp)
def datU (b : Bu) (m : M) : Int := if b.d = 1 then lo (F.rd m b.a) 8 else b.x
def putU (b : Bu) (m : M) : M := if b.d = 2 then F.wr m b.a b.x else m
def cycK (k : Ks) (q : Bool) (m : M) : Ks × Bu × M :=
  (tellK c (askK c k q) (datU F (askU c k q) m), ⟨(askU c k q).d, (askU c k q).a, datU F (askU c k q) m⟩, putU F (askU c k q) m)
def stopB (k : Ks) : Bool := k.op == -1 || k.op == 259
def runK : Nat → Ks → M → Ks × List Bu × M
  | 0, k, m => (k, [], m)
  | n + 1, k, m =>
    if stopB (cycK F c k false m).1 = true then ((cycK F c k false m).1, [(cycK F c k false m).2.1], (cycK F c k false m).2.2)
    else ((runK n (cycK F c k false m).1 (cycK F c k false m).2.2).1, (cycK F c k false m).2.1 :: (runK n (cycK F c k false m).1 (cycK F c k false m).2.2).2.1, (runK n (cycK F c k false m).1 (cycK F c k false m).2.2).2.2)
theorem runK_len (n : Nat) (k : Ks) (m : M) : (runK F c n k m).2.1.length ≤ n := by
  induction n generalizing k m with
  | zero => simp [runK]
  | succ n ih =>
    unfold runK
    split
    · simp
    · simpa using ih _ _

/-- What a cycle of an instruction does. -/
structure Out (M : Type) where
  f : Nat → Int
  e : Bool
  u : Bu
  m : M
def busC (x : Cy) (g : Nat → Int) : Bu := if x.bus = 0 then ⟨0, 0, 0⟩ else ⟨x.bus, placeA x.place g, dataA x g⟩
def oneC (x : Cy) (f : Nat → Int) (m : M) : Out M :=
  ⟨(stepsF x.steps (readR x (lo (datU F (busC x (fitR f)) m) 8) (fitR (if x.bus = 0 then fitR f else placeR x.place (fitR f))))).1,
   (stepsF x.steps (readR x (lo (datU F (busC x (fitR f)) m) 8) (fitR (if x.bus = 0 then fitR f else placeR x.place (fitR f))))).2,
   ⟨(busC x (fitR f)).d, (busC x (fitR f)).a, datU F (busC x (fitR f)) m⟩, putU F (busC x (fitR f)) m⟩
def execL : List Cy → (Nat → Int) → M → (Nat → Int) × List Bu × M
  | [], f, m => (f, [], m)
  | x :: r, f, m =>
    if (oneC F x f m).e = true then ((oneC F x f m).f, [(oneC F x f m).u], (oneC F x f m).m)
    else ((execL r (oneC F x f m).f (oneC F x f m).m).1, (oneC F x f m).u :: (execL r (oneC F x f m).f (oneC F x f m).m).2.1, (execL r (oneC F x f m).f (oneC F x f m).m).2.2)

theorem cyc_one (k : Ks) (q : Bool) (m : M) (hop : k.op ≠ -1) (hc : curB (cyclesOf c k.op) k.pl = true) :
    cycK F c k q m = (if ((oneC F (cycAt (cyclesOf c k.op) k.pl) k.f m).e || !curB (cyclesOf c k.op) (k.pl + 1)) = true then ⟨(oneC F (cycAt (cyclesOf c k.op) k.pl) k.f m).f, -1, 0, k.n⟩
      else ⟨(oneC F (cycAt (cyclesOf c k.op) k.pl) k.f m).f, k.op, k.pl + 1, k.n⟩, (oneC F (cycAt (cyclesOf c k.op) k.pl) k.f m).u, (oneC F (cycAt (cyclesOf c k.op) k.pl) k.f m).m) := by
  have hm : meets c (fitR k.f) k.op k.pl k.n q = (k.op, k.pl, k.n) := by unfold meets; rw [if_neg hop]
  have hd : doneC c k.op k.pl = cycAt (cyclesOf c k.op) k.pl := by unfold doneC; rw [if_neg hop]
  have hU : askU c k q = busC (cycAt (cyclesOf c k.op) k.pl) (fitR k.f) := by unfold askU busC; simp only [hm, hd]
  have hK : askK c k q = ⟨if (cycAt (cyclesOf c k.op) k.pl).bus = 0 then fitR k.f else placeR (cycAt (cyclesOf c k.op) k.pl).place (fitR k.f), k.op, k.pl, k.n⟩ := by unfold askK; simp only [hm, hd]
  unfold cycK
  rw [hU, hK]
  unfold tellK
  simp only
  rw [if_neg hop, if_neg (by rw [hc]; decide)]
  rfl

theorem curB_in {pre : List Cy} {x : Cy} {r : List Cy} : curB (pre ++ x :: r) (pre.length : Int) = true := by
  unfold curB
  simp
  omega
theorem cycAt_in {pre : List Cy} {x : Cy} {r : List Cy} : cycAt (pre ++ x :: r) (pre.length : Int) = x := by
  unfold cycAt
  rw [if_pos curB_in]
  simp
theorem curB_next {pre : List Cy} {x : Cy} {r : List Cy} : curB (pre ++ x :: r) ((pre.length : Int) + 1) = !r.isEmpty := by
  unfold curB
  cases r with
  | nil => simp; try omega
  | cons y r => simp; try omega

theorem run_exec (op : Int) (n : Bool) (hop : op ≠ -1) (hj : op ≠ 259) (r : List Cy) : ∀ (x : Cy) (pre : List Cy) (f : Nat → Int) (m : M) (fuel : Nat), cyclesOf c op = pre ++ x :: r → r.length < fuel →
    runK F c fuel ⟨f, op, pre.length, n⟩ m = (⟨(execL F (x :: r) f m).1, -1, 0, n⟩, (execL F (x :: r) f m).2) := by
  induction r with
  | nil =>
    intro x pre f m fuel hc hl
    obtain ⟨fuel, rfl⟩ : ∃ k, fuel = k + 1 := ⟨fuel - 1, by simp at hl; omega⟩
    have h1 := cyc_one F c ⟨f, op, pre.length, n⟩ false m hop (by simp only [hc]; exact curB_in)
    simp only [hc, cycAt_in, curB_next] at h1
    simp only [List.isEmpty_nil, Bool.not_true, Bool.not_false, Bool.or_true, if_true] at h1
    unfold runK
    rw [h1]
    have hs : stopB ⟨(oneC F x f m).f, -1, 0, n⟩ = true := rfl
    simp only [hs, if_true]
    unfold execL
    split
    · rfl
    · rfl
  | cons y r ih =>
    intro x pre f m fuel hc hl
    obtain ⟨fuel, rfl⟩ : ∃ k, fuel = k + 1 := ⟨fuel - 1, by simp at hl; omega⟩
    have h1 := cyc_one F c ⟨f, op, pre.length, n⟩ false m hop (by simp only [hc]; exact curB_in)
    simp only [hc, cycAt_in, curB_next] at h1
    simp only [List.isEmpty_cons, Bool.not_true, Bool.not_false, Bool.or_false] at h1
    unfold runK
    rw [h1]
    by_cases he : (oneC F x f m).e = true
    · have hs : stopB ⟨(oneC F x f m).f, -1, 0, n⟩ = true := rfl
      simp only [he, if_true, hs]
      rw [show execL F (x :: y :: r) f m = _ from by unfold execL; rw [if_pos he]]
    · have hs : stopB ⟨(oneC F x f m).f, op, (pre.length : Int) + 1, n⟩ = false := by
        unfold stopB
        simp [hop, hj]
      simp only [if_neg he, hs]
      have hih := ih y (pre ++ [x]) (oneC F x f m).f (oneC F x f m).m fuel (by rw [hc]; simp) (by simp at hl; omega)
      have e1 : ((pre ++ [x]).length : Int) = (pre.length : Int) + 1 := by simp
      rw [e1] at hih
      rw [hih, show execL F (x :: y :: r) f m = _ from by rw [execL, if_neg he]]
      rfl

/-- An instruction, from its byte on. -/
theorem run_idle (f : Nat → Int) (pl : Int) (m : M) (fuel : Nat) (x : In) (y : Cy) (r : List Cy) (hx : opIn (lo (F.rd m (fitR f 7)) 8) c.instrs = some x) (hc : x.cycles = y :: r) (hl : r.length < fuel) :
    runK F c (fuel + 1) ⟨f, -1, pl, false⟩ m =
      (⟨(execL F (y :: r) (setR (fitR f) 7 (lo (fitR f 7 + 1) 16)) m).1, -1, 0, false⟩, ⟨1, fitR f 7, lo (F.rd m (fitR f 7)) 8⟩ :: (execL F (y :: r) (setR (fitR f) 7 (lo (fitR f 7 + 1) 16)) m).2.1, (execL F (y :: r) (setR (fitR f) 7 (lo (fitR f 7 + 1) 16)) m).2.2) := by
  obtain ⟨d, hd⟩ : ∃ d, d = lo (F.rd m (fitR f 7)) 8 := ⟨_, rfl⟩
  have hb := lo8_bd (F.rd m (fitR f 7))
  rw [← hd] at hx hb ⊢
  have hfit : fits (fitR f) := fits_fit f
  have hfits : fits (setR (fitR f) 7 (lo (fitR f 7 + 1) 16)) := by
    intro j
    have := hfit j
    unfold setR
    by_cases e : j = 7
    · rw [if_pos e, lo16_eq]; omega
    · rw [if_neg e]; exact this
  have hm : meets c (fitR f) (-1) pl false false = (-1, pl, false) := by
    unfold meets intr
    rw [if_pos rfl, if_neg (by simp), if_neg (by simp)]
  have hcy : cycK F c ⟨f, -1, pl, false⟩ false m = (⟨setR (fitR f) 7 (lo (fitR f 7 + 1) 16), d, 0, false⟩, ⟨1, fitR f 7, d⟩, m) := by
    have hU : askU c ⟨f, -1, pl, false⟩ false = ⟨1, fitR f 7, 0⟩ := by
      unfold askU
      simp only [hm]
      rfl
    have hK : askK c ⟨f, -1, pl, false⟩ false = ⟨setR (fitR f) 7 (lo (fitR f 7 + 1) 16), -1, pl, false⟩ := by
      unfold askK
      simp only [hm]
      rfl
    have hD : datU F ⟨1, fitR f 7, 0⟩ m = d := by unfold datU; rw [if_pos rfl, hd]
    have hP : putU F ⟨1, fitR f 7, 0⟩ m = m := rfl
    have hl8 : lo d 8 = d := by rw [lo8_eq]; omega
    have hbe : begunV c d = d := by
      unfold begunV cycIn
      rw [hx]
      simp [hc]
    unfold cycK
    rw [hU, hK, hD, hP]
    unfold tellK
    simp only [if_true, hl8, hbe, fit_fits hfits]
  have hcd : cyclesOf c d = [] ++ y :: r := by
    unfold cyclesOf
    rw [if_neg (by omega), if_neg (by omega), if_neg (by omega), if_pos (by rw [lo8_eq]; omega)]
    unfold cycIn
    rw [hx]
    simpa using hc
  have hs : stopB ⟨setR (fitR f) 7 (lo (fitR f 7 + 1) 16), d, 0, false⟩ = false := by
    unfold stopB
    simp
    omega
  have hr := run_exec F c d false (by omega) (by omega) r y [] (setR (fitR f) 7 (lo (fitR f 7 + 1) 16)) m fuel hcd hl
  simp only [List.length_nil, Int.ofNat_zero] at hr
  rw [runK, hcy]
  simp only [hs]
  rw [hr]
  rfl
end
end Go.Proofs.Ythhihmggaddlmaa
