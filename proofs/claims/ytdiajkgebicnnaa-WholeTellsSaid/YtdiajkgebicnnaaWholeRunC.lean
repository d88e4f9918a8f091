/- The contract of package whole's Run, for any processor, any state and any memory. -/
import Derived.Test.YtdiajkgebicnnaaRow
import Derived.Test.YtdiajkgebicnnaaStdArr
import Derived.Below
import Derived.BigQuiet
import Derived.ChangeMaps5
import Derived.Deep.DeepAppendWide
import Derived.Deep.Draws
import Derived.Deep.MidRow
import Derived.Deep.OwnRows
import Derived.Deep.QuietTactic
import Derived.Deep.Slices
import Derived.Deep.WholeRow
import Derived.Laws.OwnMore
import Derived.Lib.Hide
import Derived.Lib.SmallJoins
import Derived.OpenShut
import Derived.OwnWalk
import Derived.RowKit3
import Derived.WalkKit
import Derived.Test.YtdiajkgebicnnaaChecked
import Derived.Test.YtdiajkgebicnnaaCoreTellA
import Derived.Deep.CutBlock
import Derived.Deep.DeepCutAuto
import Derived.Deep.RegionHeld3
import Derived.Deep.RegionLaw
import Derived.Deep.RegionWith
import Derived.OrdersHeld
import Derived.SizedLaws
import Derived.StillTactics
import Derived.StillTail
import Derived.StillTailTactics
import Derived.Shelf.Abstract
import Derived.Test.YtdiajkgebicnnaaCoreAsk
import Derived.Test.YtdiajkgebicnnaaCoreTell
import Derived.Test.YtdiajkgebicnnaaArrOwn2
namespace Go.Proofs.Ytdiajkgebicnnaa
open Go.RowKit

/-- Of the blocks that there were, just those of G may have changed. -/
structure Off (G : Nat → Prop) (w w' : World) : Prop where
  os : w'.os = w.os
  tape : w'.tape = w.tape
  output : w'.output = w.output
  size : w.heap.size ≤ w'.heap.size
  block : ∀ k, k < w.heap.size → ¬ G k → w'.heap[k]? = w.heap[k]?
section
variable {G : Nat → Prop} {w w' : World}
theorem Off.refl (G : Nat → Prop) (w : World) : Off G w w := ⟨rfl, rfl, rfl, Nat.le_refl _, fun _ _ _ => rfl⟩
theorem Off.trans {a b c : World} (h : Off G a b) (k : Off G b c) : Off G a c :=
  ⟨k.os.trans h.os, k.tape.trans h.tape, k.output.trans h.output, Nat.le_trans h.size k.size, fun i hi hg => (k.block i (Nat.lt_of_lt_of_le hi h.size) hg).trans (h.block i hi hg)⟩
theorem off_below (h : Below w.heap.size w w') : Off G w w' := ⟨h.os, h.tape, h.output, h.size, fun k hk _ => h.block k hk⟩
theorem Off.below {B : Nat} (h : Off G w w') (hB : B ≤ w.heap.size) (hG : ∀ g, G g → B ≤ g) : Below B w w' :=
  ⟨h.os, h.tape, h.output, h.size, fun k hk => h.block k (Nat.lt_of_lt_of_le hk hB) fun hg => by have := hG k hg; omega⟩
theorem Off.safe {T : TypeId → Prop} (h : Off G w w') (hG : ∀ (g : Nat) (c : Array Value) (e : TypeId) (fz : Nat × Nat), G g → w.heap[g]? = some (.cells c e fz) → ¬ T e) : Safe T w w' :=
  ⟨h.size, fun g c e fz h1 h2 => by
    have hlt := (Array.getElem?_eq_some_iff.1 h1).1
    by_cases hg : G g
    · exact absurd h2 (hG g c e fz hg h1)
    · rw [h.block g hlt hg]; exact h1⟩
theorem rowB_off {g : Nat} {t : TypeId} {cs : Array Value} (h : rowB w g t cs) (ho : Off G w w') (hg : ¬ G g) : rowB w' g t cs := by
  have hlt := rowB_lt h
  unfold rowB at *
  rw [ho.block g hlt hg]; exact h
theorem off_drew (G : Nat → Prop) (w : World) : Off G w w.drew := ⟨rfl, rfl, rfl, Nat.le_refl _, fun _ _ _ => rfl⟩
theorem Off.alloc {w0 : World} (h : Off G w0 w) (o : Obj) : Off G w0 (w.alloc o) := h.trans (off_below ((Below.refl _ _).alloc (Nat.le_refl _) o))
theorem Off.call {w0 : World} (h : Off G w0 w) (hb : Below w.heap.size w w') : Off G w0 w' := h.trans (off_below hb)
/-- A store into one of them, or into a block that is new. -/
theorem Off.set {w0 : World} (h : Off G w0 w) {p : Addr} (hp : G p.block ∨ w0.heap.size ≤ p.block) (v : Value) : Off G w0 (w.setCell p v) :=
  ⟨h.os, h.tape, h.output, by simpa [World.setCell] using h.size, fun k hk hg => by
    rw [Below.heap_setCell w p v k (by rintro rfl; rcases hp with hp | hp; exact hg hp; omega)]
    exact h.block k hk hg⟩
theorem Off.row {w0 : World} (h : Off G w0 w) {g : Nat} (hp : G g ∨ w0.heap.size ≤ g) (cs : Array Value) : Off G w0 (w.setRow g cs) :=
  ⟨h.os, h.tape, h.output, by simpa [size_row] using h.size, fun k hk hg => by
    have e : (w.setRow g cs).heap[k]? = w.heap[k]? := by
      simp only [World.setRow, Array.getElem?_modify]
      rw [if_neg (by rintro rfl; rcases hp with hp | hp; exact hg hp; omega)]
    rw [e]; exact h.block k hk hg⟩
theorem Off.mono {G' : Nat → Prop} (h : Off G w w') (hG : ∀ g, g < w.heap.size → G g → G' g) : Off G' w w' := ⟨h.os, h.tape, h.output, h.size, fun k hk hg => h.block k hk fun h' => hg (hG k hk h')⟩
theorem Off.grown {w0 : World} {r : Option Nat} (h : Off G w0 w) (hg : w.grownBy w' r) (hr : ∀ k, r = some k → G k ∨ w0.heap.size ≤ k) : Off G w0 w' :=
  ⟨hg.os.trans h.os, hg.tape.trans h.tape, hg.output.trans h.output, Nat.le_trans h.size hg.size, fun k hk hn => (hg.block k (Nat.lt_of_lt_of_le hk h.size) fun e => by
    rcases hr k e.symm with h1 | h1
    · exact hn h1
    · omega).trans (h.block k hk hn)⟩
end
end Go.Proofs.Ytdiajkgebicnnaa
namespace Go.Proofs.Ytdiajkgebicnnaa
open Go.RowKit
set_option maxRecDepth 100000

structure Ks where
  f : Nat → Int
  op : Int
  pl : Int
  n : Bool
structure Bu where
  d : Int
  a : Int
  x : Int
def Ks.row (k : Ks) : Array Value := core12 k.f k.op k.pl k.n
def Bu.row (b : Bu) : Array Value := bus3 b.d b.a b.x
def askK (c : Cp) (k : Ks) (q : Bool) : Ks :=
  let m := meets c (fitR k.f) k.op k.pl k.n q
  ⟨if (doneC c m.1 m.2.1).bus = 0 then fitR k.f else placeR (doneC c m.1 m.2.1).place (fitR k.f), m.1, m.2.1, m.2.2⟩
def askU (c : Cp) (k : Ks) (q : Bool) : Bu :=
  let m := meets c (fitR k.f) k.op k.pl k.n q
  let x := doneC c m.1 m.2.1
  if x.bus = 0 then ⟨0, 0, 0⟩ else ⟨x.bus, placeA x.place (fitR k.f), dataA x (fitR k.f)⟩
theorem askK_row (c : Cp) (k : Ks) (q : Bool) : askCore c (fitR k.f) k.op k.pl k.n q = (askK c k q).row := by
  unfold askCore askK Ks.row; dsimp only; split <;> rfl
theorem askU_row (c : Cp) (k : Ks) (q : Bool) : askBus c (fitR k.f) k.op k.pl k.n q = (askU c k q).row := by
  unfold askBus askU Bu.row; dsimp only; split <;> rfl
def tellK (c : Cp) (k : Ks) (data : Int) : Ks :=
  if k.op = -1 then ⟨fitR k.f, begunV c (lo data 8), 0, k.n⟩
  else if curB (cyclesOf c k.op) k.pl = false then (if k.op = 259 then ⟨fitR k.f, k.op, k.pl, k.n⟩ else ⟨fitR k.f, -1, 0, k.n⟩)
  else if overB (cyclesOf c k.op) k.pl (stepsF (cycAt (cyclesOf c k.op) k.pl).steps (readR (cycAt (cyclesOf c k.op) k.pl) (lo data 8) (fitR k.f))) = true
    then ⟨(stepsF (cycAt (cyclesOf c k.op) k.pl).steps (readR (cycAt (cyclesOf c k.op) k.pl) (lo data 8) (fitR k.f))).1, -1, 0, k.n⟩
    else ⟨(stepsF (cycAt (cyclesOf c k.op) k.pl).steps (readR (cycAt (cyclesOf c k.op) k.pl) (lo data 8) (fitR k.f))).1, k.op, k.pl + 1, k.n⟩
theorem tellK_row (c : Cp) (k : Ks) (d : Int) : tellCore c (fitR k.f) k.op k.pl k.n d = (tellK c k d).row := by
  unfold tellCore tellK Ks.row
  split
  · rfl
  · split
    · split <;> rfl
    · split <;> rfl

/-- What a memory does. -/
structure MemF (M : Type) where
  rd : M → Int → Int
  wr : M → Int → Int → M
section
variable {M : Type} (F : MemF M) (c : Cp)
def datU (b : Bu) (m : M) : Int := if b.d = 1 then lo (F.rd m b.a) 8 else b.x
def putU (b : Bu) (m : M) : M := if b.d = 2 then F.wr m b.a b.x else m
def cycK (k : Ks) (q : Bool) (m : M) : Ks × Bu × M :=
  (tellK c (askK c k q) (datU F (askU c k q) m), ⟨(askU c k q).d, (askU c k q).a, datU F (askU c k q) m⟩, putU F (askU c k q) m)
def stopB (k : Ks) : Bool := k.op == -1 || k.op == 259
def runK : Nat → Ks → M → Ks × List Bu × M
  | 0, k, m => (k, [], m)
  | n + 1, k, m =>
    if stopB (cycK F c k false m).1 = true then ((cycK F c k false m).1, [(cycK F c k false m).2.1], (cycK F c k false m).2.2)
    else ((runK n (cycK F c k false m).1 (cycK F c k false m).2.2).1, (cycK F c k false m).2.1 :: (runK n (cycK F c k false m).1 (cycK F c k false m).2.2).2.1, (runK n (cycK F c k false m).1 (cycK F c k false m).2.2).2.2)
theorem runK_len (n : Nat) (k : Ks) (m : M) : (runK F c n k m).2.1.length ≤ n := by
  induction n generalizing k m with
  | zero => simp [runK]
  | succ n ih =>
    unfold runK
    split
    · simp
    · simpa using ih _ _

/-- What a cycle of an instruction does. -/
structure Out (M : Type) where
  f : Nat → Int
  e : Bool
  u : Bu
  m : M
def busC (x : Cy) (g : Nat → Int) : Bu := if x.bus = 0 then ⟨0, 0, 0⟩ else ⟨x.bus, placeA x.place g, dataA x g⟩
def oneC (x : Cy) (f : Nat → Int) (m : M) : Out M :=
  ⟨(stepsF x.steps (readR x (lo (datU F (busC x (fitR f)) m) 8) (fitR (if x.bus = 0 then fitR f else placeR x.place (fitR f))))).1,
   (stepsF x.steps (readR x (lo (datU F (busC x (fitR f)) m) 8) (fitR (if x.bus = 0 then fitR f else placeR x.place (fitR f))))).2,
   ⟨(busC x (fitR f)).d, (busC x (fitR f)).a, datU F (busC x (fitR f)) m⟩, putU F (busC x (fitR f)) m⟩
def execL : List Cy → (Nat → Int) → M → (Nat → Int) × List Bu × M
  | [], f, m => (f, [], m)
  | x :: r, f, m =>
    if (oneC F x f m).e = true then ((oneC F x f m).f, [(oneC F x f m).u], (oneC F x f m).m)
    else ((execL r (oneC F x f m).f (oneC F x f m).m).1, (oneC F x f m).u :: (execL r (oneC F x f m).f (oneC F x f m).m).2.1, (execL r (oneC F x f m).f (oneC F x f m).m).2.2)

theorem cyc_one (k : Ks) (q : Bool) (m : M) (hop : k.op ≠ -1) (hc : curB (cyclesOf c k.op) k.pl = true) :
    cycK F c k q m = (if ((oneC F (cycAt (cyclesOf c k.op) k.pl) k.f m).e || !curB (cyclesOf c k.op) (k.pl + 1)) = true then ⟨(oneC F (cycAt (cyclesOf c k.op) k.pl) k.f m).f, -1, 0, k.n⟩
      else ⟨(oneC F (cycAt (cyclesOf c k.op) k.pl) k.f m).f, k.op, k.pl + 1, k.n⟩, (oneC F (cycAt (cyclesOf c k.op) k.pl) k.f m).u, (oneC F (cycAt (cyclesOf c k.op) k.pl) k.f m).m) := by
  have hm : meets c (fitR k.f) k.op k.pl k.n q = (k.op, k.pl, k.n) := by unfold meets; rw [if_neg hop]
  have hd : doneC c k.op k.pl = cycAt (cyclesOf c k.op) k.pl := by unfold doneC; rw [if_neg hop]
  have hU : askU c k q = busC (cycAt (cyclesOf c k.op) k.pl) (fitR k.f) := by unfold askU busC; simp only [hm, hd]
  have hK : askK c k q = ⟨if (cycAt (cyclesOf c k.op) k.pl).bus = 0 then fitR k.f else placeR (cycAt (cyclesOf c k.op) k.pl).place (fitR k.f), k.op, k.pl, k.n⟩ := by unfold askK; simp only [hm, hd]
  unfold cycK
  rw [hU, hK]
  unfold tellK
  simp only
  rw [if_neg hop, if_neg (by rw [hc]; decide)]
  rfl

theorem curB_in {pre : List Cy} {x : Cy} {r : List Cy} : curB (pre ++ x :: r) (pre.length : Int) = true := by
  unfold curB
  simp
  omega
theorem cycAt_in {pre : List Cy} {x : Cy} {r : List Cy} : cycAt (pre ++ x :: r) (pre.length : Int) = x := by
  unfold cycAt
  rw [if_pos curB_in]
  simp
theorem curB_next {pre : List Cy} {x : Cy} {r : List Cy} : curB (pre ++ x :: r) ((pre.length : Int) + 1) = !r.isEmpty := by
  unfold curB
  cases r with
  | nil => simp; try omega
  | cons y r => simp; try omega

theorem run_exec (op : Int) (n : Bool) (hop : op ≠ -1) (hj : op ≠ 259) (r : List Cy) : ∀ (x : Cy) (pre : List Cy) (f : Nat → Int) (m : M) (fuel : Nat), cyclesOf c op = pre ++ x :: r → r.length < fuel →
    runK F c fuel ⟨f, op, pre.length, n⟩ m = (⟨(execL F (x :: r) f m).1, -1, 0, n⟩, (execL F (x :: r) f m).2) := by
  induction r with
  | nil =>
    intro x pre f m fuel hc hl
    obtain ⟨fuel, rfl⟩ : ∃ k, fuel = k + 1 := ⟨fuel - 1, by simp at hl; omega⟩
    have h1 := cyc_one F c ⟨f, op, pre.length, n⟩ false m hop (by simp only [hc]; exact curB_in)
    simp only [hc, cycAt_in, curB_next] at h1
    simp only [List.isEmpty_nil, Bool.not_true, Bool.not_false, Bool.or_true, if_true] at h1
    unfold runK
    rw [h1]
    have hs : stopB ⟨(oneC F x f m).f, -1, 0, n⟩ = true := rfl
    simp only [hs, if_true]
    unfold execL
    split
    · rfl
    · rfl
  | cons y r ih =>
    intro x pre f m fuel hc hl
    obtain ⟨fuel, rfl⟩ : ∃ k, fuel = k + 1 := ⟨fuel - 1, by simp at hl; omega⟩
    have h1 := cyc_one F c ⟨f, op, pre.length, n⟩ false m hop (by simp only [hc]; exact curB_in)
    simp only [hc, cycAt_in, curB_next] at h1
    simp only [List.isEmpty_cons, Bool.not_true, Bool.not_false, Bool.or_false] at h1
    unfold runK
    rw [h1]
    by_cases he : (oneC F x f m).e = true
    · have hs : stopB ⟨(oneC F x f m).f, -1, 0, n⟩ = true := rfl
      simp only [he, if_true, hs]
      rw [show execL F (x :: y :: r) f m = _ from by unfold execL; rw [if_pos he]]
    · have hs : stopB ⟨(oneC F x f m).f, op, (pre.length : Int) + 1, n⟩ = false := by
        unfold stopB
        simp [hop, hj]
      simp only [if_neg he, hs]
      have hih := ih y (pre ++ [x]) (oneC F x f m).f (oneC F x f m).m fuel (by rw [hc]; simp) (by simp at hl; omega)
      have e1 : ((pre ++ [x]).length : Int) = (pre.length : Int) + 1 := by simp
      rw [e1] at hih
      rw [hih, show execL F (x :: y :: r) f m = _ from by rw [execL, if_neg he]]
      rfl

/-- An instruction, from its byte on. -/
theorem run_idle (f : Nat → Int) (pl : Int) (m : M) (fuel : Nat) (x : In) (y : Cy) (r : List Cy) (hx : opIn (lo (F.rd m (fitR f 7)) 8) c.instrs = some x) (hc : x.cycles = y :: r) (hl : r.length < fuel) :
    runK F c (fuel + 1) ⟨f, -1, pl, false⟩ m =
      (⟨(execL F (y :: r) (setR (fitR f) 7 (lo (fitR f 7 + 1) 16)) m).1, -1, 0, false⟩, ⟨1, fitR f 7, lo (F.rd m (fitR f 7)) 8⟩ :: (execL F (y :: r) (setR (fitR f) 7 (lo (fitR f 7 + 1) 16)) m).2.1, (execL F (y :: r) (setR (fitR f) 7 (lo (fitR f 7 + 1) 16)) m).2.2) := by
  obtain ⟨d, hd⟩ : ∃ d, d = lo (F.rd m (fitR f 7)) 8 := ⟨_, rfl⟩
  have hb := lo8_bd (F.rd m (fitR f 7))
  rw [← hd] at hx hb ⊢
  have hfit : fits (fitR f) := fits_fit f
  have hfits : fits (setR (fitR f) 7 (lo (fitR f 7 + 1) 16)) := by
    intro j
    have := hfit j
    unfold setR
    by_cases e : j = 7
    · rw [if_pos e, lo16_eq]; omega
    · rw [if_neg e]; exact this
  have hm : meets c (fitR f) (-1) pl false false = (-1, pl, false) := by
    unfold meets intr
    rw [if_pos rfl, if_neg (by simp), if_neg (by simp)]
  have hcy : cycK F c ⟨f, -1, pl, false⟩ false m = (⟨setR (fitR f) 7 (lo (fitR f 7 + 1) 16), d, 0, false⟩, ⟨1, fitR f 7, d⟩, m) := by
    have hU : askU c ⟨f, -1, pl, false⟩ false = ⟨1, fitR f 7, 0⟩ := by
      unfold askU
      simp only [hm]
      rfl
    have hK : askK c ⟨f, -1, pl, false⟩ false = ⟨setR (fitR f) 7 (lo (fitR f 7 + 1) 16), -1, pl, false⟩ := by
      unfold askK
      simp only [hm]
      rfl
    have hD : datU F ⟨1, fitR f 7, 0⟩ m = d := by unfold datU; rw [if_pos rfl, hd]
    have hP : putU F ⟨1, fitR f 7, 0⟩ m = m := rfl
    have hl8 : lo d 8 = d := by rw [lo8_eq]; omega
    have hbe : begunV c d = d := by
      unfold begunV cycIn
      rw [hx]
      simp [hc]
    unfold cycK
    rw [hU, hK, hD, hP]
    unfold tellK
    simp only [if_true, hl8, hbe, fit_fits hfits]
  have hcd : cyclesOf c d = [] ++ y :: r := by
    unfold cyclesOf
    rw [if_neg (by omega), if_neg (by omega), if_neg (by omega), if_pos (by rw [lo8_eq]; omega)]
    unfold cycIn
    rw [hx]
    simpa using hc
  have hs : stopB ⟨setR (fitR f) 7 (lo (fitR f 7 + 1) 16), d, 0, false⟩ = false := by
    unfold stopB
    simp
    omega
  have hr := run_exec F c d false (by omega) (by omega) r y [] (setR (fitR f) 7 (lo (fitR f 7 + 1) 16)) m fuel hcd hl
  simp only [List.length_nil, Int.ofNat_zero] at hr
  rw [runK, hcy]
  simp only [hs]
  rw [hr]
  rfl
end
end Go.Proofs.Ytdiajkgebicnnaa
namespace Go.Proofs.Ytdiajkgebicnnaa
open Go.RowKit
set_option maxRecDepth 100000

/-- The interface value (T, v) is a memory: its Read and Write are the functions fr and fw; it lies in the blocks G. -/
structure memC (T : TypeId) (v : Value) (fr fw : Nat) (G : Nat → Prop) {M : Type} (F : MemF M) (inv : World → M → Prop) : Prop where
  mr : ∀ w : World, (method 302 T v "Read").run Try.prog w = .ok (fr, v) w
  mw : ∀ w : World, (method 302 T v "Write").run Try.prog w = .ok (fw, v) w
  er : ∀ (args : Array Value) (w : World), (callFunc fr args).run Try.prog w = .ok (.enter fr args) w
  ew : ∀ (args : Array Value) (w : World), (callFunc fw args).run Try.prog w = .ok (.enter fw args) w
  keep : ∀ (w w' : World) (m : M), inv w m → w.heap.size ≤ w'.heap.size → (∀ g, G g → w'.heap[g]? = w.heap[g]?) → inv w' m
  low : ∀ (w : World) (m : M) (g : Nat), inv w m → G g → g < w.heap.size
  rd : ∀ (w : World) (m : M) (a : Int), inv w m → Calls Try.prog fr #[v, .int .i64 a] w fun e w' => e = .returned (.int .i64 (F.rd m a)) ∧ Below w.heap.size w w'
  wr : ∀ (w : World) (m : M) (a d : Int), inv w m → Calls Try.prog fw #[v, .int .i64 a, .int .i64 d] w fun e w' => e = .returned (.tuple #[]) ∧ inv w' (F.wr m a d) ∧ Off G w w'
section
variable {T : TypeId} {v : Value} {fr fw : Nat} {G : Nat → Prop} {M : Type} {F : MemF M} {inv : World → M → Prop} {w w' : World} {m : M}
theorem memC.call (h : memC T v fr fw G F inv) (hi : inv w m) (hb : Below w.heap.size w w') : inv w' m := h.keep w w' m hi hb.size fun g hg => hb.block g (h.low w m g hi hg)
theorem memC.alloc (h : memC T v fr fw G F inv) (hi : inv w m) (o : Obj) : inv (w.alloc o) m := h.call hi ((Below.refl _ _).alloc (Nat.le_refl _) o)
theorem memC.row (h : memC T v fr fw G F inv) (hi : inv w m) {g : Nat} (hg : ¬ G g) (cs : Array Value) : inv (w.setRow g cs) m :=
  h.keep _ _ _ hi (by rw [size_row]; exact Nat.le_refl _) fun k hk => by
    simp only [World.setRow, Array.getElem?_modify]
    rw [if_neg (by rintro rfl; exact hg hk)]
theorem memC.set (h : memC T v fr fw G F inv) (hi : inv w m) {g j : Nat} (hg : ¬ G g) (x : Value) : inv (w.setCell ⟨g, j, none⟩ x) m :=
  h.keep _ _ _ hi (by simp [World.setCell]) fun k hk => Below.heap_setCell w ⟨g, j, none⟩ x k (by rintro rfl; exact hg hk)
theorem memC.drew (h : memC T v fr fw G F inv) (hi : inv w m) : inv w.drew m := h.keep _ _ _ hi (Nat.le_refl _) fun _ _ => rfl
end

/-- A part of a call's blocks: they are new, and none of the memory's. -/
structure cycW (G : Nat → Prop) {M : Type} (inv : World → M → Prop) (w0 w : World) (cpu ks zr zb : Array Value) (m : M) : Prop where
  hp : rowB w w0.heap.size 70 cpu
  hk : rowB w (w0.heap.size + 1) 57 ks
  hr : rowB w (w0.heap.size + 2) 57 zr
  hb : rowB w (w0.heap.size + 3) 73 zb
  off : Off G w0 w
  mem : inv w m
section
variable {T : TypeId} {v : Value} {fr fw : Nat} {G : Nat → Prop} {M : Type} {F : MemF M} {inv : World → M → Prop} {w0 w w' : World} {cpu ks zr zb : Array Value} {m : M}
theorem cycW.call (h : cycW G inv w0 w cpu ks zr zb m) (hC : memC T v fr fw G F inv) (hb : Below w.heap.size w w') : cycW G inv w0 w' cpu ks zr zb m :=
  ⟨rowB_below h.hp hb (rowB_lt h.hp), rowB_below h.hk hb (rowB_lt h.hk), rowB_below h.hr hb (rowB_lt h.hr), rowB_below h.hb hb (rowB_lt h.hb), h.off.call hb, hC.call h.mem hb⟩
theorem cycW.alloc (h : cycW G inv w0 w cpu ks zr zb m) (hC : memC T v fr fw G F inv) (o : Obj) : cycW G inv w0 (w.alloc o) cpu ks zr zb m := h.call hC ((Below.refl _ _).alloc (Nat.le_refl _) o)
theorem cycW.drew (h : cycW G inv w0 w cpu ks zr zb m) (hC : memC T v fr fw G F inv) : cycW G inv w0 w.drew cpu ks zr zb m := ⟨h.hp, h.hk, h.hr, h.hb, h.off.trans (off_drew _ _), hC.drew h.mem⟩
theorem cycW.wrote {m' : M} (h : cycW G inv w0 w cpu ks zr zb m) (hG : ∀ g, G g → g < w0.heap.size) (ho : Off G w w') (hi : inv w' m') : cycW G inv w0 w' cpu ks zr zb m' :=
  ⟨rowB_off h.hp ho fun hg => by have := hG _ hg; omega, rowB_off h.hk ho fun hg => by have := hG _ hg; omega, rowB_off h.hr ho fun hg => by have := hG _ hg; omega, rowB_off h.hb ho fun hg => by have := hG _ hg; omega, h.off.trans ho, hi⟩
theorem cycW.size (h : cycW G inv w0 w cpu ks zr zb m) : w0.heap.size + 3 < w.heap.size := rowB_lt h.hb
/-- The state is stored. -/
theorem cycW.state (h : cycW G inv w0 w cpu ks zr zb m) (hC : memC T v fr fw G F inv) (hG : ∀ g, G g → g < w0.heap.size) (cs : Array Value) : cycW G inv w0 (w.setRow (w0.heap.size + 1) cs) cpu cs zr zb m :=
  ⟨rowB_row_other h.hp cs (by omega), rowB_row h.hk cs, rowB_row_other h.hr cs (by omega), rowB_row_other h.hb cs (by omega), h.off.row (.inr (by omega)) cs, hC.row h.mem (fun hg => by have := hG _ hg; omega) cs⟩
theorem cycW.far (h : cycW G inv w0 w cpu ks zr zb m) (hC : memC T v fr fw G F inv) (hG : ∀ g, G g → g < w0.heap.size) {g : Nat} (hg : w0.heap.size + 3 < g) (cs : Array Value) : cycW G inv w0 (w.setRow g cs) cpu ks zr zb m :=
  ⟨rowB_row_other h.hp cs (by omega), rowB_row_other h.hk cs (by omega), rowB_row_other h.hr cs (by omega), rowB_row_other h.hb cs (by omega), h.off.row (.inr (by omega)) cs, hC.row h.mem (fun hg => by have := hG _ hg; omega) cs⟩
theorem cycW.farC (h : cycW G inv w0 w cpu ks zr zb m) (hC : memC T v fr fw G F inv) (hG : ∀ g, G g → g < w0.heap.size) {g j : Nat} (hg : w0.heap.size + 3 < g) (x : Value) : cycW G inv w0 (w.setCell ⟨g, j, none⟩ x) cpu ks zr zb m :=
  ⟨rowB_other h.hp _ _ (by show g ≠ _; omega), rowB_other h.hk _ _ (by show g ≠ _; omega), rowB_other h.hr _ _ (by show g ≠ _; omega), rowB_other h.hb _ _ (by show g ≠ _; omega), h.off.set (.inr (by show w0.heap.size ≤ g; omega)) x, hC.set h.mem (fun hg => by have := hG _ hg; omega) x⟩
theorem cycW.outR (h : cycW G inv w0 w cpu ks zr zb m) (hC : memC T v fr fw G F inv) (hG : ∀ g, G g → g < w0.heap.size) (cs : Array Value) : cycW G inv w0 (w.setRow (w0.heap.size + 2) cs) cpu ks cs zb m :=
  ⟨rowB_row_other h.hp cs (by omega), rowB_row_other h.hk cs (by omega), rowB_row h.hr cs, rowB_row_other h.hb cs (by omega), h.off.row (.inr (by omega)) cs, hC.row h.mem (fun hg => by have := hG _ hg; omega) cs⟩
theorem cycW.outB (h : cycW G inv w0 w cpu ks zr zb m) (hC : memC T v fr fw G F inv) (hG : ∀ g, G g → g < w0.heap.size) (cs : Array Value) : cycW G inv w0 (w.setRow (w0.heap.size + 3) cs) cpu ks zr cs m :=
  ⟨rowB_row_other h.hp cs (by omega), rowB_row_other h.hk cs (by omega), rowB_row_other h.hr cs (by omega), rowB_row h.hb cs, h.off.row (.inr (by omega)) cs, hC.row h.mem (fun hg => by have := hG _ hg; omega) cs⟩
end
theorem cycW.start {T : TypeId} {v : Value} {fr fw : Nat} {G : Nat → Prop} {M : Type} {F : MemF M} {inv : World → M → Prop} {m : M} (hC : memC T v fr fw G F inv) (w : World) (hi : inv w m) (cpu ks : Array Value) :
    cycW G inv w ((((w.alloc (.cells cpu 70)).alloc (.cells ks 57)).alloc (.cells (core12 (fun _ => 0) 0 0 false) 57)).alloc (.cells (bus3 0 0 0) 73)) cpu ks (core12 (fun _ => 0) 0 0 false) (bus3 0 0 0) m := by
  obtain ⟨k0, k1, k2, k3, b, s⟩ := boxes4 w (.cells cpu 70) (.cells ks 57) (.cells (core12 (fun _ => 0) 0 0 false) 57) (.cells (bus3 0 0 0) 73)
  exact ⟨k0, k1, k2, k3, off_below b, hC.call hi b⟩
theorem bus3_at {w : World} {g : Nat} {d a x : Int} (h : rowB w g 73 (bus3 d a x)) : w.cell? ⟨g, 0, none⟩ = some (.int .i64 d) ∧ w.cell? ⟨g, 1, none⟩ = some (.int .i64 a) ∧ w.cell? ⟨g, 2, none⟩ = some (.int .i64 x) := ⟨rowB_cell h 0 rfl, rowB_cell h 1 rfl, rowB_cell h 2 rfl⟩
theorem bus3_set {w : World} {g : Nat} {d a x : Int} (h : rowB w g 73 (bus3 d a x)) (y : Int) : rowB (w.setCell ⟨g, 2, none⟩ (.int .i64 y)) g 73 (bus3 d a y) := rowB_set h 2 _
end Go.Proofs.Ytdiajkgebicnnaa
namespace Go.Proofs.Ytdiajkgebicnnaa
open Go.RowKit
set_option maxRecDepth 100000

/-- Where an address leads. -/
def at16 (a : Int) : Nat := (a % 65536).toNat
theorem at16_lt (a : Int) : at16 a < 65536 := by unfold at16; omega
theorem at16_of (k : Nat) (h : k < 65536) : at16 (k : Int) = k := by unfold at16; omega
theorem at16_int {a : Int} (h0 : 0 ≤ a) (h1 : a < 65536) : (at16 a : Int) = a := by unfold at16; omega
theorem and65535 (a : Int) : bits .and .i64 a 65535 = (at16 a : Int) := by
  have e : BitVec.ofInt 64 a &&& BitVec.ofInt 64 65535 = BitVec.ofNat 64 (at16 a) := by
    apply BitVec.eq_of_toNat_eq
    rw [BitVec.toNat_and, BitVec.toNat_ofInt, BitVec.toNat_ofInt]
    have e2 : ((65535 : Int) % (2 ^ 64 : Nat)).toNat = 2 ^ 16 - 1 := by decide
    rw [e2, Nat.and_two_pow_sub_one_eq_mod, BitVec.toNat_ofNat]
    unfold at16
    omega
  show IntKind.i64.wrap ((BitVec.ofInt 64 a &&& BitVec.ofInt 64 65535).toNat : Int) = _
  have hl := at16_lt a
  rw [e, BitVec.toNat_ofNat, Nat.mod_eq_of_lt (by omega)]
  exact IntWalk.i64_in _ ⟨by omega, by omega⟩
def flatF : MemF (Nat → Int) := ⟨fun m a => m (at16 a), fun m a d k => if k = at16 a then d % 256 else m k⟩
/-- Block g holds the slice, block b the bytes. -/
structure flatW (g b : Nat) (w : World) (m : Nat → Int) : Prop where
  hg : rowB w g 63 #[.slice (some ⟨b, 0, none⟩) 65536 65536]
  hb : ∃ cs : Array Value, rowB w b 5 cs ∧ cs.size = 65536 ∧ ∀ k, k < 65536 → cs[k]? = some (.int .u8 (m k))
  ne : g ≠ b
  byte : ∀ k, 0 ≤ m k ∧ m k < 256
def flatG (g b : Nat) (k : Nat) : Prop := k = g ∨ k = b
section
variable {g b : Nat} {w : World} {m : Nat → Int}
theorem flatW.cell (h : flatW g b w m) {k : Nat} (hk : k < 65536) : w.cell? ⟨b, k, none⟩ = some (.int .u8 (m k)) := by
  obtain ⟨cs, h1, _, h3⟩ := h.hb
  exact rowB_cell h1 k (h3 k hk)
theorem flatW.free (h : flatW g b w m) (k : Nat) : w.frozen? ⟨b, k, none⟩ = false := by
  obtain ⟨cs, h1, _, _⟩ := h.hb
  exact rowB_free h1 k
theorem flatW.put (h : flatW g b w m) {k : Nat} (hk : k < 65536) (d : Int) (hd : 0 ≤ d ∧ d < 256) : flatW g b (w.setCell ⟨b, k, none⟩ (.int .u8 d)) (fun j => if j = k then d else m j) := by
  obtain ⟨cs, h1, h2, h3⟩ := h.hb
  refine ⟨rowB_other h.hg _ _ (fun e => h.ne e.symm), ⟨_, rowB_set h1 k _, by simpa using h2, fun j hj => ?_⟩, h.ne, fun j => ?_⟩
  · rw [Array.getElem?_setIfInBounds]
    by_cases e : k = j
    · subst e
      rw [if_pos rfl, if_pos (by omega), if_pos rfl]
    · rw [if_neg e, if_neg (fun e' => e e'.symm)]
      exact h3 j hj
  · split
    · exact hd
    · exact h.byte j
theorem flatW.off {w' : World} (h : flatW g b w m) (hs : ∀ k, flatG g b k → w'.heap[k]? = w.heap[k]?) : flatW g b w' m := by
  obtain ⟨cs, h1, h2, h3⟩ := h.hb
  refine ⟨?_, ⟨cs, ?_, h2, h3⟩, h.ne, h.byte⟩
  · unfold rowB; rw [hs g (.inl rfl)]; exact h.hg
  · unfold rowB; rw [hs b (.inr rfl)]; exact h1
theorem flatW.low (h : flatW g b w m) {k : Nat} (hk : flatG g b k) : k < w.heap.size := by
  obtain ⟨cs, h1, _, _⟩ := h.hb
  rcases hk with rfl | rfl
  · exact rowB_lt h.hg
  · exact rowB_lt h1
end
theorem flat_read (g b : Nat) (m : Nat → Int) (a : Int) (w : World) (h : flatW g b w m) :
    Calls Try.prog 190 #[.pointer (some ⟨g, 0, none⟩), .int .i64 a] w fun e w' => e = .returned (.int .i64 (m (at16 a))) ∧ Below w.heap.size w w' := by
  have h0 := rowB_cell h.hg 0 rfl
  have e := and65535 a
  have hk := at16_lt a
  have hc := h.cell hk
  have hb := h.byte (at16 a)
  generalize at16 a = k at *
  generalize m k = y at *
  clear h
  go_enter Try.func190, Try.ntmps190
  go_wp2_with fail
  go_ret
  exact ⟨rfl, Below.refl _ _⟩
theorem flat_write (g b : Nat) (m : Nat → Int) (a d : Int) (w : World) (h : flatW g b w m) :
    Calls Try.prog 191 #[.pointer (some ⟨g, 0, none⟩), .int .i64 a, .int .i64 d] w fun e w' => e = .returned (.tuple #[]) ∧ flatW g b w' (flatF.wr m a d) ∧ Off (flatG g b) w w' := by
  have h0 := rowB_cell h.hg 0 rfl
  have e := and65535 a
  have hk := at16_lt a
  have hc := h.cell hk
  have hf := h.free (at16 a)
  have hp := h.put hk (d % 256) (by omega)
  have ho := (Off.refl (flatG g b) w).set (p := ⟨b, at16 a, none⟩) (.inl (.inr rfl)) (.int .u8 (d % 256))
  have hw : flatF.wr m a d = fun j => if j = at16 a then d % 256 else m j := rfl
  rw [hw]
  clear hw
  generalize at16 a = k at *
  have H := Lib.hid h
  have HP := Lib.hid hp
  have HO := Lib.hid ho
  clear h hp ho
  go_enter Try.func191, Try.ntmps191
  go_wp2_with fail
  exact bodyPost_end (results_none rfl _ _ _) rfl ⟨rfl, HP.out, HO.out⟩

theorem flat_memC (g b : Nat) : memC 58 (.pointer (some ⟨g, 0, none⟩)) 190 191 (flatG g b) flatF (flatW g b) where
  mr := fun _ => by kernel_rfl
  mw := fun _ => by kernel_rfl
  er := fun _ _ => enters_of Try.func190 (by kernel_rfl) rfl _ _
  ew := fun _ _ => enters_of Try.func191 (by kernel_rfl) rfl _ _
  keep := fun _ _ _ h _ hs => h.off fun k hk => hs k hk
  low := fun _ _ _ h hk => h.low hk
  rd := fun w m a h => flat_read g b m a w h
  wr := fun w m a d h => flat_write g b m a d w h
end Go.Proofs.Ytdiajkgebicnnaa
namespace Go.Proofs.Ytdiajkgebicnnaa
open Go.RowKit
set_option maxRecDepth 100000

set_option maxHeartbeats 4000000 in
theorem cycle_any {T : TypeId} {v : Value} {fr fw : Nat} {G : Nat → Prop} {M : Type} {F : MemF M} {inv : World → M → Prop} (hC : memC T v fr fw G F inv)
    (c : Cp) (v0 v1 v2 v3 : Value) (k : Ks) (q : Bool) (m : M) (w : World) (hm : inv w m) (hst : ∀ w', Off G w w' → cpuArg w' v0 v1 v2 v3 c) :
    Calls Try.prog 37 #[.agg (cpu5 c.name v0 v1 v2 v3), .agg k.row, .bool q, .iface T v] w fun e w' =>
      e = .returned (.tuple #[.agg (cycK F c k q m).1.row, .agg (cycK F c k q m).2.1.row]) ∧ inv w' (cycK F c k q m).2.2 ∧ Off G w w' := by
  have hG : ∀ g, G g → g < w.heap.size := fun g hg => hC.low w m g hm hg
  obtain ⟨f, op, pl, n⟩ := k
  have hW := cycW.start hC w hm (cpu5 c.name v0 v1 v2 v3) (core12 f op pl n)
  have hask := fun w' (ho : Off G w w') => ask_any c v0 v1 v2 v3 f op pl n q w' (hst w' ho)
  obtain ⟨a, ha⟩ : ∃ a, a = askK c ⟨f, op, pl, n⟩ q := ⟨_, rfl⟩
  obtain ⟨b, hb⟩ : ∃ b, b = askU c ⟨f, op, pl, n⟩ q := ⟨_, rfl⟩
  have hrow : askCore c (fitR f) op pl n q = a.row := ha ▸ askK_row c ⟨f, op, pl, n⟩ q
  have hbus : askBus c (fitR f) op pl n q = b.row := hb ▸ askU_row c ⟨f, op, pl, n⟩ q
  simp only [hrow, hbus] at hask
  have hcyc : cycK F c ⟨f, op, pl, n⟩ q m = (tellK c a (datU F b m), ⟨b.d, b.a, datU F b m⟩, putU F b m) := by unfold cycK; rw [← ha, ← hb]
  obtain ⟨Dt, hDt⟩ : ∃ Dt, Dt = datU F b m := ⟨_, rfl⟩
  obtain ⟨m', hm'⟩ : ∃ m', m' = putU F b m := ⟨_, rfl⟩
  obtain ⟨t, ht⟩ : ∃ t, t = tellK c a Dt := ⟨_, rfl⟩
  rw [← hDt, ← hm', ← ht] at hcyc
  obtain ⟨b0, b1, b2⟩ := b
  obtain ⟨af, ao, ap, an⟩ := a
  have htell := fun w' (ho : Off G w w') => tell_any c v0 v1 v2 v3 af ao ap an Dt w' (hst w' ho)
  have htr := tellK_row c ⟨af, ao, ap, an⟩ Dt
  rw [← ht] at htr
  simp only at htr
  simp only [htr] at htell
  obtain ⟨tf, tq, tp, tn⟩ := t
  rw [hcyc]
  simp only [Ks.row, Bu.row] at hask htell ⊢
  have HDt := Lib.hid hDt
  have Hm' := Lib.hid hm'
  clear hDt hm' ht
  have HASK := Lib.hid hask
  have HTELL := Lib.hid htell
  have HRD := Lib.hid (fun w m a h => hC.rd w m a h)
  have HWR := Lib.hid (fun w m a d h => hC.wr w m a d h)
  have mr := hC.mr
  have mw := hC.mw
  have er := hC.er
  have ew := hC.ew
  have lo8 := fun n w => low_any n 8 w
  rw [show wd 8 = 8 from rfl] at lo8
  clear hask htell hst hrow hbus hcyc htr ha hb
  go_enter Try.func37, Try.ntmps37
  go_upto_region 1 with (fail)
  change Code.wp _ _ _ _ ((((w.alloc (.cells (cpu5 c.name v0 v1 v2 v3) 70)).alloc (.cells (core12 f op pl n) 57)).alloc (.cells (core12 (fun _ => 0) 0 0 false) 57)).alloc (.cells (bus3 0 0 0) 73))
  generalize (((w.alloc (.cells (cpu5 c.name v0 v1 v2 v3) 70)).alloc (.cells (core12 f op pl n) 57)).alloc (.cells (core12 (fun _ => 0) 0 0 false) 57)).alloc (.cells (bus3 0 0 0) 73) = w1 at *
  go_upto_region 2 with (first
      | (refine wpList_loadR rfl 70 _ rfl (w.heap.size) rfl 70 (cpu5 c.name v0 v1 v2 v3) ?_ agP ?_; with_reducible exact hW.hp)
      | (refine wpList_loadR rfl 57 _ rfl (w.heap.size + 1) rfl 57 (core12 f op pl n) ?_ agK ?_; with_reducible exact hW.hk)
      | (go_at_call 82; refine (HASK.out _ hW.off).mono ?_; rintro e w2 ⟨rfl, hb⟩; have hW2 := (hW.call hC hb).alloc hC (.cells (bus3 0 0 0) 73); have nz := rowB_new w2 73 (bus3 0 0 0))
      | (refine wpList_storeR rfl 57 _ _ rfl (w.heap.size + 1) rfl (core12 af ao ap an) rfl (core12_one _ _ _ _) 57 (core12 f op pl n) rfl ?_ agK ?_; exact hW2.hk)
      | (refine wpList_storeR rfl 73 _ _ rfl (w2.heap.size) rfl (bus3 b0 b1 b2) rfl (bus3_one _ _ _) 73 (bus3 0 0 0) rfl ?_ agB ?_; exact rowB_row_other nz _ (by have h3 := hW.size; have h4 := hb.size; omega)))
  have hW3 := (hW2.state hC hG (core12 af ao ap an)).far hC hG (g := w2.heap.size) (by have h3 := hW.size; have h4 := hb.size; omega) (bus3 b0 b1 b2)
  have nB := rowB_row (rowB_row_other nz (core12 af ao ap an) (show w.heap.size + 1 ≠ w2.heap.size by have h3 := hW.size; have h4 := hb.size; omega)) (bus3 b0 b1 b2)
  have hy : w.heap.size + 3 < w2.heap.size := by have h3 := hW.size; have h4 := hb.size; omega
  change Code.wp _ _ _ _ (((w2.alloc (.cells (bus3 0 0 0) 73)).setRow (w.heap.size + 1) (core12 af ao ap an)).setRow w2.heap.size (bus3 b0 b1 b2))
  generalize ((w2.alloc (.cells (bus3 0 0 0) 73)).setRow (w.heap.size + 1) (core12 af ao ap an)).setRow w2.heap.size (bus3 b0 b1 b2) = w3 at *
  generalize w2.heap.size = y at *
  clear hW hW2 hb nz
  obtain ⟨d0, d1, d2⟩ := bus3_at nB
  go_upto_block 0 with (fail)
  clear d0
  go_cut [] (fun wx => cycW G inv w wx (cpu5 c.name v0 v1 v2 v3) (core12 af ao ap an) (core12 (fun _ => 0) 0 0 false) (bus3 0 0 0) m' ∧ rowB wx y 73 (bus3 b0 b1 Dt))
  case first =>
    have hf2 := rowB_free nB 2
    by_cases h1 : b0 = 1
    · subst h1
      clear HWR mw ew
      go_wp2_with (first
        | (with_reducible refine (HRD.out _ m b1 hW3.mem).mono ?_; rintro e w4 ⟨rfl, hb⟩; have hW4 := hW3.call hC hb; have nB4 := rowB_below nB hb (rowB_lt nB); have hf4 := rowB_free nB4 2; obtain ⟨e0, e1, e2⟩ := bus3_at nB4)
        | (go_at_call 34; refine (lo8 _ _).mono ?_; rintro e w' ⟨rfl, rfl⟩))
      go_meet
      case rel => exact ⟨by rw [show m' = m from Hm'.out]; exact hW4.farC hC hG hy _, by rw [show Dt = lo (F.rd m b1) 8 from HDt.out]; exact bus3_set nB4 _⟩
    · have t1 : (b0 == 1) = false := by simpa using h1
      obtain rfl : Dt = b2 := by rw [HDt.out]; unfold datU; exact if_neg h1
      clear HDt HRD mr er
      by_cases h2 : b0 = 2
      · subst h2
        obtain rfl : m' = F.wr m b1 Dt := Hm'.out
        clear Hm'
        go_wp2_with (with_reducible refine (HWR.out _ m b1 Dt hW3.mem).mono ?_; rintro e w4 ⟨rfl, hi, ho⟩; have hW4 := hW3.wrote hG ho hi; have nB4 := rowB_off nB ho (fun hg => by have := hG _ hg; omega))
        go_meet
        case rel => exact ⟨hW4, nB4⟩
      · have t2 : (b0 == 2) = false := by simpa using h2
        obtain rfl : m' = m := by rw [Hm'.out]; unfold putU; exact if_neg h2
        clear Hm'
        go_wp2_with fail
        go_meet
        case rel => exact ⟨hW3, nB⟩
  case rest =>
    clear hW3 nB d1 d2 lo8 mr mw er ew HRD HWR HASK
    obtain ⟨hW, nB⟩ := hcut
    clear hm HDt Hm'
    go_upto_region 7 with (fail)
    obtain ⟨d0, d1, d2⟩ := bus3_at nB
    refine wp_region_mix (fun w' => rowB w' w.heap.size 70 (cpu5 c.name v0 v1 v2 v3) ∧ rowB w' (w.heap.size + 1) 57 (core12 af ao ap an) ∧ rowB w' y 73 (bus3 b0 b1 Dt)) [(0, 1), (1, 1), (2, 0), (3, 0), (5, 1), (4, 3), (6, 3), (7, 2)] (by kernel_rfl) (by kernel_rfl) (fun _ _ _ _ _ h => h) ?_
    simp only [List.map_cons, List.map_nil, opOf, List.getD_cons_zero, List.getD_cons_succ]
    change wpMix _ _ _ _ _ _ wc.drew
    have hW := hW.drew hC
    have nB : rowB wc.drew y 73 (bus3 b0 b1 Dt) := nB
    have d2 : wc.drew.cell? ⟨y, 2, none⟩ = some (.int .i64 Dt) := d2
    clear d0 d1
    generalize wc.drew = wd at *
    refine wpMix_held (.agg (cpu5 c.name v0 v1 v2 v3)) rfl ⟨hW.hp, hW.hk, nB⟩ (fun w' h' => exec_rowR 70 _ rfl (w.heap.size) rfl 70 (cpu5 c.name v0 v1 v2 v3) h'.1 agP) ?_
    simp only [Act.put, List.setIfInBounds_toArray, List.set_cons_zero, List.set_cons_succ]
    refine wpMix_held (.agg (core12 af ao ap an)) rfl ⟨hW.hp, hW.hk, nB⟩ (fun w' h' => exec_rowR 57 _ rfl (w.heap.size + 1) rfl 57 (core12 af ao ap an) h'.2.1 agK) ?_
    simp only [Act.put, List.setIfInBounds_toArray, List.set_cons_zero, List.set_cons_succ]
    (refine wpMix_still (fun K hK => ?_); go_simp; refine hK _ ?_; clear hK K)
    (refine wpMix_still (fun K hK => ?_); go_simp; refine hK _ ?_; clear hK K)
    refine wpMix_held (.agg (bus3 b0 b1 Dt)) rfl ⟨hW.hp, hW.hk, nB⟩ (fun w' h' => exec_rowR 73 _ rfl y rfl 73 (bus3 b0 b1 Dt) h'.2.2 agB) ?_
    simp only [Act.put, List.setIfInBounds_toArray, List.set_cons_zero, List.set_cons_succ]
    refine wpMix_call ?_
    go_wp2_with (go_at_call 83; refine (HTELL.out _ hW.off).mono ?_; rintro e we ⟨rfl, hb⟩; have hW2 := hW.call hC hb; have nB2 := rowB_below nB hb (rowB_lt nB))
    first | refine ⟨fun _ => ⟨hW2.hp, hW2.hk, nB2⟩, ?_⟩ | refine ⟨⟨hW2.hp, hW2.hk, nB2⟩, ?_⟩
    clear hW nB d2 hb
    refine wpMix_call ?_
    go_wp2_with (refine wpList_storeR rfl 57 _ _ rfl (w.heap.size + 2) rfl (core12 tf tq tp tn) rfl (core12_one _ _ _ _) 57 (core12 (fun _ => 0) 0 0 false) rfl ?_ agK ?_; with_reducible exact hW2.hr)
    have hW3 := hW2.outR hC hG (core12 tf tq tp tn)
    have nB3 := rowB_row_other nB2 (core12 tf tq tp tn) (show w.heap.size + 2 ≠ y by omega)
    first | refine ⟨fun _ => ⟨hW3.hp, hW3.hk, nB3⟩, ?_⟩ | refine ⟨⟨hW3.hp, hW3.hk, nB3⟩, ?_⟩
    generalize we.setRow (w.heap.size + 2) (core12 tf tq tp tn) = wf at *
    clear hW2 nB2
    refine wpMix_call ?_
    go_wp2_with (refine wpList_storeR rfl 73 _ _ rfl (w.heap.size + 3) rfl (bus3 b0 b1 Dt) rfl (bus3_one _ _ _) 73 (bus3 0 0 0) rfl ?_ agB ?_; with_reducible exact hW3.hb)
    have hW4 := hW3.outB hC hG (bus3 b0 b1 Dt)
    first | refine ⟨fun h => (by cases h), ?_⟩ | skip
    generalize wf.setRow (w.heap.size + 3) (bus3 b0 b1 Dt) = wg at *
    clear hW3 nB3
    refine wpMix_nil ?_
    go_wp2_with fail
    exact bodyPost_ret (resultsRR rfl (w.heap.size + 2) (w.heap.size + 3) _ rfl rfl hW4.hr hW4.hb agK agB) rfl ⟨rfl, hW4.mem, hW4.off⟩
end Go.Proofs.Ytdiajkgebicnnaa
namespace Go.Proofs.Ytdiajkgebicnnaa
open Go.RowKit
set_option maxRecDepth 100000

/-- What was done on the bus, as a slice of the call's own. -/
def busQ (cs : List Value) (b : Bu) : Prop := cs = [.int .i64 b.d, .int .i64 b.a, .int .i64 b.x]
def busO (lo : Nat) (w : World) (v : Value) (l : List Bu) : Prop := ownArr 3 busQ lo 73 w v l
theorem busQ_one : ∀ cs b, busQ cs b → ∀ u ∈ cs, u.oneCell' = true := by
  rintro cs b rfl u hu
  simp only [List.mem_cons, List.not_mem_nil, or_false] at hu
  rcases hu with rfl | rfl | rfl <;> rfl
theorem ownArr_offG {α : Type} {k : Nat} {R : List Value → α → Prop} {B : Nat} {e : TypeId} {w w' : World} {v : Value} {l : List α} {G : Nat → Prop} (h : ownArr k R B e w v l) (ho : Off G w w') (hG : ∀ g, G g → g < B) : ownArr k R B e w' v l := by
  obtain ⟨f, hf, ⟨h1, h2⟩, hR⟩ := h
  refine ⟨f, hf, ⟨h1, ?_⟩, hR⟩
  rcases h2 with hn | ⟨g, cap, cur, hv, hB, hg, r⟩
  · exact .inl hn
  · refine .inr ⟨g, cap, cur, hv, hB, ?_, r⟩
    rw [ho.block g (Array.getElem?_eq_some_iff.1 hg).1 (fun hg' => by have := hG g hg'; omega)]; exact hg
theorem infoBus : ∃ i, Try.prog.info? 73 = some i ∧ i.zero = some (.agg #[.int .i64 0, .int .i64 0, .int .i64 0]) ∧ i.size = 3 ∧ i.bytes = 24 := by
  have h : (Try.prog.info? 73).map (fun i => (i.zero, i.size, i.bytes)) = some (some (.agg #[.int .i64 0, .int .i64 0, .int .i64 0]), 3, 24) := by kernel_rfl
  cases hh : Try.prog.info? 73 with
  | none => rw [hh] at h; cases h
  | some i => rw [hh] at h; simp only [Option.map_some, Option.some.injEq, Prod.mk.injEq] at h; exact ⟨i, rfl, h⟩
theorem busO_one (w : World) (b : Bu) : busO w.heap.size (w.alloc (.cells #[.int .i64 b.d, .int .i64 b.a, .int .i64 b.x] 73)) (.slice (some ⟨w.heap.size, 0, none⟩) 1 1) [b] :=
  own_lit [[.int .i64 b.d, .int .i64 b.a, .int .i64 b.x]] [b] ⟨rfl, rfl, trivial⟩ rfl _ rfl 1 rfl (by decide) w (Nat.le_refl _) _ _ rfl
section
variable {w : World} {ops : Array Oper} {rest : List Oper} {o : Oper} {a : Act} {Q : Exit → Act → World → Prop}
theorem wpList_bus (hgd : o.guard = none) (s x : Operand) (ho : o.op = .call { callee := .builtin .append, args := #[s, x], argTypes := #[96, 96] })
    (B lo : Nat) (v u : Value) (hs : a.eval s = v) (hx : a.eval x = u) (l m : List Bu) (hown : busO B w v l) (harr : busO lo w u m) (hl : l.length + m.length ≤ 1000) (hB : B ≤ w.heap.size)
    (h : ∀ (a' : Option Addr) (n c : Nat) w', busO B w' (.slice a' n c) (l ++ m) → w.grownBy w' v.ownBlock → wpList Try.prog ops Q rest (a.put o.dst (.slice a' n c)) w') : wpList Try.prog ops Q (o :: rest) a w := by
  obtain ⟨i, i1, i2, i3, i4⟩ := infoBus
  refine wpList_append_arr2 hgd s x 96 ho 73 3 24 i _ Try.underlying96 i1 i2 i3 i4 rfl (by decide) busQ_one B v u hs hx l m hown (ownArr_isArr harr) (by unfold maxLen; omega) (by omega) hB ?_
  intro v' w' h1 h2
  obtain ⟨a', c', rfl⟩ := own_slice h1
  exact h _ _ _ _ h1 h2
end
theorem resultsRS {P : Program} {fn : Func} {p q : Tmp} {ty : TypeId} (h : fn.results = #[.cell p ty, .tmp q])
    (g : Nat) (tmps : Array Value) (hp : tmps.getD p undef = .pointer (some ⟨g, 0, none⟩)) {w : World} {t : TypeId} {cs : Array Value} (hb : rowB w g t cs) (h9 : isAg P ty cs.size) (b : Value) (hq : tmps.getD q undef = b) :
    (results fn tmps).run P w = .ok (.tuple #[.agg cs, b]) w := by
  obtain ⟨⟨d, hu, hd⟩, hi⟩ := h9
  have hl := run_loadVar_row (P := P) w g t ty cs (0, 0) _ hb hu (by cases d <;> simp_all) hi
  rw [Array.getD_eq_getD_getElem?] at hp hq
  simp only [results, h]
  simp [hp, hq, asAddr, hl]

theorem row_grown (w : World) (g : Nat) (cs : Array Value) : w.grownBy (w.setRow g cs) (some g) :=
  ⟨rfl, rfl, rfl, by rw [size_row]; exact Nat.le_refl _, fun k _ hk => by
    simp only [World.setRow, Array.getElem?_modify]
    rw [if_neg (by rintro rfl; exact hk rfl)]⟩
theorem own_lt {α : Type} {k : Nat} {R : List Value → α → Prop} {B : Nat} {e : TypeId} {w : World} {v : Value} {l : List α} (h : ownArr k R B e w v l) : v.ownBlock = none ∨ v.ownBlock ≠ some w.heap.size := by
  obtain ⟨f, _, ho, _⟩ := h
  rcases ho.2 with ⟨rfl, _⟩ | ⟨b, cap, cur, rfl, _, hb, _⟩
  · exact .inl rfl
  · refine .inr fun e => ?_
    have : b = w.heap.size := by simpa [Value.ownBlock] using e
    have hlt := (Array.getElem?_eq_some_iff.1 hb).1
    omega
/-- The blocks of a call of Run. -/
structure runW (G : Nat → Prop) {M : Type} (inv : World → M → Prop) (w0 w : World) (cpu ks zr : Array Value) (m : M) : Prop where
  hp : rowB w w0.heap.size 70 cpu
  hk : rowB w (w0.heap.size + 1) 57 ks
  hr : rowB w (w0.heap.size + 2) 57 zr
  off : Off G w0 w
  mem : inv w m
section
variable {T : TypeId} {v : Value} {fr fw : Nat} {G : Nat → Prop} {M : Type} {F : MemF M} {inv : World → M → Prop} {w0 w w' : World} {cpu ks zr : Array Value} {m : M}
theorem runW.size (h : runW G inv w0 w cpu ks zr m) : w0.heap.size + 2 < w.heap.size := rowB_lt h.hr
theorem runW.call (h : runW G inv w0 w cpu ks zr m) (hC : memC T v fr fw G F inv) (hb : Below w.heap.size w w') : runW G inv w0 w' cpu ks zr m :=
  ⟨rowB_below h.hp hb (rowB_lt h.hp), rowB_below h.hk hb (rowB_lt h.hk), rowB_below h.hr hb (rowB_lt h.hr), h.off.call hb, hC.call h.mem hb⟩
theorem runW.alloc (h : runW G inv w0 w cpu ks zr m) (hC : memC T v fr fw G F inv) (o : Obj) : runW G inv w0 (w.alloc o) cpu ks zr m := h.call hC ((Below.refl _ _).alloc (Nat.le_refl _) o)
theorem runW.wrote {m' : M} (h : runW G inv w0 w cpu ks zr m) (hG : ∀ g, G g → g < w0.heap.size) (ho : Off G w w') (hi : inv w' m') : runW G inv w0 w' cpu ks zr m' :=
  ⟨rowB_off h.hp ho fun hg => by have := hG _ hg; omega, rowB_off h.hk ho fun hg => by have := hG _ hg; omega, rowB_off h.hr ho fun hg => by have := hG _ hg; omega, h.off.trans ho, hi⟩
theorem runW.state (h : runW G inv w0 w cpu ks zr m) (hC : memC T v fr fw G F inv) (hG : ∀ g, G g → g < w0.heap.size) (cs : Array Value) : runW G inv w0 (w.setRow (w0.heap.size + 1) cs) cpu cs zr m :=
  ⟨rowB_row_other h.hp cs (by omega), rowB_row h.hk cs, rowB_row_other h.hr cs (by omega), h.off.row (.inr (by omega)) cs, hC.row h.mem (fun hg => by have := hG _ hg; omega) cs⟩
theorem runW.far (h : runW G inv w0 w cpu ks zr m) (hC : memC T v fr fw G F inv) (hG : ∀ g, G g → g < w0.heap.size) {g : Nat} (hg : w0.heap.size + 2 < g) (cs : Array Value) : runW G inv w0 (w.setRow g cs) cpu ks zr m :=
  ⟨rowB_row_other h.hp cs (by omega), rowB_row_other h.hk cs (by omega), rowB_row_other h.hr cs (by omega), h.off.row (.inr (by omega)) cs, hC.row h.mem (fun hg => by have := hG _ hg; omega) cs⟩
theorem runW.outR (h : runW G inv w0 w cpu ks zr m) (hC : memC T v fr fw G F inv) (hG : ∀ g, G g → g < w0.heap.size) (cs : Array Value) : runW G inv w0 (w.setRow (w0.heap.size + 2) cs) cpu ks cs m :=
  ⟨rowB_row_other h.hp cs (by omega), rowB_row_other h.hk cs (by omega), rowB_row h.hr cs, h.off.row (.inr (by omega)) cs, hC.row h.mem (fun hg => by have := hG _ hg; omega) cs⟩
theorem runW.grown {lo : Nat} {u : Value} {l : List Bu} (h : runW G inv w0 w cpu ks zr m) (hC : memC T v fr fw G F inv) (hG : ∀ g, G g → g < w0.heap.size) (hu : busO lo w u l) (hlo : w0.heap.size + 3 ≤ lo) (hg : w.grownBy w' u.ownBlock) : runW G inv w0 w' cpu ks zr m := by
  have hoff : ∀ {g : Nat}, g < lo → g ≠ lo → (some g) ≠ u.ownBlock := fun {g} hg' _ e => by
    rcases ownArr_off hu hg' with h1 | h1
    · rw [h1] at e; cases e
    · exact h1 e.symm
  have hblk : ∀ {g : Nat}, g < lo → g < w.heap.size → w'.heap[g]? = w.heap[g]? := fun {g} h1 h2 => hg.block g h2 (hoff h1 (by omega))
  refine ⟨?_, ?_, ?_, ?_, ?_⟩
  · have := rowB_lt h.hp; unfold rowB; rw [hblk (by omega) this]; exact h.hp
  · have := rowB_lt h.hk; unfold rowB; rw [hblk (by omega) this]; exact h.hk
  · have := rowB_lt h.hr; unfold rowB; rw [hblk (by omega) this]; exact h.hr
  · refine h.off.grown hg fun k hk => .inr ?_
    by_cases hkl : k < w0.heap.size
    · exact absurd hk.symm (hoff (by omega) (by omega))
    · omega
  · exact hC.keep _ _ _ h.mem hg.size fun g hg' => hblk (by have := hG g hg'; omega) (hC.low _ _ _ h.mem hg')
end
theorem runW.start {T : TypeId} {v : Value} {fr fw : Nat} {G : Nat → Prop} {M : Type} {F : MemF M} {inv : World → M → Prop} {m : M} (hC : memC T v fr fw G F inv) (w : World) (hi : inv w m) (cpu ks : Array Value) :
    runW G inv w (((w.alloc (.cells cpu 70)).alloc (.cells ks 57)).alloc (.cells (core12 (fun _ => 0) 0 0 false) 57)) cpu ks (core12 (fun _ => 0) 0 0 false) m := by
  obtain ⟨k0, k1, k2, b, s⟩ := boxes3 w (.cells cpu 70) (.cells ks 57) (.cells (core12 (fun _ => 0) 0 0 false) 57)
  exact ⟨k0, k1, k2, off_below b, hC.call hi b⟩

theorem runK_stop {M : Type} (F : MemF M) (c : Cp) {j : Nat} (hj : j < 20) (k k2 : Ks) (b : Bu) (m m2 : M) (L : List Bu) (hc : (k2, b, m2) = cycK F c k false m) (hs : stopB k2 = true) :
    ((runK F c (20 - j) k m).1, L ++ (runK F c (20 - j) k m).2.1, (runK F c (20 - j) k m).2.2) = (k2, L ++ [b], m2) := by
  obtain ⟨n, hn⟩ : ∃ n, 20 - j = n + 1 := ⟨19 - j, by omega⟩
  rw [hn]
  unfold runK
  rw [← hc]
  simp only [hs, if_true]
theorem runK_go {M : Type} (F : MemF M) (c : Cp) {j : Nat} (hj : j < 20) (k k2 : Ks) (b : Bu) (m m2 : M) (L : List Bu) (hc : (k2, b, m2) = cycK F c k false m) (hs : stopB k2 = false) :
    ((runK F c (20 - j) k m).1, L ++ (runK F c (20 - j) k m).2.1, (runK F c (20 - j) k m).2.2) =
      ((runK F c (20 - (j + 1)) k2 m2).1, (L ++ [b]) ++ (runK F c (20 - (j + 1)) k2 m2).2.1, (runK F c (20 - (j + 1)) k2 m2).2.2) := by
  have hn : 20 - j = (20 - (j + 1)) + 1 := by omega
  rw [hn]
  rw [runK, ← hc]
  simp [hs]
/-- What Run gives. -/
def runEnd (G : Nat → Prop) {M : Type} (inv : World → M → Prop) (w : World) (R : Ks × List Bu × M) (e : Ending) (w' : World) : Prop :=
  ∃ (a : Option Addr) (n c : Nat), e = .returned (.tuple #[.agg R.1.row, .slice a n c]) ∧ busO (w.heap.size + 3) w' (.slice a n c) R.2.1 ∧ inv w' R.2.2 ∧ Off G w w'

set_option maxHeartbeats 4000000 in
theorem run_any {T : TypeId} {v : Value} {fr fw : Nat} {G : Nat → Prop} {M : Type} {F : MemF M} {inv : World → M → Prop} (hC : memC T v fr fw G F inv)
    (c : Cp) (v0 v1 v2 v3 : Value) (k : Ks) (m : M) (w : World) (hm : inv w m) (hst : ∀ w', Off G w w' → cpuArg w' v0 v1 v2 v3 c) :
    Calls Try.prog 50 #[.agg (cpu5 c.name v0 v1 v2 v3), .agg k.row, .iface T v] w (runEnd G inv w (runK F c 20 k m)) := by
  have hG : ∀ g, G g → g < w.heap.size := fun g hg => hC.low w m g hm hg
  have hW := runW.start hC w hm (cpu5 c.name v0 v1 v2 v3) k.row
  obtain ⟨R, hR⟩ : ∃ R, R = runK F c 20 k m := ⟨_, rfl⟩
  rw [← hR]
  have HR := Lib.hid hR
  have HCYC := Lib.hid (fun (k : Ks) (m : M) w' (ho : Off G w w') (hm' : inv w' m) => cycle_any hC c v0 v1 v2 v3 k false m w' hm' (fun w'' h'' => hst w'' (ho.trans h'')))
  clear hR hm hst
  have hl0 : busO (w.heap.size + 3) (((w.alloc (.cells (cpu5 c.name v0 v1 v2 v3) 70)).alloc (.cells k.row 57)).alloc (.cells (core12 (fun _ => 0) 0 0 false) 57)) (.slice none 0 0) [] := ownArr_nil _ _ _ _ _
  go_enter Try.func50, Try.ntmps50
  go_upto_region 2 with (fail)
  change Code.wp _ _ _ _ (((w.alloc (.cells (cpu5 c.name v0 v1 v2 v3) 70)).alloc (.cells k.row 57)).alloc (.cells (core12 (fun _ => 0) 0 0 false) 57))
  generalize ((w.alloc (.cells (cpu5 c.name v0 v1 v2 v3) 70)).alloc (.cells k.row 57)).alloc (.cells (core12 (fun _ => 0) 0 0 false) 57) = w1 at *
  go_wp2_with fail
  go_loopw [8, 10] (fun l i wr => ∃ (j : Nat) (k' : Ks) (m' : M) (L : List Bu) (a : Option Addr) (n cp : Nat), j ≤ 20 ∧ i = .int .i64 j ∧ l = .slice a n cp ∧ L.length = j ∧ runW G inv w wr (cpu5 c.name v0 v1 v2 v3) k'.row (core12 (fun _ => 0) 0 0 false) m' ∧ busO (w.heap.size + 3) wr (.slice a n cp) L ∧
      R = ((runK F c (20 - j) k' m').1, L ++ (runK F c (20 - j) k' m').2.1, (runK F c (20 - j) k' m').2.2)) (fun _ i _ => 20 - (intOf i).toNat)
  case atStart => exact ⟨0, k, m, [], none, 0, 0, by decide, rfl, rfl, rfl, hW, hl0, HR.out⟩
  case round =>
    clear hW hl0
    obtain ⟨j, k', m', L, sa, sn, sc, hj, rfl, rfl, hL, hW, hl, hRR⟩ := hrel
    have HRR := Lib.hid hRR
    have HL := Lib.hid hL
    clear hRR hL
    by_cases hlt : j < 20
    · obtain ⟨⟨k2, b2, m2⟩, hc⟩ : ∃ x, x = cycK F c k' false m' := ⟨_, rfl⟩
      have hcy := HCYC.out k' m'
      rw [← hc] at hcy
      have HCY := Lib.hid hcy
      have Hc := Lib.hid hc
      clear hcy hc HCYC
      obtain ⟨b0, b1, bx⟩ := b2
      simp only [Ks.row, Bu.row] at HCY hW
      go_upto_region 5 with (fail)
      have hW1 := hW.alloc hC (.cells (bus3 0 0 0) 73)
      have nz := rowB_new wr 73 (bus3 0 0 0)
      have hl1 := ownArr_offG hl ((Off.refl G wr).alloc (.cells (bus3 0 0 0) 73)) (fun g hg => by have := hG g hg; omega)
      have hy := hW.size
      have hne := own_lt hl
      change Code.wp _ _ _ _ (wr.alloc (.cells (bus3 0 0 0) 73))
      generalize wr.alloc (.cells (bus3 0 0 0) 73) = wa at *
      generalize wr.heap.size = y at *
      clear hW hl
      go_upto_region 6 with (first
        | (refine wpList_loadR rfl 70 _ rfl (w.heap.size) rfl 70 (cpu5 c.name v0 v1 v2 v3) ?_ agP ?_; with_reducible exact hW1.hp)
        | (refine wpList_loadR rfl 57 _ rfl (w.heap.size + 1) rfl 57 (core12 k'.f k'.op k'.pl k'.n) ?_ agK ?_; with_reducible exact hW1.hk)
        | (go_at_call 37; refine (HCY.out _ hW1.off hW1.mem).mono ?_; rintro e wb ⟨rfl, hi, ho⟩; have hW2 := hW1.wrote hG ho hi; have nz2 := rowB_off nz ho (fun hg => by have := hG _ hg; omega); have hl2 := ownArr_offG hl1 ho (fun g hg => by have := hG g hg; omega))
        | (refine wpList_storeR rfl 57 _ _ rfl (w.heap.size + 1) rfl (core12 k2.f k2.op k2.pl k2.n) rfl (core12_one _ _ _ _) 57 (core12 k'.f k'.op k'.pl k'.n) rfl ?_ agK ?_; exact hW2.hk)
        | (refine wpList_storeR rfl 73 _ _ rfl (y) rfl (bus3 b0 b1 bx) rfl (bus3_one _ _ _) 73 (bus3 0 0 0) rfl ?_ agB ?_; exact rowB_row_other nz2 _ (by omega)))
      have hW3 := (hW2.state hC hG (core12 k2.f k2.op k2.pl k2.n)).far hC hG (g := y) (by omega) (bus3 b0 b1 bx)
      have nB := rowB_row (rowB_row_other nz2 (core12 k2.f k2.op k2.pl k2.n) (show w.heap.size + 1 ≠ y by omega)) (bus3 b0 b1 bx)
      have hl3 := ownArr_kept (ownArr_kept hl2 (row_grown wb (w.heap.size + 1) (core12 k2.f k2.op k2.pl k2.n)) (ownArr_off hl2 (by omega))) (row_grown _ y (bus3 b0 b1 bx)) hne
      change Code.wp _ _ _ _ ((wb.setRow (w.heap.size + 1) (core12 k2.f k2.op k2.pl k2.n)).setRow y (bus3 b0 b1 bx))
      generalize (wb.setRow (w.heap.size + 1) (core12 k2.f k2.op k2.pl k2.n)).setRow y (bus3 b0 b1 bx) = wc at *
      clear hW1 nz hl1 hW2 nz2 hl2 hi ho HCY hne
      have hL20 : L.length ≤ 20 := by have := HL.out; omega
      have ho1 := busO_one wc ⟨b0, b1, bx⟩
      have hW4 := hW3.alloc hC (.cells #[.int .i64 b0, .int .i64 b1, .int .i64 bx] 73)
      have hl4 := ownArr_offG hl3 ((Off.refl G wc).alloc (.cells #[.int .i64 b0, .int .i64 b1, .int .i64 bx] 73)) (fun g hg => by have := hG g hg; omega)
      have hs4 := hW4.size
      simp only at ho1
      have nB1 : rowB wc y 73 #[.int .i64 b0, .int .i64 b1, .int .i64 bx] := nB
      go_upto_region 7 with (first
        | (refine wpList_loadR rfl 73 _ rfl y rfl 73 #[.int .i64 b0, .int .i64 b1, .int .i64 bx] ?_ agB ?_; with_reducible exact nB1)
        | (refine wpList_bus rfl _ _ rfl (w.heap.size + 3) wc.heap.size _ _ rfl rfl L [⟨b0, b1, bx⟩] hl4 ho1 (by simp; omega) (by omega) ?_; intro a' n' c' wd hl5 hg5; have hW5 := hW4.grown hC hG hl4 (Nat.le_refl _) hg5))
      clear hW3 hl3 hL20 ho1 hW4 hl4 hs4 nB nB1 hg5
      have hop := coreB_op hW5.hk
      obtain ⟨k2f, k2o, k2p, k2n⟩ := k2
      simp only at hop hW5
      by_cases hs : stopB ⟨k2f, k2o, k2p, k2n⟩ = true
      · have HS := Lib.hid (HRR.out.trans (runK_stop F c hlt k' _ _ m' m2 L Hc.out hs))
        by_cases h1 : k2o = -1
        · subst h1
          go_wp2_with (first
            | (refine wpList_loadR rfl 57 _ rfl (w.heap.size + 1) rfl 57 (core12 k2f (-1) k2p k2n) ?_ agK ?_; with_reducible exact hW5.hk)
            | (refine wpList_storeR rfl 57 _ _ rfl (w.heap.size + 2) rfl (core12 k2f (-1) k2p k2n) rfl (core12_one _ _ _ _) 57 (core12 (fun _ => 0) 0 0 false) rfl ?_ agK ?_; with_reducible exact hW5.hr))
          have hW6 := hW5.outR hC hG (core12 k2f (-1) k2p k2n)
          have hl6 := ownArr_kept hl5 (row_grown wd (w.heap.size + 2) (core12 k2f (-1) k2p k2n)) (ownArr_off hl5 (by omega))
          refine bodyPost_ret (resultsRS rfl (w.heap.size + 2) _ rfl hW6.hr agK _ rfl) rfl ⟨a', n', c', ?_, ?_, ?_, hW6.off⟩
          · rw [HS.out]; rfl
          · rw [HS.out]; exact hl6
          · rw [HS.out]; exact hW6.mem
        · obtain rfl : k2o = 259 := by unfold stopB at hs; simp at hs; omega
          go_wp2_with (first
            | (refine wpList_loadR rfl 57 _ rfl (w.heap.size + 1) rfl 57 (core12 k2f 259 k2p k2n) ?_ agK ?_; with_reducible exact hW5.hk)
            | (refine wpList_storeR rfl 57 _ _ rfl (w.heap.size + 2) rfl (core12 k2f 259 k2p k2n) rfl (core12_one _ _ _ _) 57 (core12 (fun _ => 0) 0 0 false) rfl ?_ agK ?_; with_reducible exact hW5.hr))
          have hW6 := hW5.outR hC hG (core12 k2f 259 k2p k2n)
          have hl6 := ownArr_kept hl5 (row_grown wd (w.heap.size + 2) (core12 k2f 259 k2p k2n)) (ownArr_off hl5 (by omega))
          refine bodyPost_ret (resultsRS rfl (w.heap.size + 2) _ rfl hW6.hr agK _ rfl) rfl ⟨a', n', c', ?_, ?_, ?_, hW6.off⟩
          · rw [HS.out]; rfl
          · rw [HS.out]; exact hl6
          · rw [HS.out]; exact hW6.mem
      · have hs' : stopB ⟨k2f, k2o, k2p, k2n⟩ = false := by simpa using hs
        have t1 : (k2o == -1) = false := by unfold stopB at hs'; simp at hs'; simpa using hs'.1
        have t2 : (k2o == 259) = false := by unfold stopB at hs'; simp at hs'; simpa using hs'.2
        have HS := Lib.hid (HRR.out.trans (runK_go F c hlt k' _ _ m' m2 L Hc.out hs'))
        clear hs hs'
        go_wp2_with fail
        go_roundw
        case measure => simp [intOf]; omega
        case rel => exact ⟨j + 1, ⟨k2f, k2o, k2p, k2n⟩, m2, L ++ [⟨b0, b1, bx⟩], a', n', c', by omega, by go_num, rfl, by rw [List.length_append, HL.out]; rfl, hW5, hl5, HS.out⟩
    · obtain rfl : j = 20 := by omega
      have HS : R = (k', L, m') := by rw [HRR.out]; simp [runK]
      have HS := Lib.hid HS
      obtain ⟨kf, ko, kp, kn⟩ := k'
      simp only [Ks.row] at hW
      clear HRR HCYC
      go_wp2_with (first
        | (refine wpList_loadR rfl 57 _ rfl (w.heap.size + 1) rfl 57 (core12 kf ko kp kn) ?_ agK ?_; with_reducible exact hW.hk)
        | (refine wpList_storeR rfl 57 _ _ rfl (w.heap.size + 2) rfl (core12 kf ko kp kn) rfl (core12_one _ _ _ _) 57 (core12 (fun _ => 0) 0 0 false) rfl ?_ agK ?_; with_reducible exact hW.hr))
      have hW6 := hW.outR hC hG (core12 kf ko kp kn)
      have hl6 := ownArr_kept hl (row_grown wr (w.heap.size + 2) (core12 kf ko kp kn)) (ownArr_off hl (by omega))
      refine bodyPost_ret (resultsRS rfl (w.heap.size + 2) _ rfl hW6.hr agK _ rfl) rfl ⟨sa, sn, sc, ?_, ?_, ?_, hW6.off⟩
      · rw [HS.out]; rfl
      · rw [HS.out]; exact hl6
      · rw [HS.out]; exact hW6.mem
end Go.Proofs.Ytdiajkgebicnnaa
