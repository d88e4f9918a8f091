/- The reference's text of cycles: what it is, and the beginning of a cycle. -/
import Derived.Test.YtbgjnegojoaimaaGreatDoorStdTextM
import Derived.Test.YtbgjnegojoaimaaGreatDoorStdSmall
import Derived.Lib.Join
import Derived.Shelf.Abstract
namespace Go.Proofs.YtbgjnegojoaimaaGreatDoor
open Go.RowKit
set_option maxRecDepth 100000

/-- Texts with a separator between them. -/
def joinB (xs : List ByteArray) (sep : ByteArray) : ByteArray := ⟨(Lib.join (xs.map (·.data.toList)) sep.data.toList).toArray⟩
/-- The letter of a place. -/
def placeT (p : Int) : ByteArray :=
  if p = 0 then ⟨#[80]⟩ else if p = 1 then ⟨#[72]⟩ else if p = 2 then ⟨#[65]⟩ else if p = 3 then ⟨#[78]⟩ else if p = 4 then ⟨#[33]⟩ else if p = 5 then ⟨#[63]⟩ else if p = 6 then ⟨#[50]⟩ else if p = 7 then ⟨#[51]⟩ else if p = 8 then ⟨#[52]⟩ else if p = 9 then ⟨#[53]⟩ else if p = 10 then ⟨#[54]⟩ else ⟨#[55]⟩
theorem placeT_size (p : Int) : (placeT p).size = 1 := by
  unfold placeT
  repeat refine ite_size rfl ?_
  rfl
def rwT (b : Int) : ByteArray := if b = 2 then ⟨#[119]⟩ else ⟨#[114]⟩
theorem rwT_size (b : Int) : (rwT b).size = 1 := by
  unfold rwT
  repeat refine ite_size rfl ?_
  rfl
def headT (c : Cy) : ByteArray := if c.bus = 0 then ⟨#[45]⟩ else (rwT c.bus ++ placeT c.place) ++ regT c.reg
def stepsT (l : List St) : ByteArray := joinB (l.map txtS) ⟨#[44]⟩
def txtC (c : Cy) : ByteArray := if c.steps.length = 0 then headT c else headT c ++ ((⟨#[40]⟩ ++ stepsT c.steps) ++ ⟨#[41]⟩)
def txt (l : List Cy) : ByteArray := joinB (l.map txtC) ⟨#[32]⟩
def okC (c : Cy) : Bool := decide (0 ≤ c.bus) && decide (c.bus ≤ 2) && decide (0 ≤ c.place) && decide (c.place ≤ 11) && decide (c.steps.length ≤ 6) && c.steps.all okS
def strQ (cs : List Value) (s : ByteArray) : Prop := cs = [.string s]
def strsO (lo : Nat) (w : World) (v : Value) (l : List ByteArray) : Prop := ownArr 1 strQ lo 9 w v l
theorem strQ_one : ∀ cs s, strQ cs s → ∀ u ∈ cs, u.oneCell' = true := by
  rintro cs s rfl u hu
  simp only [List.mem_cons, List.not_mem_nil, or_false] at hu
  subst hu
  rfl
theorem strsO_below {lo : Nat} {w w' : World} {v : Value} {l : List ByteArray} (h : strsO lo w v l) (hb : Below w.heap.size w w') : strsO lo w' v l := ownArr_safe (T := fun _ => True) h (safe_below hb) trivial
theorem own_str {w : World} {cells : Array Value} (s : ByteArray) (hc : cells.toList = [.string s]) : strsO w.heap.size (w.alloc (.cells cells 9)) (.slice (some ⟨w.heap.size, 0, none⟩) 1 1) [s] :=
  own_lit (R := strQ) [[.string s]] [s] ⟨rfl, rfl, trivial⟩ rfl cells hc 1 rfl (by decide) w (Nat.le_refl _) _ _ rfl
theorem infoStr : ∃ i, Tryz.prog.info? 9 = some i ∧ i.zero = some (.string ⟨#[]⟩) ∧ i.size = 1 ∧ i.bytes = 16 := by
  have h : (Tryz.prog.info? 9).map (fun i => (i.zero, i.size, i.bytes)) = some (some (.string ⟨#[]⟩), 1, 16) := by kernel_rfl
  cases hh : Tryz.prog.info? 9 with
  | none => rw [hh] at h; cases h
  | some i => rw [hh] at h; simp only [Option.map_some, Option.some.injEq, Prod.mk.injEq] at h; exact ⟨i, rfl, h⟩
theorem wpList_strs {w : World} {ops : Array Oper} {rest : List Oper} {o : Oper} {a : Act} {Q : Exit → Act → World → Prop} (hgd : o.guard = none) (s x : Operand) (ho : o.op = .call { callee := .builtin .append, args := #[s, x], argTypes := #[27, 27] })
    (B lo : Nat) (v u : Value) (hs : a.eval s = v) (hx : a.eval x = u) (l m : List ByteArray) (hown : strsO B w v l) (harr : strsO lo w u m) (hl : l.length + m.length ≤ 1000) (hB : B ≤ w.heap.size)
    (h : ∀ (a' : Option Addr) (n c : Nat) w', strsO B w' (.slice a' n c) (l ++ m) → w.grownBy w' v.ownBlock → wpList Tryz.prog ops Q rest (a.put o.dst (.slice a' n c)) w') : wpList Tryz.prog ops Q (o :: rest) a w := by
  obtain ⟨i, i1, i2, i3, i4⟩ := infoStr
  refine wpList_append_arr2 hgd s x 27 ho 9 1 16 i _ Tryz.underlying27 i1 i2 i3 i4 rfl (by decide) strQ_one B v u hs hx l m hown (ownArr_isArr harr) (by unfold maxLen; omega) (by omega) hB ?_
  intro v' w' h1 h2
  obtain ⟨a', c', rfl⟩ := own_slice h1
  exact h _ _ _ _ h1 h2
/-- What strings.Join is asked for here, as the shelf has it. -/
def joinsC (P : Program) (fn : Nat) : Prop := ∀ (bk o c : Nat) (xs : List ByteArray) (sep : ByteArray) (w : World), (∀ (j : Nat) (x : ByteArray), xs[j]? = some x → w.cell? ⟨bk, o + j, none⟩ = some (.string x)) → bk < w.heap.size → xs.length ≤ 1000 → xs.length ≤ c →
    (joinB xs sep).size ≤ 100000 → Calls P fn #[.slice (some ⟨bk, o, none⟩) xs.length c, .string sep] w fun e w' => e = .returned (.string (joinB xs sep)) ∧ Below w.heap.size w w'
/-- .. at a slice of one's own. -/
theorem join_own {P : Program} {fn : Nat} (hJ : joinsC P fn) (lo : Nat) (v : Value) (xs : List ByteArray) (sep : ByteArray) (w : World) (h : strsO lo w v xs) (h0 : 0 < xs.length) (h1 : xs.length ≤ 1000) (h2 : (joinB xs sep).size ≤ 100000) :
    Calls P fn #[v, .string sep] w fun e w' => e = .returned (.string (joinB xs sep)) ∧ Below w.heap.size w w' := by
  rcases ownArr_isArr h with ⟨a, cap, rfl, rfl⟩ | ⟨b, off, cap, rfl, g1, g2, g3, g4⟩
  · cases h0
  · refine hJ b off cap xs sep w (fun j x hx => ?_) g1 h1 g2 h2
    obtain ⟨cs, c1, c2, rfl⟩ := g4 j x hx
    have := c2 0 (by decide)
    simpa using this
theorem joinB_size (xs : List ByteArray) (sep : ByteArray) (n : Nat) (hx : ∀ x ∈ xs, x.size ≤ n) : (joinB xs sep).size ≤ xs.length * (n + sep.size) := by
  show (Lib.join (xs.map (·.data.toList)) sep.data.toList).toArray.size ≤ _
  rw [List.size_toArray]
  induction xs with
  | nil => simp [Lib.join, List.intercalate]
  | cons x r ih =>
    have h1 : x.data.toList.length ≤ n := hx x (.head _)
    have h2 := ih fun y hy => hx y (.tail _ hy)
    cases r with
    | nil =>
      rw [List.map_cons, List.map_nil, Lib.join_one]
      simp only [List.length_cons, List.length_nil]
      have : sep.size = sep.data.toList.length := rfl
      omega
    | cons y r =>
      have e : Lib.join ((x :: y :: r).map (·.data.toList)) sep.data.toList = x.data.toList ++ (sep.data.toList ++ Lib.join ((y :: r).map (·.data.toList)) sep.data.toList) := by
        simp [Lib.join, List.intercalate]
      rw [e, List.length_append, List.length_append]
      have : sep.size = sep.data.toList.length := rfl
      simp only [List.length_cons] at h2 ⊢
      rw [Nat.succ_mul (r.length + 1)]
      omega
end Go.Proofs.YtbgjnegojoaimaaGreatDoor
