/- The museum's processor as text. -/
import Derived.Test.YtbgjnegojoaimaaGreatDoorStdMath
import Derived.Test.YtbgjnegojoaimaaGreatDoorStdFlag
namespace Go.Proofs.YtbgjnegojoaimaaGreatDoor
open Go.RowKit

theorem ite_size {p : Prop} [Decidable p] {a b : ByteArray} {n : Nat} (ha : a.size = n) (hb : b.size = n) : (if p then a else b).size = n := by
  split
  · exact ha
  · exact hb
/-- The letter of a step. -/
def sgnT (d : Int) : ByteArray :=
  if d = 1 then ⟨#[109]⟩ else if d = 3 then ⟨#[122]⟩ else if d = 4 then ⟨#[43]⟩ else if d = 5 then ⟨#[126]⟩ else if d = 6 then ⟨#[61]⟩ else if d = 7 then ⟨#[38]⟩ else if d = 8 then ⟨#[124]⟩ else if d = 9 then ⟨#[94]⟩
  else if d = 10 then ⟨#[117]⟩ else if d = 11 then ⟨#[100]⟩ else if d = 12 then ⟨#[60]⟩ else if d = 13 then ⟨#[62]⟩ else if d = 14 then ⟨#[91]⟩ else if d = 15 then ⟨#[93]⟩ else if d = 16 then ⟨#[115]⟩ else if d = 17 then ⟨#[99]⟩
  else if d = 18 then ⟨#[108]⟩ else if d = 19 then ⟨#[104]⟩ else if d = 20 then ⟨#[103]⟩ else if d = 21 then ⟨#[71]⟩ else if d = 22 then ⟨#[105]⟩ else if d = 23 then ⟨#[114]⟩ else ⟨#[102]⟩
theorem sgnT_size (d : Int) : (sgnT d).size = 1 := by
  unfold sgnT
  repeat refine ite_size rfl ?_
  rfl
def two (d : Int) : Bool := d == 1 || d == 4 || d == 5 || d == 6 || d == 7 || d == 8 || d == 9 || d == 18 || d == 19 || d == 20 || d == 21 || d == 22 || d == 23
def one (d : Int) : Bool := d == 3 || d == 10 || d == 11 || d == 12 || d == 13 || d == 14 || d == 15
def txtS (s : St) : ByteArray :=
  if two s.d = true then (sgnT s.d ++ regT s.t) ++ regT s.f
  else if one s.d = true then sgnT s.d ++ regT s.t
  else if s.d = 2 then (if s.n = 0 then ⟨#[48]⟩ ++ regT s.t else ⟨#[57, 83]⟩)
  else if s.d = 24 then (⟨#[102]⟩ ++ digT s.f) ++ flagT s.n
  else sgnT s.d ++ digT s.n
/-- The steps that the museum's processor has. -/
def okS (s : St) : Bool :=
  two s.d || one s.d || ((s.d == 16 || s.d == 17) && (s.n == 1 || s.n == 4)) || (s.d == 2 && (s.n == 0 || (s.n == 255 && s.t == 3))) || (s.d == 24 && (s.f == 0 || s.f == 1) && (s.n == 1 || s.n == 2 || s.n == 128))
theorem txtS_size (s : St) : (txtS s).size ≤ 3 := by
  have h1 := sgnT_size s.d
  have h2 := regT_size s.t
  have h3 := regT_size s.f
  have h4 := digT_size s.f
  have h5 := digT_size s.n
  have h6 := flagT_size s.n
  unfold txtS
  repeat' split
  all_goals first | decide | (simp only [ByteArray.size_append, h1, h2, h3, h4, h5, h6]; decide) | (simp only [ByteArray.size_append, h1, h2, h3, h4, h5, h6, ByteArray.size]; decide)
end Go.Proofs.YtbgjnegojoaimaaGreatDoor
