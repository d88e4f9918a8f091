/- An address divided into bytes and put together again: plain facts; what holds while a step is drawn. -/
import Derived.Test.YtnmemknmipengaaAluRef
import Derived.Test.YtnmemknmipengaaAluRegs
namespace Go.Proofs.Ytnmemknmipengaa
open Go.RowKit

def seqF (f : Nat → Int) : Nat → Nat → Int
  | 0 => f
  | 1 => setR f 5 (lo (f 8) 8)
  | 2 => setR (setR f 5 (lo (f 8) 8)) 6 (lo (f 8 / 256) 8)
  | 3 => setR (setR (setR f 5 (lo (f 8) 8)) 6 (lo (f 8 / 256) 8)) 8 1234
  | 4 => setR (setR (setR f 5 (lo (f 8) 8)) 6 (lo (f 8 / 256) 8)) 8 (1024 + lo (f 8) 8)
  | _ => setR (setR (setR f 5 (lo (f 8) 8)) 6 (lo (f 8 / 256) 8)) 8 (f 8)
theorem seq_fits {f : Nat → Int} (h : fits f) (k : Nat) : fits (seqF f k) := by
  have h8 := h 8
  have b1 := lo8_bd (f 8)
  have b2 := lo8_bd (f 8 / 256)
  have f1 := fits_set h 5 _ b1.1 b1.2
  have f2 := fits_set f1 6 _ b2.1 b2.2
  match k with
  | 0 => exact h
  | 1 => exact f1
  | 2 => exact f2
  | 3 => exact fits_setW f2 8 _ (.inr rfl) (by decide) (by decide)
  | 4 => exact fits_setW f2 8 _ (.inr rfl) (by omega) (by omega)
  | k + 5 => exact fits_setW f2 8 _ (.inr rfl) (by omega) (by omega)
theorem do_moves {g : Nat → Int} (h : fits g) (d : Int) (hd : d = 20 ∨ d = 21 ∨ d = 2 ∨ d = 18 ∨ d = 19) (t u : Nat) (n : Int) : doF d t u n (fitR g) = fitR (setR g t (movedV d n (g t) (g u))) := by
  rw [fit_fits h]
  rcases hd with rfl | rfl | rfl | rfl | rfl <;> rfl
theorem seq_step {f : Nat → Int} (h : fits f) :
    doF 20 5 8 0 (fitR (seqF f 0)) = seqF f 1 ∧ doF 21 6 8 0 (fitR (seqF f 1)) = seqF f 2 ∧ doF 2 8 0 1234 (fitR (seqF f 2)) = seqF f 3 ∧ doF 18 8 5 0 (fitR (seqF f 3)) = seqF f 4 ∧ doF 19 8 6 0 (fitR (seqF f 4)) = seqF f 5 := by
  have h8 := h 8
  have b1 := lo8_bd (f 8)
  refine ⟨?_, ?_, ?_, ?_, ?_⟩
  · rw [do_moves (seq_fits h 0) 20 (by simp)]
    exact fit_fits (seq_fits h 1)
  · rw [do_moves (seq_fits h 1) 21 (by simp)]
    exact fit_fits (seq_fits h 2)
  · rw [do_moves (seq_fits h 2) 2 (by simp)]
    exact fit_fits (seq_fits h 3)
  · rw [do_moves (seq_fits h 3) 18 (by simp)]
    have e : movedV 18 0 (seqF f 3 8) (seqF f 3 5) = 1024 + lo (f 8) 8 := by
      have e1 : movedV 18 0 (seqF f 3 8) (seqF f 3 5) = putN 1234 0 8 (lo (f 8) 8) := rfl
      rw [e1, put_low (by decide), lo8_eq]
      omega
    rw [e]
    have e2 : setR (seqF f 3) 8 (1024 + lo (f 8) 8) = seqF f 4 := setR_setR _ _ _ _
    rw [e2]
    exact fit_fits (seq_fits h 4)
  · rw [do_moves (seq_fits h 4) 19 (by simp)]
    have e : movedV 19 0 (seqF f 4 8) (seqF f 4 6) = f 8 := by
      have e1 : movedV 19 0 (seqF f 4 8) (seqF f 4 6) = putN (1024 + lo (f 8) 8) 8 8 (lo (f 8 / 256) 8) := rfl
      rw [e1, put_high (by omega), lo8_eq, lo8_eq]
      omega
    rw [e]
    have e2 : setR (seqF f 4) 8 (f 8) = seqF f 5 := setR_setR _ _ _ _
    rw [e2]
    exact fit_fits (seq_fits h 5)
theorem seq_last (f : Nat → Int) : seqF f 5 8 = f 8 := rfl

/-- While a step is drawn: the registers, the others, the stream. -/
structure byt (w0 w : World) (a b g : Nat) (f G : Nat → Int) : Prop where
  hA : regB w a 24 f
  hB : regB w b 24 G
  ne1 : a ≠ g
  ne2 : b ≠ g
  st : ∃ l, stream w0 w g l
section
variable {w0 w : World} {a b g : Nat} {f G : Nat → Int}
theorem byt.glt (h : byt w0 w a b g f G) : g < w.heap.size := by
  obtain ⟨l, _, _, _, v, hb, _⟩ := h.st
  exact block_lt_of_cell hb.cell
theorem byt.next (h : byt w0 w a b g f G) (n : Int) (hn : (Lit.int .i64 n).wf = true) :
    Calls Try.prog 8 #[.pointer (some ⟨g, 0, none⟩), .int .i64 n] w fun e w' =>
      ∃ r, e = .returned (.int .i64 r) ∧ 0 ≤ r ∧ (r < n ∨ r = 0) ∧ byt w0 w' a b g f G ∧ w'.heap.size = w.heap.size ∧ ∀ p F, p ≠ g → regB w p 24 F → regB w' p 24 F := by
  obtain ⟨l, hs⟩ := h.st
  refine (next_any w0 g l n hn w hs).mono fun e w' ⟨r, he, r0, r1, hg, hz, l', hs'⟩ => ?_
  have keep : ∀ p F, p ≠ g → regB w p 24 F → regB w' p 24 F := fun p F hp hr => regB_grown hr hg (fun e => by injection e with e; exact hp e)
  exact ⟨r, he, r0, r1, ⟨keep a f h.ne1 h.hA, keep b G h.ne2 h.hB, h.ne1, h.ne2, l', hs'⟩, hz, keep⟩
theorem byt.alloc (h : byt w0 w a b g f G) (o : Obj) : byt w0 (w.alloc o) a b g f G := by
  obtain ⟨l, hs⟩ := h.st
  exact ⟨regB_alloc h.hA o, regB_alloc h.hB o, h.ne1, h.ne2, l, streamR_alloc hs o⟩
end
end Go.Proofs.Ytnmemknmipengaa
