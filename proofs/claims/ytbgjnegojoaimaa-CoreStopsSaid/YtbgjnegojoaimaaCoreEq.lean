/- States of a processor, and what is done on the bus, compared with themselves. -/
import Derived.Test.YtbgjnegojoaimaaCoreSmall
import Derived.Test.YtbgjnegojoaimaaAluEq
import Derived.Laws.StructEq
namespace Go.Proofs.Ytbgjnegojoaimaa
open Go.RowKit
set_option maxRecDepth 100000

theorem core_regs (f : Nat → Int) (op pl : Int) (n : Bool) : (core12 f op pl n).extract 0 (0 + 9) = arr9 f := by
  simp [core12, arr9]
theorem equal12 (f : Nat → Int) (op pl : Int) (n : Bool) (w : World) : (Op.equalIn 10000 27 (.agg (core12 f op pl n)) (.agg (core12 f op pl n))).run Try.prog w = .ok true w := by
  have hf : ∃ a b c d e g h i, Try.prog.fieldsOf 27 = #[⟨"R", 24, 0, false, a, b, 0⟩, ⟨"Op", 3, 9, false, c, d, 72⟩, ⟨"At", 3, 10, false, e, g, 80⟩, ⟨"Nmi", 4, 11, false, h, i, 88⟩] := by
    unfold Program.fieldsOf
    rw [Try.underlying27]
    exact ⟨_, _, _, _, _, _, _, _, rfl⟩
  obtain ⟨a, b, c, d, e, g, h, i, hf⟩ := hf
  have hs : (Try.prog.info? 24).map (·.size) = some 9 := by kernel_rfl
  rw [run_equalIn_struct _ _ _ _ _ (by unfold Program.fieldsOf; rw [Try.underlying27]) Try.stoodInHeld27, hf]
  have hp : ∀ w, (part 24 (core12 f op pl n) 0).run Try.prog w = .ok (.agg (arr9 f)) w := fun w => by
    unfold part
    simp [Try.isAgg24, Try.sizeOf24]
    exact core_regs f op pl n
  simp only [Op.eqFields]
  simp [hp, equal9 9997 f]
  simp [part, core12, run_equalIn_int _ _ _ _ _ _ _ Try.underlying3, run_equalIn_bool _ _ _ _ _ Try.underlying4]
theorem equal3 (x y z : Int) (w : World) : (Op.equalIn 10000 35 (.agg (bus3 x y z)) (.agg (bus3 x y z))).run Try.prog w = .ok true w := by
  rw [run_equalIn_struct _ _ _ _ _ (by unfold Program.fieldsOf; rw [Try.underlying35]) Try.stoodInHeld35]
  unfold Program.fieldsOf
  rw [Try.underlying35]
  simp only [Op.eqFields]
  simp [part, bus3, run_equalIn_int _ _ _ _ _ _ _ Try.underlying3]
end Go.Proofs.Ytbgjnegojoaimaa
