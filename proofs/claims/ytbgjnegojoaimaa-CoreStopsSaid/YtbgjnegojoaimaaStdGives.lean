/- The museum's processor, as the law of stopped processors asks it. -/
import Derived.Test.YtbgjnegojoaimaaCoreStops
import Derived.Test.YtbgjnegojoaimaaStdCpuC
namespace Go.Proofs.Ytbgjnegojoaimaa
theorem std_gives (w : World) : stdGives Try.prog 5 w := by
  unfold stdGives
  refine (cpu_std w).mono ?_
  rintro e w' ⟨a0, n0, c0, a1, n1, c1, a2, n2, c2, a3, n3, c3, rfl, h0, h1, h2, h3, hb⟩
  exact ⟨stdC, _, _, _, _, rfl, cpuCells_one _ _ _ _ _ _ _ _ _ _ _ _, cpu_arg h0 h1 h2 h3, hb⟩
end Go.Proofs.Ytbgjnegojoaimaa
