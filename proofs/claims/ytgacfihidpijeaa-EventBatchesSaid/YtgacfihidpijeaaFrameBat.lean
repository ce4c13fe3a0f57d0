/-
  A batch as an argument: read as data, it lies as its codec says. No condition.
-/
import Derived.Test.YtgacfihidpijeaaFrameEv
set_option linter.unusedVariables false
namespace Go.Proofs.Ytgacfihidpijeaa.EV
open Go Go.RowKit Go.Proofs.Ytgacfihidpijeaa.MM Go.Proofs.Ytgacfihidpijeaa.EM

def FitBat (b : Bat) : Prop := FitI b.1 ∧ (∀ e ∈ b.2, FitEv e) ∧ b.2.length ≤ maxLen
theorem reads_bat : Reads Try.prog batC FitBat 34 := reads_pair Try.underlying34 rfl rfl (by kernel_rfl) (by kernel_rfl) (by kernel_rfl) (reads_int Try.underlying3) (reads_row Try.underlying32 (by kernel_rfl) reads_ev)
end Go.Proofs.Ytgacfihidpijeaa.EV
