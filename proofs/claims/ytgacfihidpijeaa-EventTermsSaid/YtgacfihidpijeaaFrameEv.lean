/-
  Arguments that are events, batches: read as data, they lie as the codecs say. No condition.
-/
import Derived.Test.YtgacfihidpijeaaFrame
import Derived.Test.YtgacfihidpijeaaCodecRead
import Derived.Test.YtgacfihidpijeaaEvtRow
set_option linter.unusedVariables false
namespace Go.Proofs.Ytgacfihidpijeaa.EV
open Go Go.RowKit Go.Proofs.Ytgacfihidpijeaa.MM Go.Proofs.Ytgacfihidpijeaa.EM

def FitS (p : Fld) : Prop := p.1.length ≤ maxLen ∧ p.2.length ≤ maxLen
theorem reads_fld : Reads Try.prog fldC FitS 68 := reads_pair Try.underlying68 rfl rfl (by kernel_rfl) (by kernel_rfl) (by kernel_rfl) (reads_str Try.underlying9) (reads_str Try.underlying9)
def FitEv (e : Ev) : Prop := FitI e.1 ∧ (∀ f ∈ e.2, FitS f) ∧ e.2.length ≤ maxLen
theorem reads_ev : Reads Try.prog evC FitEv 24 := reads_pair Try.underlying24 rfl rfl (by kernel_rfl) (by kernel_rfl) (by kernel_rfl) (reads_int Try.underlying3) (reads_row Try.underlying22 (by kernel_rfl) reads_fld)
/-- An event's cells. -/
theorem ev_cells {S : Nat → Prop} {w : World} {cs : Array Value} {e : Ev} (h : evC.on S w cs.toList e) : ∃ v, cs = #[.int .i64 e.1, v] ∧ ROn fldC S w v e.2 := by
  obtain ⟨v, hv, hr⟩ := ev_on.1 h
  exact ⟨v, by apply Array.toList_inj.1; rw [hv], hr⟩
theorem str_back (s : ByteArray) : s = ⟨s.data.toList.toArray⟩ := by simp
end Go.Proofs.Ytgacfihidpijeaa.EV
