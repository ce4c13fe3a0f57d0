/-
  What a refused call leaves of a plain disk; what a quota that is not turned keeps.
-/
import Derived.Test.YtljfpolcgegkpaaDskSteps
set_option linter.unusedVariables false
namespace Go.Proofs.Ytljfpolcgegkpaa.DK
open Go.RowKit Go.Proofs.Ytljfpolcgegkpaa.MM Go.Maps

theorem on_err {d : DiskD} (ok : Bool) (n : List UInt8) (g : FileD → List FileD) (h0 : (onD d ok n g).2 ≠ 0) (h1 : (onD d ok n g).2 ≠ 63) : (onD d ok n g).1 = d := by
  unfold onD at *
  split
  · rfl
  rename_i hok
  rw [if_neg hok] at h0 h1
  split
  · rfl
  rename_i hst
  rw [if_neg hst] at h0 h1
  split
  · rfl
  rename_i f hf
  rw [hf] at h0 h1
  dsimp only at h0 h1
  by_cases hc : (callD d).2 = true
  · rw [if_pos hc] at h1
    exact absurd rfl h1
  · rw [if_neg hc] at h0
    exact absurd rfl h0
theorem append_err {d : DiskD} (n b : List UInt8) (h0 : (appendD d n b).2 ≠ 0) (h1 : (appendD d n b).2 ≠ 63) : (appendD d n b).1 = d := by
  unfold appendD at *
  by_cases a1 : ¬ namedL n = true
  · rw [if_pos a1]
  rw [if_neg a1] at h0 h1 ⊢
  by_cases a2 : d.stopped = true
  · rw [if_pos a2]
  rw [if_neg a2] at h0 h1 ⊢
  by_cases a3 : findL d.L n = none ∧ 1024 ≤ d.L.length
  · rw [if_pos a3]
  rw [if_neg a3] at h0 h1 ⊢
  by_cases a4 : 67108864 < (((findL d.L n).map (·.b)).getD []).length + b.length
  · rw [if_pos a4]
  rw [if_neg a4] at h0 h1 ⊢
  by_cases a5 : 0 < d.quota ∧ b ≠ [] ∧ d.quota < (usedL d.L : Int) + b.length
  · rw [if_pos a5]
  rw [if_neg a5] at h0 h1 ⊢
  by_cases a6 : (callD d).2 = true
  · rw [if_pos a6] at h1
    exact absurd rfl h1
  · rw [if_neg a6] at h0
    exact absurd rfl h0
theorem step_within {d : DiskD} (o : OpD) (h : Good d) (hw : Within d) (h10 : o.do_ % 12 ≠ 10) : Within (stepD d o) ∧ (stepD d o).quota = d.quota := by
  unfold stepD stepR
  split
  · exact ⟨sync_within _ h hw, (sync_good _ h).2.2⟩
  split
  · exact ⟨rename_within _ _ h hw, (rename_good _ _ h).2.2⟩
  split
  · exact ⟨remove_within _ h hw, (remove_good _ h).2.2⟩
  split
  · exact ⟨hw, rfl⟩
  split
  · exact ⟨hw, rfl⟩
  split
  · exact ⟨restart_within _ h hw, rfl⟩
  split
  · exact ⟨hw, rfl⟩
  · exact ⟨append_within _ _ h hw, (append_good _ _ h).2.2⟩
theorem new_within (q : Int) (h : 0 ≤ q) : Within (newD q) := fun _ => by simpa [newD, usedL] using h
end Go.Proofs.Ytljfpolcgegkpaa.DK
