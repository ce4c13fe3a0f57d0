/-
  From the rows' readings to what the walks ask: a slice of slices of bytes that came in. No condition.
-/
import Derived.Test.YtfnohcmoaooghaaFrame
import Derived.Test.YtfnohcmoaooghaaCrcRows
import Derived.Deep.Slices
set_option linter.unusedVariables false
namespace Go.Proofs.Ytfnohcmoaooghaa.MM
open Go.ChangeShapes Go.WideShapes Go.ChangeAt Go.RowKit Go.Proofs Go.Proofs.Ytfnohcmoaooghaa.CR

theorem cellsSl : Try.prog.cellsOf 22 = 1 := by kernel_rfl
theorem cellsByte : Try.prog.cellsOf 5 = 1 := by kernel_rfl
/-- A cell that holds a slice of bytes. -/
theorem argCell {H : Type} {enc : TypeId × Value → H} {W : World} {base n : Nat} {v : Value} {y : DataW H × List MemPlace}
    (h : DataW.trod enc Try.prog W base (fun _ => true) true n 22 [v] = some y) : ∃ l, BRow W v l := by
  rcases open_ints Try.underlying22 Try.underlying5 cellsByte h with ⟨hcs, _⟩ | ⟨x, m, c, zs, hcs, _⟩
  · simp at hcs
    subst hcs
    exact ⟨[], BRow.nil_ W⟩
  · simp at hcs
    subst hcs
    obtain ⟨d, p⟩ := y
    exact argBytes (d := d) (p := p) Try.underlying22 Try.underlying5 cellsByte ⟨n, h⟩
theorem argRows {H : Type} {enc : TypeId × Value → H} {W : World} {base : Nat} {a : Option Addr} {len cap : Nat} {d : DataW H} {p : List MemPlace}
    (h : ∃ fuel, DataW.trod enc Try.prog W base (fun _ => true) true fuel 32 (Value.slice a len cap).cells.toList = some (d, p)) : ∃ ls, PRow W (.slice a len cap) ls := by
  obtain ⟨fuel, hf⟩ := h
  rcases Deep.open_slice1 Try.underlying32 cellsSl hf with ⟨hcs, _⟩ | ⟨x, n, c, m, k, V, D, Pl, hcs, hb, hl, hm, hmm, _, hall⟩
  · simp [Value.cells] at hcs
    obtain ⟨rfl, rfl, rfl⟩ := hcs
    exact ⟨[], PRow.nil_ W⟩
  · simp [Value.cells] at hcs
    obtain ⟨rfl, rfl, rfl⟩ := hcs
    have hmc : m = cap := by simpa using hmm
    subst hmc
    obtain ⟨L, hL⟩ := Deep.choose_lt (α := List UInt8) (n := len) (p := fun i l => BRow W (V i) l) (fun i hi => argCell (hall i (by omega)).2)
    refine ⟨(List.range len).map L, (List.range len).map V, row_of_cells (by simp) hl hm (fun i u hi => ?_), by simp, fun i hi => ?_⟩
    · have hi' : i < len := by have := (List.getElem?_eq_some_iff.1 hi).1; simpa using this
      have hu : V i = u := by simpa [hi'] using hi
      rw [← hu]
      exact (hall i (by omega)).1
    · have hi' : i < len := by simpa using hi
      exact ⟨V i, by simp [hi'], by simpa using hL i hi'⟩
end Go.Proofs.Ytfnohcmoaooghaa.MM
