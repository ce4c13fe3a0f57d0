/-
  From the rows' readings to what the walks ask: a slice of texts that came in. No condition.
-/
import Derived.Test.YtjogjmkfkmbjdaaFrame
import Derived.Test.YtjogjmkfkmbjdaaMemStrs
import Derived.SliceStrings
set_option linter.unusedVariables false
namespace Go.Proofs.Ytjogjmkfkmbjdaa.MM
open Go.ChangeShapes Go.WideShapes Go.ChangeAt Go.RowKit Go.Proofs

theorem cellsStr : Try.prog.cellsOf 9 = 1 := by kernel_rfl
/-- A slice of texts that came in. -/
theorem argStrs {H : Type} {enc : TypeId × Value → H} {W : World} {base : Nat} {a : Option Addr} {len cap : Nat} {d : DataW H} {p : List MemPlace}
    (h : ∃ fuel, DataW.trod enc Try.prog W base (fun _ => true) true fuel 22 (Value.slice a len cap).cells.toList = some (d, p)) : ∃ ss, TRow W (.slice a len cap) ss := by
  obtain ⟨fuel, hf⟩ := h
  rcases open_strings Try.underlying22 Try.underlying9 cellsStr hf with ⟨hcs, _⟩ | ⟨x, n, c, ss, hcs, _, hl, hm, hz, _, hcell, _⟩
  · simp [Value.cells] at hcs
    obtain ⟨rfl, rfl, rfl⟩ := hcs
    exact ⟨[], TRow.nil_ W⟩
  · simp [Value.cells] at hcs
    obtain ⟨rfl, rfl, rfl⟩ := hcs
    have hzl : ss.length = cap := by simpa using hz
    refine ⟨(ss.take len).map (fun s => s.data.toList), row_of_cells (by rw [List.length_map, List.length_map, List.length_take]; omega) hl hm (fun i u hi => ?_)⟩
    have hi2 : i < len := by
      have := (List.getElem?_eq_some_iff.1 hi).1
      rw [List.length_map, List.length_map, List.length_take] at this
      omega
    have hlt : i < ss.length := by omega
    have hu : u = .string (ss[i]) := by
      have hg := hi
      simp only [List.getElem?_map, List.getElem?_take, if_pos hi2, List.getElem?_eq_getElem hlt, Option.map_some, Option.some.injEq] at hg
      rw [← hg]
      rfl
    rw [hu, hcell i hlt]
    simp [List.getD, hlt]
end Go.Proofs.Ytjogjmkfkmbjdaa.MM
