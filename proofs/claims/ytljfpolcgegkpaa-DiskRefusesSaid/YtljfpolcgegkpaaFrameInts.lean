/-
  From the rows' readings to what the walks ask: slices of whole numbers that came in. No condition.
-/
import Derived.Test.YtljfpolcgegkpaaFrame
import Derived.Test.YtljfpolcgegkpaaMemInts
set_option linter.unusedVariables false
namespace Go.Proofs.Ytljfpolcgegkpaa.MM
open Go.ChangeShapes Go.WideShapes Go.ChangeAt Go.RowKit Go.Proofs

/-- A slice of whole numbers that came in: all its cells, spare ones too. -/
theorem argInts {H : Type} {enc : TypeId × Value → H} {W : World} {base : Nat} {T e : TypeId} {a : Option Addr} {len cap : Nat} {d : DataW H} {p : List MemPlace}
    (ht : Try.prog.underlying T = some (.slice e)) (he : Try.prog.underlying e = some (.int .i64)) (hc : Try.prog.cellsOf e = 1)
    (h : ∃ fuel, DataW.trod enc Try.prog W base (fun _ => true) true fuel T (Value.slice a len cap).cells.toList = some (d, p)) :
    ∃ zs, IRow W (.slice a len cap) zs ∧ zs.length = len ∧ len ≤ cap ∧ cap ≤ maxLen ∧ ∀ k, k < zs.length → -9223372036854775808 ≤ zs.getD k 0 ∧ zs.getD k 0 ≤ 9223372036854775807 := by
  obtain ⟨fuel, hf⟩ := h
  rcases open_ints ht he hc hf with ⟨hcs, _⟩ | ⟨x, n, c, zs, hcs, _, hl, hm, hz, _, hcell, hwz⟩
  · simp [Value.cells] at hcs
    obtain ⟨rfl, rfl, rfl⟩ := hcs
    exact ⟨[], IRow.nil_ W, rfl, Nat.le_refl _, by unfold maxLen; omega, fun k hk => by simp at hk⟩
  · simp [Value.cells] at hcs
    obtain ⟨rfl, rfl, rfl⟩ := hcs
    have hzl : zs.length = cap := by simpa using hz
    have hlen : (zs.take len).length = len := by rw [List.length_take]; omega
    refine ⟨zs.take len, row_of_cells (by rw [List.length_map, hlen]) hl hm (fun i u hi => ?_), hlen, hl, hm, fun k hk => ?_⟩
    · have hi2 : i < len := by
        have := (List.getElem?_eq_some_iff.1 hi).1
        rw [List.length_map, hlen] at this
        exact this
      have hlt : i < zs.length := by omega
      have hu : u = .int .i64 (zs[i]) := by
        have hg := hi
        simp only [List.getElem?_map, List.getElem?_take, if_pos hi2, List.getElem?_eq_getElem hlt, Option.map_some, Option.some.injEq] at hg
        exact hg.symm
      rw [hu, hcell i hlt]
      simp [List.getD, hlt]
    · rw [hlen] at hk
      have hlt : k < zs.length := by omega
      have e : (zs.take len).getD k 0 = zs[k] := by simp [List.getD, hk, hlt]
      have hw := hwz zs[k] (List.getElem_mem hlt)
      rw [e]
      simp only [Lit.wf, Bool.and_eq_true, decide_eq_true_eq] at hw
      have h1 : IntKind.i64.min = -9223372036854775808 := by decide
      have h2 : IntKind.i64.max = 9223372036854775807 := by decide
      rw [h1, h2] at hw
      exact hw
end Go.Proofs.Ytljfpolcgegkpaa.MM
