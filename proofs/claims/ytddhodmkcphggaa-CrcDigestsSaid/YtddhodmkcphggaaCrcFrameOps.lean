/-
  From the rows' readings to what the walks ask: a slice of calls (a byte, a slice of bytes) that came in. No condition.
-/
import Derived.Test.YtddhodmkcphggaaFrameFour
import Derived.Test.YtddhodmkcphggaaCrcLaw2
import Derived.Deep.SlicePairs
set_option linter.unusedVariables false
namespace Go.Proofs.Ytddhodmkcphggaa.MM
open Go.ChangeShapes Go.WideShapes Go.ChangeAt Go.RowKit Go.Proofs Go.Proofs.Ytddhodmkcphggaa.CR

theorem cellsBytes : Try.prog.cellsOf 22 = 1 := by kernel_rfl
theorem cellsOp : Try.prog.cellsOf 37 = 2 := by kernel_rfl
/-- A cell that holds a slice of bytes. -/
theorem argBytes1 {H : Type} {enc : TypeId × Value → H} {W : World} {base n : Nat} {v : Value} {y : DataW H × List MemPlace}
    (h : DataW.trod enc Try.prog W base (fun _ => true) true n 22 [v] = some y) : ∃ l, BRow W v l := by
  rcases open_ints Try.underlying22 Try.underlying5 cellsU8 h with ⟨hcs, _⟩ | ⟨x, m, c, zs, hcs, _⟩
  · simp at hcs
    subst hcs
    exact ⟨[], BRow.nil_ W⟩
  · simp at hcs
    subst hcs
    obtain ⟨d, p⟩ := y
    exact argBytes (d := d) (p := p) Try.underlying22 Try.underlying5 cellsU8 ⟨n, h⟩
theorem argOps {H : Type} {enc : TypeId × Value → H} {W : World} {base : Nat} {a : Option Addr} {len cap : Nat} {d : DataW H} {p : List MemPlace}
    (h : ∃ fuel, DataW.trod enc Try.prog W base (fun _ => true) true fuel 31 (Value.slice a len cap).cells.toList = some (d, p)) : ∃ os, ORow W.heap.size W (.slice a len cap) os := by
  obtain ⟨fuel, hf⟩ := h
  rcases Deep.open_slice_pairs Try.underlying31 Try.underlying37 cellsOp rfl rfl cellsU8 cellsBytes hf with ⟨hcs, _⟩ | ⟨x, n, c, m, k, V0, V1, D0, D1, P0, P1, hcs, _, hl, hm, hmm, _, hall⟩
  · simp [Value.cells] at hcs
    obtain ⟨rfl, rfl, rfl⟩ := hcs
    exact ⟨[], none, 0, rfl, Nat.le_refl _, by unfold maxLen; omega, .inl rfl⟩
  · simp [Value.cells] at hcs
    obtain ⟨rfl, rfl, rfl⟩ := hcs
    have hmc : m = cap := by simpa using hmm
    subst hmc
    obtain ⟨K, hK⟩ := Deep.choose_lt (α := UInt8) (n := len) (p := fun i c => V0 i = .int .u8 (c.toNat : Int)) (fun i hi => argByte (hall i (by omega)).2.2.1)
    obtain ⟨L, hL⟩ := Deep.choose_lt (α := List UInt8) (n := len) (p := fun i l => BRow W (V1 i) l) (fun i hi => argBytes1 (hall i (by omega)).2.2.2)
    refine ⟨(List.range len).map (fun i => (K i, L i)), some x, m, by simp, by simpa using hl, hm, ?_⟩
    by_cases h0 : len = 0
    · left; simp [h0]
    · right
      obtain ⟨b, off, spot⟩ := x
      have hc0 := (hall 0 (by omega)).1
      have hspot : spot = none := by simpa [Addr.add] using World.cell?_spot hc0
      subst hspot
      rw [add_at] at hc0
      refine ⟨b, off, rfl, cell_lt hc0, fun i hi => ?_⟩
      have hi' : i < len := by simpa using hi
      obtain ⟨h1, h2, _⟩ := hall i (by omega)
      rw [add_at] at h1 h2
      rw [hK i hi'] at h1
      simp only [List.getElem_map, List.getElem_range]
      exact ⟨h1, V1 i, h2, hL i hi'⟩
end Go.Proofs.Ytddhodmkcphggaa.MM
