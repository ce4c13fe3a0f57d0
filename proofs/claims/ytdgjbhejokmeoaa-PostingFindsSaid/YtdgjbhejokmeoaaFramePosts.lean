/-
  From the rows' readings to what the walks ask: a slice of posts (a number, a slice of numbers) that came in. No condition.
-/
import Derived.Test.YtdgjbhejokmeoaaFrame
import Derived.Test.YtdgjbhejokmeoaaFrameInts
import Derived.Test.YtdgjbhejokmeoaaPstRow
import Derived.Deep.SlicePairs
import Derived.Deep.Slices
set_option linter.unusedVariables false
namespace Go.Proofs.Ytdgjbhejokmeoaa.MM
open Go.ChangeShapes Go.WideShapes Go.ChangeAt Go.RowKit Go.Proofs Go.Proofs.Ytdgjbhejokmeoaa.PW Go.Proofs.Ytdgjbhejokmeoaa.PM

theorem cellsInt : Try.prog.cellsOf 3 = 1 := by kernel_rfl
theorem cellsInts : Try.prog.cellsOf 27 = 1 := by kernel_rfl
theorem cellsPost : Try.prog.cellsOf 47 = 2 := by kernel_rfl
/-- Docs that are whole numbers. -/
def FitP (ps : List Post) : Prop := ∀ p ∈ ps, -9223372036854775808 ≤ p.1 ∧ p.1 ≤ 9223372036854775807
/-- A cell that holds a whole number. -/
theorem argInt1 {H : Type} {enc : TypeId × Value → H} {W : World} {base n : Nat} {v : Value} {y : DataW H × List MemPlace}
    (h : DataW.trod enc Try.prog W base (fun _ => true) true n 3 [v] = some y) : ∃ z : Int, v = .int .i64 z ∧ -9223372036854775808 ≤ z ∧ z ≤ 9223372036854775807 := by
  obtain ⟨x, e, _, hw⟩ := DataW.trod_int Try.underlying3 h
  have hb := i64_of_wf hw
  simp at e
  exact ⟨x, e, hb.1, hb.2⟩
/-- A cell that holds a slice of whole numbers. -/
theorem argInts1 {H : Type} {enc : TypeId × Value → H} {W : World} {base n : Nat} {v : Value} {y : DataW H × List MemPlace}
    (h : DataW.trod enc Try.prog W base (fun _ => true) true n 27 [v] = some y) : ∃ zs, IRow W v zs := by
  rcases open_ints Try.underlying27 Try.underlying3 cellsInt h with ⟨hcs, _⟩ | ⟨x, m, c, zs, hcs, _⟩
  · simp at hcs
    subst hcs
    exact ⟨[], IRow.nil_ W⟩
  · simp at hcs
    subst hcs
    obtain ⟨d, p⟩ := y
    obtain ⟨zs, hz, _⟩ := argInts (d := d) (p := p) Try.underlying27 Try.underlying3 cellsInt ⟨n, h⟩
    exact ⟨zs, hz⟩
theorem argPosts {H : Type} {enc : TypeId × Value → H} {W : World} {base : Nat} {a : Option Addr} {len cap : Nat} {d : DataW H} {p : List MemPlace}
    (h : ∃ fuel, DataW.trod enc Try.prog W base (fun _ => true) true fuel 22 (Value.slice a len cap).cells.toList = some (d, p)) : ∃ ps, PRow W (.slice a len cap) ps ∧ FitP ps := by
  obtain ⟨fuel, hf⟩ := h
  rcases Deep.open_slice_pairs Try.underlying22 Try.underlying47 cellsPost rfl rfl cellsInt cellsInts hf with ⟨hcs, _⟩ | ⟨x, n, c, m, k, V0, V1, D0, D1, P0, P1, hcs, _, hl, hm, hmm, _, hall⟩
  · simp [Value.cells] at hcs
    obtain ⟨rfl, rfl, rfl⟩ := hcs
    exact ⟨[], POn.nil_ _ _, fun p hp => by simp at hp⟩
  · simp [Value.cells] at hcs
    obtain ⟨rfl, rfl, rfl⟩ := hcs
    have hmc : m = cap := by simpa using hmm
    subst hmc
    obtain ⟨K, hK⟩ := Deep.choose_lt (α := Int) (n := len) (p := fun i z => V0 i = .int .i64 z ∧ -9223372036854775808 ≤ z ∧ z ≤ 9223372036854775807) (fun i hi => argInt1 (hall i (by omega)).2.2.1)
    obtain ⟨L, hL⟩ := Deep.choose_lt (α := List Int) (n := len) (p := fun i l => IRow W (V1 i) l) (fun i hi => argInts1 (hall i (by omega)).2.2.2)
    refine ⟨(List.range len).map (fun i => (K i, L i)), ⟨some x, m, (List.range len).map (fun i => (K i, V1 i)), by simp, by simpa using hl, hm, (fun h => by cases h), ⟨by simp, fun i hi hi' => ?_⟩, ?_⟩, fun p hp => ?_⟩
    · have hi2 : i < len := by simpa using hi
      simp only [List.getElem_map, List.getElem_range]
      exact ⟨trivial, (ion_of_irow (B := W.heap.size) (hL i hi2) (Nat.le_refl _)).weak fun _ _ _ => trivial⟩
    · by_cases h0 : len = 0
      · left; simp [h0]
      · right
        obtain ⟨b, off, spot⟩ := x
        have hc0 := (hall 0 (by omega)).1
        have hspot : spot = none := by simpa [Addr.add] using World.cell?_spot hc0
        subst hspot
        rw [add_at] at hc0
        refine ⟨b, off, rfl, cell_lt hc0, trivial, fun i hi => ?_⟩
        have hi' : i < len := by simpa using hi
        obtain ⟨h1, h2, _⟩ := hall i (by omega)
        rw [add_at] at h1 h2
        rw [(hK i hi').1] at h1
        simp only [List.getElem_map, List.getElem_range]
        exact ⟨h1, h2⟩
    · obtain ⟨i, hi, rfl⟩ := List.mem_map.1 hp
      have hi2 : i < len := by simpa using hi
      exact (hK i hi2).2
end Go.Proofs.Ytdgjbhejokmeoaa.MM
