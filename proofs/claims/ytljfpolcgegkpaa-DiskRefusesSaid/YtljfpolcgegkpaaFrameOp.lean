/-
  From the rows' readings to what the walks ask: an op of layer 6 that came in by value. No condition.
-/
import Derived.Test.YtljfpolcgegkpaaFrameInts
import Derived.Test.YtljfpolcgegkpaaDskShort
set_option linter.unusedVariables false
namespace Go.Proofs.Ytljfpolcgegkpaa.MM
open Go.ChangeShapes Go.WideShapes Go.ChangeAt Go.RowKit Go.Proofs Go.Proofs.Ytljfpolcgegkpaa.DK

theorem cO0 : Try.prog.cellsOf 5 = 1 := by kernel_rfl
theorem cO1 : Try.prog.cellsOf 9 = 1 := by kernel_rfl
theorem cO2 : Try.prog.cellsOf 3 = 1 := by kernel_rfl
theorem cO3 : Try.prog.cellsOf 36 = 1 := by kernel_rfl
theorem cO4 : Try.prog.cellsOf 37 = 1 := by kernel_rfl
theorem cO : Try.prog.cellsOf 39 = 7 := by kernel_rfl
theorem argBytesC {H : Type} {enc : TypeId × Value → H} {W : World} {base n : Nat} {v : Value} {y : DataW H × List MemPlace}
    (h : DataW.trod enc Try.prog W base (fun _ => true) true n 36 [v] = some y) : ∃ l, BRow W v l := by
  rcases open_ints Try.underlying36 Try.underlying5 cO0 h with ⟨hcs, _⟩ | ⟨x, m, c, zs, hcs, _⟩
  · simp at hcs
    subst hcs
    exact ⟨[], BRow.nil_ W⟩
  · simp at hcs
    subst hcs
    obtain ⟨d, p⟩ := y
    exact argBytes (d := d) (p := p) Try.underlying36 Try.underlying5 cO0 ⟨n, h⟩
theorem argIntsC {H : Type} {enc : TypeId × Value → H} {W : World} {base n : Nat} {v : Value} {y : DataW H × List MemPlace}
    (h : DataW.trod enc Try.prog W base (fun _ => true) true n 37 [v] = some y) : ∃ zs, IRow W v zs ∧ ∀ x ∈ zs, -9223372036854775808 ≤ x ∧ x ≤ 9223372036854775807 := by
  rcases open_ints Try.underlying37 Try.underlying3 cO2 h with ⟨hcs, _⟩ | ⟨x, m, c, zs, hcs, _⟩
  · simp at hcs
    subst hcs
    exact ⟨[], IRow.nil_ W, fun x hx => (List.not_mem_nil hx).elim⟩
  · simp at hcs
    subst hcs
    obtain ⟨d, p⟩ := y
    obtain ⟨zs, h1, h2, _, _, h5⟩ := argInts (d := d) (p := p) Try.underlying37 Try.underlying3 cO2 ⟨n, h⟩
    refine ⟨zs, h1, fun x hx => ?_⟩
    obtain ⟨i, hi, rfl⟩ := List.mem_iff_getElem.1 hx
    have := h5 i hi
    simpa [List.getD, hi] using this
/-- Seven cells that read as an op's fields. -/
theorem op_of_cells {H : Type} {enc : TypeId × Value → H} {W : World} {n : Nat} {c0 c1 c2 c3 c4 c5 c6 : Value} {y0 y1 y2 y3 y4 y5 y6 : DataW H × List MemPlace}
    (g0 : DataW.trod enc Try.prog W 0 (fun _ => true) true n 5 [c0] = some y0) (g1 : DataW.trod enc Try.prog W 0 (fun _ => true) true n 9 [c1] = some y1) (g2 : DataW.trod enc Try.prog W 0 (fun _ => true) true n 9 [c2] = some y2)
    (g3 : DataW.trod enc Try.prog W 0 (fun _ => true) true n 36 [c3] = some y3) (g4 : DataW.trod enc Try.prog W 0 (fun _ => true) true n 3 [c4] = some y4) (g5 : DataW.trod enc Try.prog W 0 (fun _ => true) true n 3 [c5] = some y5)
    (g6 : DataW.trod enc Try.prog W 0 (fun _ => true) true n 37 [c6] = some y6) : ∃ o, OpIn W.heap.size W (.agg #[c0, c1, c2, c3, c4, c5, c6]) o := by
  obtain ⟨x0, e0, _, w0⟩ := DataW.trod_int Try.underlying5 g0
  obtain ⟨s1, e1, _, z1⟩ := DataW.trod_string Try.underlying9 g1
  obtain ⟨s2, e2, _, z2⟩ := DataW.trod_string Try.underlying9 g2
  obtain ⟨l3, b3⟩ := argBytesC g3
  obtain ⟨x4, e4, _, w4⟩ := DataW.trod_int Try.underlying3 g4
  obtain ⟨x5, e5, _, w5⟩ := DataW.trod_int Try.underlying3 g5
  obtain ⟨z6, b6, r6⟩ := argIntsC g6
  obtain ⟨m0, rfl, h0⟩ := u8nat_of_wf w0
  obtain ⟨a1, a2⟩ := i64_of_wf w4
  obtain ⟨n1, n2⟩ := i64_of_wf w5
  simp only [List.cons.injEq, and_true] at e0 e1 e2 e4 e5
  subst e0 e1 e2 e4 e5
  unfold maxLen at z1 z2
  exact ⟨⟨m0, s1.data.toList, s2.data.toList, l3, x4, x5, z6⟩, ⟨c3, c6, rfl, b3, b6⟩, h0, a1, a2, n1, n2, r6, by rw [Lib.size_eq] at z1; exact z1, by rw [Lib.size_eq] at z2; exact z2⟩
set_option maxRecDepth 100000 in
theorem argOp {H : Type} {enc : TypeId × Value → H} {W : World} {v : Value} {d : DataW H} {p : List MemPlace} (hv : Value.okWide Try.prog W .any 0 39 v)
    (h : ∃ fuel, DataW.trod enc Try.prog W 0 (fun _ => true) true fuel 39 v.cells.toList = some (d, p)) : ∃ o, OpIn W.heap.size W v o := by
  obtain ⟨cs, rfl, hsz⟩ := okWide_struct Try.underlying39 hv
  obtain ⟨l⟩ := cs
  have hsz : l.length = 7 := hsz.trans cO
  match l, hsz with
  | [c0, c1, c2, c3, c4, c5, c6], _ =>
    obtain ⟨fuel, hf⟩ := h
    obtain ⟨xs, n, _, _, _, hlen, hg⟩ := DataW.trod_struct Try.underlying39 hf
    match xs, hlen with
    | [y0, y1, y2, y3, y4, y5, y6], _ =>
      have g0 := hg 0 _ rfl
      have g1 := hg 1 _ rfl
      have g2 := hg 2 _ rfl
      have g3 := hg 3 _ rfl
      have g4 := hg 4 _ rfl
      have g5 := hg 5 _ rfl
      have g6 := hg 6 _ rfl
      simp only [cO0, cO1, cO2, cO3, cO4, Value.cells] at g0 g1 g2 g3 g4 g5 g6
      exact op_of_cells g0 g1 g2 g3 g4 g5 g6
end Go.Proofs.Ytljfpolcgegkpaa.MM
