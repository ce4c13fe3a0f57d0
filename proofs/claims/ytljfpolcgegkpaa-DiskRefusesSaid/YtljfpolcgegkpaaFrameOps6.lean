/-
  From the rows' readings to what the walks ask: a slice of ops of seven fields that came in. No condition.
-/
import Derived.Test.YtljfpolcgegkpaaFrameOp
import Derived.Test.YtljfpolcgegkpaaDskShort
import Derived.Deep.Slices
set_option linter.unusedVariables false
namespace Go.Proofs.Ytljfpolcgegkpaa.MM
open Go.ChangeShapes Go.WideShapes Go.ChangeAt Go.RowKit Go.Proofs Go.Proofs.Ytljfpolcgegkpaa.DK

set_option maxRecDepth 100000 in
theorem argOps6 {H : Type} {enc : TypeId × Value → H} {W : World} {a : Option Addr} {len cap : Nat} {d : DataW H} {p : List MemPlace}
    (h : ∃ fuel, DataW.trod enc Try.prog W 0 (fun _ => true) true fuel 22 (Value.slice a len cap).cells.toList = some (d, p)) : ∃ os, OpsIn W.heap.size W (.slice a len cap) os := by
  obtain ⟨fuel, hf⟩ := h
  rcases Deep.open_slice Try.underlying22 hf with ⟨hcs, _⟩ | ⟨x, n, c, m, k, D, Pl, hcs, hbase, hl, hm, hmm, _, hall⟩
  · simp [Value.cells] at hcs
    obtain ⟨rfl, rfl, rfl⟩ := hcs
    exact ⟨[], none, 0, rfl, Nat.le_refl _, by unfold maxLen; omega, .inl rfl⟩
  · simp [Value.cells] at hcs
    obtain ⟨rfl, rfl, rfl⟩ := hcs
    have hmc : m = cap := by simpa using hmm
    subst hmc
    obtain ⟨b, off, spot⟩ := x
    have hsp0 : len ≠ 0 → spot = none := by
      intro h0
      obtain ⟨cs, h1, h2⟩ := hall 0 (by omega)
      rw [cO] at h1
      obtain ⟨_, hlen, hcell⟩ := World.cells?_some h1
      obtain ⟨c, hc⟩ : ∃ c, cs[0]? = some c := ⟨cs[0], List.getElem?_eq_getElem (by omega)⟩
      have e0 := hcell 0 (by omega)
      rw [Deep.add_add, hc] at e0
      simpa [Addr.add] using World.cell?_spot e0
    have each : ∀ i, i < len → ∃ o, spot = none ∧ b < W.heap.size ∧ OpAt W.heap.size W b (off + i * 7) o := by
      intro i hi
      obtain ⟨cs, h1, h2⟩ := hall i (by omega)
      rw [cO] at h1
      obtain ⟨_, hlen, hcell⟩ := World.cells?_some h1
      obtain ⟨xs, n, _, _, _, hxl, hg⟩ := DataW.trod_struct Try.underlying39 h2
      match xs, hxl, cs, hlen with
      | [y0, y1, y2, y3, y4, y5, y6], _, [c0, c1, c2, c3, c4, c5, c6], _ =>
        have g0 : DataW.trod enc Try.prog W 0 (fun _ => true) true n 5 (([c0, c1, c2, c3, c4, c5, c6].drop 0).take (Try.prog.cellsOf 5)) = some y0 := hg 0 _ rfl
        rw [cO0] at g0
        have g1 : DataW.trod enc Try.prog W 0 (fun _ => true) true n 9 (([c0, c1, c2, c3, c4, c5, c6].drop 1).take (Try.prog.cellsOf 9)) = some y1 := hg 1 _ rfl
        rw [cO1] at g1
        have g2 : DataW.trod enc Try.prog W 0 (fun _ => true) true n 9 (([c0, c1, c2, c3, c4, c5, c6].drop 2).take (Try.prog.cellsOf 9)) = some y2 := hg 2 _ rfl
        rw [cO1] at g2
        have g3 : DataW.trod enc Try.prog W 0 (fun _ => true) true n 36 (([c0, c1, c2, c3, c4, c5, c6].drop 3).take (Try.prog.cellsOf 36)) = some y3 := hg 3 _ rfl
        rw [cO3] at g3
        have g4 : DataW.trod enc Try.prog W 0 (fun _ => true) true n 3 (([c0, c1, c2, c3, c4, c5, c6].drop 4).take (Try.prog.cellsOf 3)) = some y4 := hg 4 _ rfl
        rw [cO2] at g4
        have g5 : DataW.trod enc Try.prog W 0 (fun _ => true) true n 3 (([c0, c1, c2, c3, c4, c5, c6].drop 5).take (Try.prog.cellsOf 3)) = some y5 := hg 5 _ rfl
        rw [cO2] at g5
        have g6 : DataW.trod enc Try.prog W 0 (fun _ => true) true n 37 (([c0, c1, c2, c3, c4, c5, c6].drop 6).take (Try.prog.cellsOf 37)) = some y6 := hg 6 _ rfl
        rw [cO4] at g6
        obtain ⟨o, ho⟩ := op_of_cells g0 g1 g2 g3 g4 g5 g6
        have e0 := hcell 0 (by omega)
        have e1 := hcell 1 (by omega)
        have e2 := hcell 2 (by omega)
        have e3 := hcell 3 (by omega)
        have e4 := hcell 4 (by omega)
        have e5 := hcell 5 (by omega)
        have e6 := hcell 6 (by omega)
        rw [Deep.add_add] at e0 e1 e2 e3 e4 e5 e6
        have hspot : spot = none := hsp0 (by omega)
        subst hspot
        rw [add_at] at e0 e1 e2 e3 e4 e5 e6
        refine ⟨o, rfl, cell_lt (by simpa using e0), c0, c1, c2, c3, c4, c5, c6, ho, ?_, ?_, ?_, ?_, ?_, ?_, ?_⟩
        · simpa using e0
        · simpa [Nat.add_assoc] using e1
        · simpa [Nat.add_assoc] using e2
        · simpa [Nat.add_assoc] using e3
        · simpa [Nat.add_assoc] using e4
        · simpa [Nat.add_assoc] using e5
        · simpa [Nat.add_assoc] using e6
    obtain ⟨K, hK⟩ := Deep.choose_lt each
    refine ⟨(List.range len).map K, some ⟨b, off, spot⟩, m, by simp, by simpa using hl, hm, ?_⟩
    by_cases h0 : len = 0
    · left; simp [h0]
    · right
      obtain ⟨hsp, hbl, _⟩ := hK 0 (by omega)
      subst hsp
      refine ⟨b, off, rfl, hbl, fun i o hi => ?_⟩
      rw [List.getElem?_map] at hi
      have hi' : i < len := by
        rcases Nat.lt_or_ge i len with q | q
        · exact q
        · rw [List.getElem?_eq_none (by simpa using q)] at hi; simp at hi
      rw [List.getElem?_eq_getElem (by simpa using hi')] at hi
      simp at hi
      subst hi
      exact (hK i hi').2.2
end Go.Proofs.Ytljfpolcgegkpaa.MM
