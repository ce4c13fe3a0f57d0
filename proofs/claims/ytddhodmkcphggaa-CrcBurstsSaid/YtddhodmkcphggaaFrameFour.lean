/-
  From the rows' readings to what the walks ask: an array of four bytes that came in. No condition.
-/
import Derived.Test.YtddhodmkcphggaaFrame
import Derived.Laws.IdiomArrays
set_option linter.unusedVariables false
namespace Go.Proofs.Ytddhodmkcphggaa.MM
open Go.ChangeShapes Go.WideShapes Go.ChangeAt Go.RowKit Go.Proofs

theorem list4 {α : Type} (l : List α) (h : (⟨l⟩ : Array α).size = 4) : ∃ a b c d, l = [a, b, c, d] := by
  match l, h with
  | [a, b, c, d], _ => exact ⟨a, b, c, d, rfl⟩
theorem cellsU8 : Try.prog.cellsOf 5 = 1 := by kernel_rfl
theorem cellsFour : Try.prog.cellsOf 45 = 4 := by kernel_rfl
/-- A byte's cell. -/
theorem argByte {H : Type} {enc : TypeId × Value → H} {W : World} {base n : Nat} {v : Value} {y : DataW H × List MemPlace}
    (h : DataW.trod enc Try.prog W base (fun _ => true) true n 5 [v] = some y) : ∃ c : UInt8, v = .int .u8 (c.toNat : Int) := by
  obtain ⟨x, e, _, hw⟩ := DataW.trod_int Try.underlying5 h
  obtain ⟨lo, hi⟩ := u8_of_wf hw
  simp at e
  refine ⟨UInt8.ofNat x.toNat, ?_⟩
  rw [e, UInt8.toNat_ofNat']
  congr 1
  omega
theorem argFour {H : Type} {enc : TypeId × Value → H} {W : World} {base base2 : Nat} {v : Value} {d : DataW H} {p : List MemPlace} (hv : Value.okWide Try.prog W .any base2 45 v)
    (h : ∃ fuel, DataW.trod enc Try.prog W base (fun _ => true) true fuel 45 v.cells.toList = some (d, p)) :
    ∃ c0 c1 c2 c3 : UInt8, v = .agg #[.int .u8 (c0.toNat : Int), .int .u8 (c1.toNat : Int), .int .u8 (c2.toNat : Int), .int .u8 (c3.toNat : Int)] := by
  obtain ⟨cs, rfl, hsz, _⟩ : ∃ cs, v = .agg cs ∧ cs.size = Try.prog.cellsOf 45 ∧ Row.okWide Try.prog W .any base2 45 cs := by
    simpa [Value.okWide, Try.underlying45] using hv
  rw [cellsFour] at hsz
  obtain ⟨l⟩ := cs
  obtain ⟨v0, v1, v2, v3, rfl⟩ := list4 l hsz
  obtain ⟨fuel, hf⟩ := h
  obtain ⟨y0, y1, y2, y3, m, hx, hy0, hy1, hy2, hy3⟩ := trod_array4 Try.underlying45 cellsU8 hf
  obtain ⟨c0, rfl⟩ := argByte hy0
  obtain ⟨c1, rfl⟩ := argByte hy1
  obtain ⟨c2, rfl⟩ := argByte hy2
  obtain ⟨c3, rfl⟩ := argByte hy3
  exact ⟨c0, c1, c2, c3, rfl⟩
end Go.Proofs.Ytddhodmkcphggaa.MM
