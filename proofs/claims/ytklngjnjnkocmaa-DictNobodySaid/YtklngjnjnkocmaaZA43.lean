/-
  '[]byte(s)': a new row of bytes, in a block of its own. Condition: a text of at most 10^12 bytes.
-/
import Derived.Test.YtklngjnjnkocmaaZA3
import Derived.Lib.ConvBytes
set_option linter.unusedVariables false
namespace Go.Proofs.Ytklngjnjnkocmaa.MM
open Go Go.RowKit

theorem conv_new (w : World) (l : List UInt8) (h : l.length ≤ 1000000000000) :
    ∃ cap W, (convert 9 23 (.string ⟨l.toArray⟩)).run Try.prog w = .ok (.slice (some ⟨w.heap.size, 0, none⟩) l.length cap) W ∧ ROn cU8 (fun b => b = w.heap.size) W (.slice (some ⟨w.heap.size, 0, none⟩) l.length cap) l ∧ Below w.heap.size w W ∧ W.heap.size = w.heap.size + 1 ∧ ∃ cur fr, W.heap[w.heap.size]? = some (.cells cur 5 fr) := by
  have hsz : (⟨l.toArray⟩ : ByteArray).size = l.length := by rw [Lib.size_eq]
  have hge := grownCap_ge w l.length 0 5
  have hle := grownCap_le_maxLen w l.length 0 5 (by unfold maxLen; omega)
  have hrun := Lib.run_convert_string_bytes w 9 23 5 ⟨l.toArray⟩ Try.underlying9 Try.underlying23 Try.underlying5
  rw [hsz] at hrun
  refine ⟨_, _, hrun, ?_, ⟨rfl, rfl, rfl, by rw [Lib.bytesWorld_size]; omega, fun k hk => Lib.bytesWorld_at_old w 5 _ k hk⟩, Lib.bytesWorld_size _ _ _, _, _, Lib.bytesWorld_at_new _ _ _⟩
  refine ⟨some ⟨w.heap.size, 0, none⟩, _, l.map fun c => [.int .u8 (c.toNat : Int)], rfl, hge, hle, fun h => (Option.some_ne_none _ h).elim, ⟨by simp, fun i hi hi' => by simp [cU8, cOne]⟩, .inr ⟨w.heap.size, 0, rfl, by rw [Lib.bytesWorld_size]; omega, rfl, fun j u hj => ?_⟩⟩
  rw [flat_singles] at hj
  have hlt : j < l.length := by have := (List.getElem?_eq_some_iff.1 hj).1; simpa using this
  rw [Nat.zero_add, Lib.bytesWorld_cell w 5 ⟨l.toArray⟩ j (by rw [hsz]; exact hlt)]
  rw [List.getElem?_map, List.getElem?_eq_getElem hlt] at hj
  simp at hj
  rw [← hj]
  simp [hlt]
end Go.Proofs.Ytklngjnjnkocmaa.MM
