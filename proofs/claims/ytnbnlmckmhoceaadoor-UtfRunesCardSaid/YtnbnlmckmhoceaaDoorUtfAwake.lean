/-
  The example at the head of each statement of layer 1 comes out true. Condition: the two tables of unicode/utf8 hold what their initialisers lay.
-/
import Derived.Test.YtnbnlmckmhoceaaDoorUtfFold
import Derived.Shelf.Unicode.ValidAny
set_option linter.unusedVariables false
namespace Go.Proofs.YtnbnlmckmhoceaaDoor.UM
open Go.RowKit

theorem ex_dec : Utf8.decode ⟨#[195, 137, 255]⟩ 0 = (201, 2) := by decide +kernel
theorem ex_fold : foldL [195, 137, 255] = [195, 169, 239, 191, 189] := by decide +kernel
theorem ex_valid : Lib.validD [255] = false := by decide +kernel
theorem ex_w1 : wordZ 201 = true := by decide
theorem ex_w2 : wordZ 32 = false := by decide
theorem ex_low : lowerZ 65 = 97 := by decide

theorem ex_dec_calls (W : World) (hT : Lib.Utf8Tabs 0 1 W) : Calls Tryd.prog 8 #[.string ⟨#[195, 137, 255]⟩, .int .i64 0] W fun e w' => e = .returned (.tuple #[.int .i64 201, .int .i64 2]) ∧ Below W.heap.size W w' := by
  have h := dec_in ⟨#[195, 137, 255]⟩ 0 W (by decide) (by decide) hT
  rw [ex_dec] at h
  exact h
theorem ex_fold_calls (W : World) : Calls Tryd.prog 20 #[.string ⟨#[195, 137, 255]⟩] W fun e w' => e = .returned (.string ⟨#[195, 169, 239, 191, 189]⟩) ∧ Below W.heap.size W w' := by
  have h := fold_any ⟨#[195, 137, 255]⟩ W (by decide)
  rw [show (⟨#[195, 137, 255]⟩ : ByteArray).data.toList = [195, 137, 255] from rfl, ex_fold] at h
  exact h
theorem ex_valid_calls (W : World) (hT : Lib.Utf8Tabs 0 1 W) : Calls Tryd.prog 22 #[.string ⟨#[255]⟩] W fun e w' => e = .returned (.bool false) ∧ Below W.heap.size W w' := by
  have h := valid_any ⟨#[255]⟩ W (by decide) hT
  rw [show (⟨#[255]⟩ : ByteArray).data.toList = [255] from rfl, ex_valid] at h
  exact h
theorem ex_w1_calls (W : World) : Calls Tryd.prog 18 #[.int .i64 201] W fun e w' => e = .returned (.bool true) ∧ Below W.heap.size W w' := by
  have h := word_any 201 W
  rw [ex_w1] at h
  exact h
theorem ex_w2_calls (W : World) : Calls Tryd.prog 18 #[.int .i64 32] W fun e w' => e = .returned (.bool false) ∧ Below W.heap.size W w' := by
  have h := word_any 32 W
  rw [ex_w2] at h
  exact h
theorem ex_low_calls (W : World) : Calls Tryd.prog 16 #[.int .i64 65] W fun e w' => e = .returned (.int .i64 97) ∧ Below W.heap.size W w' := by
  have h := lower_any 65 W
  rw [ex_low] at h
  exact h

theorem grow {a b c : World} (h : Below a.heap.size a b) (k : Below b.heap.size b c) : Below a.heap.size a c := h.trans (k.mono h.size)

set_option maxRecDepth 100000 in
set_option maxHeartbeats 1000000 in
theorem awake_any (w : World) (hT : Lib.Utf8Tabs 0 1 w) : Calls Tryd.prog 15 #[] w fun e w' => e = .returned (.bool true) ∧ Below w.heap.size w w' := by
  have HT := Lib.hid hT
  clear hT
  go_enter Tryd.func15, Tryd.ntmps15
  go_wp2_with fail
  refine (ex_dec_calls _ HT.out).mono ?_
  rintro e w1 ⟨rfl, b1⟩
  go_wp2_with fail
  refine (ex_fold_calls _).mono ?_
  rintro e w2 ⟨rfl, b2⟩
  have c2 := grow b1 b2
  go_wp2_with fail
  refine (ex_w1_calls _).mono ?_
  rintro e w3 ⟨rfl, b3⟩
  have c3 := grow c2 b3
  go_wp2_with fail
  refine (ex_w2_calls _).mono ?_
  rintro e w4 ⟨rfl, b4⟩
  have c4 := grow c3 b4
  go_wp2_with fail
  refine (ex_low_calls _).mono ?_
  rintro e w5 ⟨rfl, b5⟩
  have c5 := grow c4 b5
  go_wp2_with fail
  refine (ex_valid_calls _ (Utf8Tabs_below HT.out c5)).mono ?_
  rintro e w6 ⟨rfl, b6⟩
  have c6 := grow c5 b6
  go_wp2
  go_ret
  exact ⟨rfl, c6⟩
end Go.Proofs.YtnbnlmckmhoceaaDoor.UM
