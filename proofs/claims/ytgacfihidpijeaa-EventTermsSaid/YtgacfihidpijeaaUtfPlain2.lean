/-
  Lower and IsWord, the code's (tables that are gone through) and the reference's (tests): each returns what the plain functions say, of any number. No conditions.
-/
import Derived.Test.YtgacfihidpijeaaProg
import Derived.Test.YtgacfihidpijeaaUtfMath
import Derived.WalkKit
import Derived.Below
import Derived.Lib.Hide
import Derived.LoopTactic
import Derived.Outline
set_option linter.unusedVariables false
namespace Go.Proofs.Ytgacfihidpijeaa.UM
open Go.RowKit

def lowNo (k : Nat) (r : Int) : Prop := (1 ≤ k → ¬ (65 ≤ r ∧ r ≤ 90)) ∧ (2 ≤ k → ¬ (192 ≤ r ∧ r ≤ 214)) ∧ (3 ≤ k → ¬ (216 ≤ r ∧ r ≤ 222)) ∧ (4 ≤ k → ¬ (913 ≤ r ∧ r ≤ 929)) ∧ (5 ≤ k → ¬ (931 ≤ r ∧ r ≤ 939)) ∧ (6 ≤ k → ¬ (1024 ≤ r ∧ r ≤ 1039)) ∧ (7 ≤ k → ¬ (1040 ≤ r ∧ r ≤ 1071))
theorem lowNo_zero (r : Int) : lowNo 0 r := by unfold lowNo; omega
theorem lowNo_1 (r : Int) (h : lowNo 0 r) (g : ¬ (65 ≤ r ∧ r ≤ 90)) : lowNo 1 r := by unfold lowNo at *; omega
theorem lowNo_2 (r : Int) (h : lowNo 1 r) (g : ¬ (192 ≤ r ∧ r ≤ 214)) : lowNo 2 r := by unfold lowNo at *; omega
theorem lowNo_3 (r : Int) (h : lowNo 2 r) (g : ¬ (216 ≤ r ∧ r ≤ 222)) : lowNo 3 r := by unfold lowNo at *; omega
theorem lowNo_4 (r : Int) (h : lowNo 3 r) (g : ¬ (913 ≤ r ∧ r ≤ 929)) : lowNo 4 r := by unfold lowNo at *; omega
theorem lowNo_5 (r : Int) (h : lowNo 4 r) (g : ¬ (931 ≤ r ∧ r ≤ 939)) : lowNo 5 r := by unfold lowNo at *; omega
theorem lowNo_6 (r : Int) (h : lowNo 5 r) (g : ¬ (1024 ≤ r ∧ r ≤ 1039)) : lowNo 6 r := by unfold lowNo at *; omega
theorem lowNo_7 (r : Int) (h : lowNo 6 r) (g : ¬ (1040 ≤ r ∧ r ≤ 1071)) : lowNo 7 r := by unfold lowNo at *; omega
theorem lowNo_end (r : Int) (h : lowNo 7 r) : lowerZ r = r := by unfold lowNo at h; unfold lowerZ; (repeat' split) <;> omega
theorem low_hit0 (r : Int) (g : 65 ≤ r ∧ r ≤ 90) : lowerZ r = r + 32 := by unfold lowerZ; (repeat' split) <;> omega
theorem low_hit1 (r : Int) (g : 192 ≤ r ∧ r ≤ 214) : lowerZ r = r + 32 := by unfold lowerZ; (repeat' split) <;> omega
theorem low_hit2 (r : Int) (g : 216 ≤ r ∧ r ≤ 222) : lowerZ r = r + 32 := by unfold lowerZ; (repeat' split) <;> omega
theorem low_hit3 (r : Int) (g : 913 ≤ r ∧ r ≤ 929) : lowerZ r = r + 32 := by unfold lowerZ; (repeat' split) <;> omega
theorem low_hit4 (r : Int) (g : 931 ≤ r ∧ r ≤ 939) : lowerZ r = r + 32 := by unfold lowerZ; (repeat' split) <;> omega
theorem low_hit5 (r : Int) (g : 1024 ≤ r ∧ r ≤ 1039) : lowerZ r = r + 80 := by unfold lowerZ; (repeat' split) <;> omega
theorem low_hit6 (r : Int) (g : 1040 ≤ r ∧ r ≤ 1071) : lowerZ r = r + 32 := by unfold lowerZ; (repeat' split) <;> omega
def wordNo (k : Nat) (r : Int) : Prop := (1 ≤ k → ¬ (48 ≤ r ∧ r ≤ 57)) ∧ (2 ≤ k → ¬ (65 ≤ r ∧ r ≤ 90)) ∧ (3 ≤ k → ¬ (97 ≤ r ∧ r ≤ 122)) ∧ (4 ≤ k → ¬ (192 ≤ r ∧ r ≤ 214)) ∧ (5 ≤ k → ¬ (216 ≤ r ∧ r ≤ 246)) ∧ (6 ≤ k → ¬ (248 ≤ r ∧ r ≤ 255)) ∧ (7 ≤ k → ¬ (913 ≤ r ∧ r ≤ 929)) ∧ (8 ≤ k → ¬ (931 ≤ r ∧ r ≤ 974)) ∧ (9 ≤ k → ¬ (1024 ≤ r ∧ r ≤ 1119))
theorem wordNo_zero (r : Int) : wordNo 0 r := by unfold wordNo; omega
theorem wordNo_1 (r : Int) (h : wordNo 0 r) (g : ¬ (48 ≤ r ∧ r ≤ 57)) : wordNo 1 r := by unfold wordNo at *; omega
theorem wordNo_2 (r : Int) (h : wordNo 1 r) (g : ¬ (65 ≤ r ∧ r ≤ 90)) : wordNo 2 r := by unfold wordNo at *; omega
theorem wordNo_3 (r : Int) (h : wordNo 2 r) (g : ¬ (97 ≤ r ∧ r ≤ 122)) : wordNo 3 r := by unfold wordNo at *; omega
theorem wordNo_4 (r : Int) (h : wordNo 3 r) (g : ¬ (192 ≤ r ∧ r ≤ 214)) : wordNo 4 r := by unfold wordNo at *; omega
theorem wordNo_5 (r : Int) (h : wordNo 4 r) (g : ¬ (216 ≤ r ∧ r ≤ 246)) : wordNo 5 r := by unfold wordNo at *; omega
theorem wordNo_6 (r : Int) (h : wordNo 5 r) (g : ¬ (248 ≤ r ∧ r ≤ 255)) : wordNo 6 r := by unfold wordNo at *; omega
theorem wordNo_7 (r : Int) (h : wordNo 6 r) (g : ¬ (913 ≤ r ∧ r ≤ 929)) : wordNo 7 r := by unfold wordNo at *; omega
theorem wordNo_8 (r : Int) (h : wordNo 7 r) (g : ¬ (931 ≤ r ∧ r ≤ 974)) : wordNo 8 r := by unfold wordNo at *; omega
theorem wordNo_9 (r : Int) (h : wordNo 8 r) (g : ¬ (1024 ≤ r ∧ r ≤ 1119)) : wordNo 9 r := by unfold wordNo at *; omega
theorem wordNo_end (r : Int) (h : wordNo 9 r) : wordZ r = false := by unfold wordNo at h; unfold wordZ; exact decide_eq_false (by omega)
theorem word_hit0 (r : Int) (g : 48 ≤ r ∧ r ≤ 57) : wordZ r = true := by unfold wordZ; exact decide_eq_true (by omega)
theorem word_hit1 (r : Int) (g : 65 ≤ r ∧ r ≤ 90) : wordZ r = true := by unfold wordZ; exact decide_eq_true (by omega)
theorem word_hit2 (r : Int) (g : 97 ≤ r ∧ r ≤ 122) : wordZ r = true := by unfold wordZ; exact decide_eq_true (by omega)
theorem word_hit3 (r : Int) (g : 192 ≤ r ∧ r ≤ 214) : wordZ r = true := by unfold wordZ; exact decide_eq_true (by omega)
theorem word_hit4 (r : Int) (g : 216 ≤ r ∧ r ≤ 246) : wordZ r = true := by unfold wordZ; exact decide_eq_true (by omega)
theorem word_hit5 (r : Int) (g : 248 ≤ r ∧ r ≤ 255) : wordZ r = true := by unfold wordZ; exact decide_eq_true (by omega)
theorem word_hit6 (r : Int) (g : 913 ≤ r ∧ r ≤ 929) : wordZ r = true := by unfold wordZ; exact decide_eq_true (by omega)
theorem word_hit7 (r : Int) (g : 931 ≤ r ∧ r ≤ 974) : wordZ r = true := by unfold wordZ; exact decide_eq_true (by omega)
theorem word_hit8 (r : Int) (g : 1024 ≤ r ∧ r ≤ 1119) : wordZ r = true := by unfold wordZ; exact decide_eq_true (by omega)
theorem ret_int {k : IntKind} {a b : Int} (h : a = b) : Ending.returned (.int k a) = .returned (.int k b) := by rw [h]
theorem ret_bool {a b : Bool} (h : a = b) : Ending.returned (.bool a) = .returned (.bool b) := by rw [h]
end Go.Proofs.Ytgacfihidpijeaa.UM
