/-
  The page's example of layer 7, and cut: no text is longer than 1500 bytes behind it. Condition (cut): a text is no longer than memory bears.
-/
import Derived.Test.YtnacfdcnhecjeaaTokSplit
set_option linter.unusedVariables false
namespace Go.Proofs.Ytnacfdcnhecjeaa.TK
open Go.RowKit Go.Proofs.Ytnacfdcnhecjeaa.MM
open Go.Proofs.Ytnacfdcnhecjeaa.UM (lowerZ wordZ encL runesL)

/-! ### cut -/
def cutS (s : ByteArray) : ByteArray := s.extract 0 (min s.size 1500)
theorem cutS_size (s : ByteArray) : (cutS s).size ≤ 1500 := by simp [cutS]; omega
theorem cut7_any (s : ByteArray) (w : World) (hs : s.size ≤ maxLen) : Calls Try.prog 6 #[.string s] w fun e w' => e = .returned (.string (cutS s)) ∧ w' = w := by
  unfold maxLen at hs
  have e : (min (s.size : Int) 1500).toNat = min s.size 1500 := by omega
  unfold cutS
  have E := Lib.hid e
  clear e
  go_enter Try.func6, Try.ntmps6
  go_wp2
  go_ret
  rw [← E.out]
  exact ⟨rfl, rfl⟩

/-! ### the page's example -/
theorem ex_words : wordsB [65, 98, 45, 99, 32, 49, 50, 195, 159, 33] = [[97, 98], [99], [49, 50, 195, 159]] := by decide +kernel
theorem ex_term : termL [109, 115, 103] [97, 98] = ([109, 115, 103, 58, 97, 98], 0) := by decide +kernel
theorem ex_split : splitL [109, 115, 103, 58, 97, 98] = (([109, 115, 103], [97, 98]), true) := by decide +kernel
theorem ex_name1 : nameL [97, 95, 49] = true := by decide
theorem ex_name2 : nameL [65] = false := by decide
theorem ex_term_calls (W : World) : Calls Try.prog 14 #[.string ⟨#[109, 115, 103]⟩, .string ⟨#[97, 98]⟩] W fun e w' => e = .returned (.tuple #[.string ⟨#[109, 115, 103, 58, 97, 98]⟩, .int .i64 0]) ∧ Below W.heap.size W w' := by
  have h := term_any [109, 115, 103] [97, 98] W (by simp)
  rw [ex_term] at h
  exact h
theorem ex_split_calls (W : World) : Calls Try.prog 16 #[.string ⟨#[109, 115, 103, 58, 97, 98]⟩] W fun e w' => e = .returned (.tuple #[.string ⟨#[109, 115, 103]⟩, .string ⟨#[97, 98]⟩, .bool true]) ∧ Below W.heap.size W w' := by
  have h := split_any ⟨#[109, 115, 103, 58, 97, 98]⟩ W (by decide)
  have e : (⟨#[109, 115, 103, 58, 97, 98]⟩ : ByteArray).data.toList = [109, 115, 103, 58, 97, 98] := rfl
  rw [e, ex_split] at h
  exact h
theorem ex_words_calls (W : World) : Calls Try.prog 11 #[.string ⟨#[65, 98, 45, 99, 32, 49, 50, 195, 159, 33]⟩] W (WordsLeft [[97, 98], [99], [49, 50, 195, 159]] W) := by
  have h := words_any ⟨#[65, 98, 45, 99, 32, 49, 50, 195, 159, 33]⟩ W (by decide)
  have e : (⟨#[65, 98, 45, 99, 32, 49, 50, 195, 159, 33]⟩ : ByteArray).data.toList = [65, 98, 45, 99, 32, 49, 50, 195, 159, 33] := rfl
  rw [e, ex_words] at h
  exact h
theorem ex_name1_calls (W : World) : Calls Try.prog 20 #[.string ⟨#[97, 95, 49]⟩] W (TruthLeft true W) := by
  have h := isname_any ⟨#[97, 95, 49]⟩ W
  have e : (⟨#[97, 95, 49]⟩ : ByteArray).data.toList = [97, 95, 49] := rfl
  rw [e, ex_name1] at h
  exact h
theorem ex_name2_calls (W : World) : Calls Try.prog 20 #[.string ⟨#[65]⟩] W (TruthLeft false W) := by
  have h := isname_any ⟨#[65]⟩ W
  have e : (⟨#[65]⟩ : ByteArray).data.toList = [65] := rfl
  rw [e, ex_name2] at h
  exact h
theorem trow_three (w : World) (a b c : List UInt8) : TRow (w.alloc (.cells #[.string ⟨a.toArray⟩, .string ⟨b.toArray⟩, .string ⟨c.toArray⟩] 9)) (.slice (some ⟨w.heap.size, 0, none⟩) 3 3) [a, b, c] :=
  Row.of_own (own_lit w [.string ⟨a.toArray⟩, .string ⟨b.toArray⟩, .string ⟨c.toArray⟩] 9 0 (Nat.zero_le _) (by unfold maxLen; simp))

set_option maxRecDepth 100000 in
set_option maxHeartbeats 1000000 in
theorem awake_any (w : World) : Calls Try.prog 13 #[] w (TruthLeft true w) := by
  go_enter Try.func13, Try.ntmps13
  go_wp2_with fail
  refine (ex_term_calls _).mono ?_
  rintro e w1 ⟨rfl, b1⟩
  go_wp2_with fail
  refine (ex_split_calls _).mono ?_
  rintro e w2 ⟨rfl, b2⟩
  have c2 := grow b1 b2
  clear b1 b2
  go_wp2_with fail
  refine (ex_words_calls _).mono ?_
  rintro e w3 ⟨v, rfl, hown, b3⟩
  have c3 := grow c2 b3
  have hb0 : Below w3.heap.size w3 (w3.alloc (.cells #[.string ⟨[97, 98].toArray⟩, .string ⟨[99].toArray⟩, .string ⟨[49, 50, 195, 159].toArray⟩] 9)) := (Below.refl _ _).alloc (Nat.le_refl _) _
  have HS := Lib.hid (samew_any v _ _ _ (hown.trow.below hb0) (trow_three w3 [97, 98] [99] [49, 50, 195, 159]))
  have c4 := grow c3 hb0
  clear hown b3 hb0 c2 c3
  go_wp2_with fail
  refine HS.out.mono ?_
  rintro e w4 ⟨rfl, b4⟩
  have c5 := grow c4 b4
  clear b4 c4 HS
  go_wp2_with fail
  refine (ex_name1_calls _).mono ?_
  rintro e w5 ⟨rfl, b5⟩
  have c6 := grow c5 b5
  clear b5 c5
  go_wp2_with fail
  refine (ex_name2_calls _).mono ?_
  rintro e w6 ⟨rfl, b6⟩
  have c7 := grow c6 b6
  clear b6 c6
  go_wp2_with fail
  go_ret
  exact ⟨rfl, c7⟩
end Go.Proofs.Ytnacfdcnhecjeaa.TK
