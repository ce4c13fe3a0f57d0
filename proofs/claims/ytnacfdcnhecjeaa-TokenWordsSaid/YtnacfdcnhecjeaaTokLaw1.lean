/-
  The law of P7.1 walked: it returns true at any text. Condition: a text is no longer than memory bears.
-/
import Derived.Test.YtnacfdcnhecjeaaTokAwake
set_option linter.unusedVariables false
namespace Go.Proofs.Ytnacfdcnhecjeaa.TK
open Go.RowKit Go.Proofs.Ytnacfdcnhecjeaa.MM

set_option maxRecDepth 100000 in
set_option maxHeartbeats 1000000 in
theorem words_walk (s : ByteArray) (w : World) (hs : s.size ≤ maxLen) : Calls Try.prog 3 #[.string s] w fun e w' => e = .returned (.bool true) ∧ Below w.heap.size w w' := by
  have HC := Lib.hid (fun W => cut7_any s W hs)
  have hcs := cutS_size s
  obtain ⟨t, ht⟩ : ∃ t, cutS s = t := ⟨_, rfl⟩
  rw [ht] at HC hcs
  have H1 := Lib.hid (fun W => tokens_any t W (by omega))
  have H2 := Lib.hid (fun W => rtokens_any t W (by omega))
  have H3 := Lib.hid (fun W => words_any t W (by omega))
  have H4 := Lib.hid (fun W => rwords_any t W (by omega))
  obtain ⟨ws, hws⟩ : ∃ ws, wordsB t.data.toList = ws := ⟨_, rfl⟩
  rw [hws] at H1 H2 H3 H4
  clear hws ht hcs hs
  go_enter Try.func3, Try.ntmps3
  go_wp2_with fail
  refine (HC.out _).mono ?_
  rintro e w1 ⟨rfl, rfl⟩
  clear HC
  go_wp2_with fail
  refine (H1.out _).mono ?_
  rintro e w1 ⟨v1, rfl, k1, b1⟩
  have K1 := Lib.hid k1
  clear k1 H1
  go_wp2_with fail
  refine (H2.out _).mono ?_
  rintro e w2 ⟨v2, rfl, k2, b2⟩
  have c2 := grow b1 b2
  have HS := Lib.hid (same_any v1 v2 _ w2 (K1.out.below b2) k2)
  clear k2 H2 K1 b1 b2
  go_wp2_with fail
  refine HS.out.mono ?_
  rintro e w3 ⟨rfl, b3⟩
  have c3 := grow c2 b3
  clear HS b3 c2
  go_wp2_with fail
  refine (H3.out _).mono ?_
  rintro e w4 ⟨v4, rfl, k4, b4⟩
  have K4 := Lib.hid k4.trow
  have c4 := grow c3 b4
  clear k4 H3 b4 c3
  go_wp2_with fail
  refine (H4.out _).mono ?_
  rintro e w5 ⟨v5, rfl, k5, b5⟩
  have c5 := grow c4 b5
  have HS := Lib.hid (samew_any v4 v5 _ w5 (K4.out.below b5) k5.trow)
  clear k5 H4 K4 b5 c4
  go_wp2_with fail
  refine HS.out.mono ?_
  rintro e w6 ⟨rfl, b6⟩
  have c6 := grow c5 b6
  clear HS b6 c5
  go_wp2_with fail
  refine (awake_any _).mono ?_
  rintro e w7 ⟨rfl, b7⟩
  have c7 := grow c6 b7
  clear b7 c6
  go_wp2_with fail
  go_ret
  exact ⟨rfl, c7⟩
end Go.Proofs.Ytnacfdcnhecjeaa.TK
