/-
  The law of P7.2 and P7.5 walked: it returns true at any three texts. Condition: a text is no longer than memory bears.
-/
import Derived.Test.YtnacfdcnhecjeaaTokAwake
set_option linter.unusedVariables false
namespace Go.Proofs.Ytnacfdcnhecjeaa.TK
open Go.RowKit Go.Proofs.Ytnacfdcnhecjeaa.MM

theorem as_list (s : ByteArray) : s = ⟨s.data.toList.toArray⟩ := by simp

set_option maxRecDepth 100000 in
set_option maxHeartbeats 2000000 in
theorem terms_walk (s1 s2 s3 : ByteArray) (w : World) (hs1 : s1.size ≤ maxLen) (hs2 : s2.size ≤ maxLen) (hs3 : s3.size ≤ maxLen) : Calls Try.prog 4 #[.string s1, .string s2, .string s3] w fun e w' => e = .returned (.bool true) ∧ Below w.heap.size w w' := by
  have HC1 := Lib.hid (fun W => cut7_any s1 W hs1)
  have HC2 := Lib.hid (fun W => cut7_any s2 W hs2)
  have HC3 := Lib.hid (fun W => cut7_any s3 W hs3)
  have hz1 := cutS_size s1
  have hz2 := cutS_size s2
  have hz3 := cutS_size s3
  rw [as_list (cutS s1)] at HC1 hz1
  rw [as_list (cutS s2)] at HC2 hz2
  rw [as_list (cutS s3)] at HC3 hz3
  generalize (cutS s1).data.toList = a at HC1 hz1
  generalize (cutS s2).data.toList = b at HC2 hz2
  generalize (cutS s3).data.toList = t at HC3 hz3
  rw [text_size] at hz1 hz2 hz3
  have ea : (⟨a.toArray⟩ : ByteArray).data.toList = a := by simp
  have eb : (⟨b.toArray⟩ : ByteArray).data.toList = b := by simp
  have et : (⟨t.toArray⟩ : ByteArray).data.toList = t := by simp
  have H1 := Lib.hid (fun W => term_any a b W (by omega))
  have H2 := Lib.hid (fun W => rterm_any a b W (by omega) (by omega))
  have H3 := Lib.hid (fun W => split_any ⟨t.toArray⟩ W (by rw [text_size]; omega))
  have H4 := Lib.hid (fun W => rsplit_any ⟨t.toArray⟩ W (by rw [text_size]; omega))
  have H5 := Lib.hid (fun W => isword_any ⟨b.toArray⟩ W (by rw [text_size]; omega))
  have H6 := Lib.hid (fun W => risword_any ⟨b.toArray⟩ W (by rw [text_size]; omega))
  have H7 := Lib.hid (fun W => isname_any ⟨a.toArray⟩ W)
  have H8 := Lib.hid (fun W => risname_any ⟨a.toArray⟩ W (by rw [text_size]; omega))
  rw [et] at H3 H4
  rw [eb] at H5 H6
  rw [ea] at H7 H8
  have H9 : Hid (termL a b = (a ++ 58 :: b, 0) ∨ termL a b = ([], 1)) := Lib.hid (by
    unfold termL
    split
    · exact .inl rfl
    · exact .inr rfl)
  have H10 : Hid (termL a b = (a ++ 58 :: b, 0) → ∀ W, Calls Try.prog 16 #[.string ⟨(a ++ 58 :: b).toArray⟩] W (SplitLeft ((a, b), true) W)) := Lib.hid (fun h W => by
    have hc : (nameL a && wordL b) = true := by
      cases hc : (nameL a && wordL b) with
      | true => rfl
      | false => unfold termL at h; rw [hc] at h; simp at h
    have h := split_any ⟨(a ++ 58 :: b).toArray⟩ W (by rw [text_size, List.length_append, List.length_cons]; omega)
    have e : (⟨(a ++ 58 :: b).toArray⟩ : ByteArray).data.toList = a ++ 58 :: b := by simp
    rw [e, split_term hc] at h
    exact h)
  have H11 : Hid (splitL t = (([], []), false) ∨ ∃ n x, splitL t = ((n, x), true) ∧ n ++ 58 :: x = t ∧ n.length ≤ 1500 ∧ x.length ≤ 1500) := Lib.hid (by
    cases hsp : (splitL t).2 with
    | true =>
      right
      refine ⟨(splitL t).1.1, (splitL t).1.2, by rw [← hsp], split_back (by rw [← hsp]), ?_⟩
      unfold splitL at hsp ⊢
      split at hsp
      · rename_i hc
        rw [if_pos hc]
        have h1 := head_len t
        have h2 := tail_len t
        exact ⟨by simp; omega, by simp; omega⟩
      · cases hsp
    | false =>
      left
      unfold splitL at hsp ⊢
      split at hsp
      · cases hsp
      · rename_i hc
        rw [if_neg hc])
  unfold TermLeft at H1 H2
  unfold SplitLeft at H3 H4
  obtain ⟨T, hT⟩ : ∃ T : ByteArray, T = ⟨(termL a b).1.toArray⟩ := ⟨_, rfl⟩
  obtain ⟨E, hE⟩ : ∃ E : Int, E = (termL a b).2 := ⟨_, rfl⟩
  rw [← hT, ← hE] at H1 H2
  have H12 : Hid ((E = 0 ∧ T = ⟨(a ++ 58 :: b).toArray⟩ ∧ ∀ W, Calls Try.prog 16 #[.string T] W fun e w' => e = .returned (.tuple #[.string ⟨a.toArray⟩, .string ⟨b.toArray⟩, .bool true]) ∧ Below W.heap.size W w') ∨ E = 1) := Lib.hid (by
    rcases H9.out with h | h
    · left
      refine ⟨by rw [hE, h], by rw [hT, h], ?_⟩
      rw [hT, h]
      exact H10.out h
    · right
      rw [hE, h])
  obtain ⟨N, hN⟩ : ∃ T : ByteArray, T = ⟨(splitL t).1.1.toArray⟩ := ⟨_, rfl⟩
  obtain ⟨V, hV⟩ : ∃ T : ByteArray, T = ⟨(splitL t).1.2.toArray⟩ := ⟨_, rfl⟩
  obtain ⟨ok, hok⟩ : ∃ T : Bool, T = (splitL t).2 := ⟨_, rfl⟩
  obtain ⟨A, hA⟩ : ∃ T : ByteArray, T = ⟨a.toArray⟩ := ⟨_, rfl⟩
  obtain ⟨Bb, hB⟩ : ∃ T : ByteArray, T = ⟨b.toArray⟩ := ⟨_, rfl⟩
  obtain ⟨TT, hTT⟩ : ∃ T : ByteArray, T = ⟨t.toArray⟩ := ⟨_, rfl⟩
  have H13 : Hid (ok = false ∨ (ok = true ∧ N ++ ⟨#[58]⟩ ++ V = TT ∧ N.size ≤ 1500 ∧ V.size ≤ 1500)) := Lib.hid (by
    rcases H11.out with h | ⟨n, x, h, hx, h1, h2⟩
    · left; rw [hok, h]
    · right
      refine ⟨by rw [hok, h], ?_, by rw [hN, h, text_size]; exact h1, by rw [hV, h, text_size]; exact h2⟩
      rw [hN, hV, h, cat_colon, hx, hTT])
  rw [← hN, ← hV, ← hok] at H3 H4
  rw [← hA] at HC1 H1 H2 H7 H8 H12
  rw [← hB] at HC2 H1 H2 H5 H6 H12
  rw [← hTT] at HC3 H3 H4
  generalize nameL a = n1 at H7 H8
  generalize wordL b = n2 at H5 H6
  clear ea eb et H9 H10 H11 hT hE hN hV hok hA hB hTT hz1 hz2 hz3 hs1 hs2 hs3
  go_enter Try.func4, Try.ntmps4
  go_wp2_with fail
  refine (HC1.out _).mono ?_
  rintro e w1 ⟨rfl, rfl⟩
  go_wp2_with fail
  refine (HC2.out _).mono ?_
  rintro e w1 ⟨rfl, rfl⟩
  go_wp2_with fail
  refine (HC3.out _).mono ?_
  rintro e w1 ⟨rfl, rfl⟩
  clear HC1 HC2 HC3
  go_wp2_with fail
  refine (H1.out _).mono ?_
  rintro e w1 ⟨rfl, b1⟩
  go_wp2_with fail
  refine (H2.out _).mono ?_
  rintro e w2 ⟨rfl, b2⟩
  have c2 := grow b1 b2
  clear b1 b2 H1 H2
  go_wp2_with fail
  refine (H3.out _).mono ?_
  rintro e w3 ⟨rfl, b3⟩
  have c3 := grow c2 b3
  clear b3 c2
  go_wp2_with fail
  refine (H4.out _).mono ?_
  rintro e w4 ⟨rfl, b4⟩
  have c4 := grow c3 b4
  clear b4 c3 H3 H4
  go_wp2_with fail
  refine (H5.out _).mono ?_
  rintro e w5 ⟨rfl, b5⟩
  have c5 := grow c4 b5
  clear b5 c4 H5
  go_wp2_with fail
  refine (H6.out _).mono ?_
  rintro e w6 ⟨rfl, b6⟩
  have c6 := grow c5 b6
  clear b6 c5 H6
  go_wp2_with fail
  refine (H7.out _).mono ?_
  rintro e w7 ⟨rfl, b7⟩
  have c7 := grow c6 b7
  clear b7 c6 H7
  go_wp2_with fail
  refine (H8.out _).mono ?_
  rintro e w8 ⟨rfl, b8⟩
  have c8 := grow c7 b8
  clear b8 c7 H8
  rcases H12.out with ⟨rfl, hT, hS⟩ | rfl
  · have HS := Lib.hid hS
    clear hS hT H12
    go_wp2_with fail
    refine (HS.out _).mono ?_
    rintro e w9 ⟨rfl, b9⟩
    have c9 := grow c8 b9
    clear b9 c8 HS
    rcases H13.out with rfl | ⟨rfl, hcat, hn, hv⟩
    · clear H13
      go_wp2_with fail
      refine (awake_any _).mono ?_
      rintro e w10 ⟨rfl, b10⟩
      have c10 := grow c9 b10
      clear b10 c9
      go_wp2_with fail
      go_ret
      exact ⟨rfl, c10⟩
    · have HCC := Lib.hid hcat
      clear H13
      go_wp2_with fail
      refine (awake_any _).mono ?_
      rintro e w10 ⟨rfl, b10⟩
      have c10 := grow c9 b10
      clear b10 c9
      go_wp2_with fail
      go_ret
      exact ⟨rfl, c10⟩
  · clear H12
    rcases H13.out with rfl | ⟨rfl, hcat, hn, hv⟩
    · clear H13
      go_wp2_with fail
      refine (awake_any _).mono ?_
      rintro e w10 ⟨rfl, b10⟩
      have c10 := grow c8 b10
      clear b10 c8
      go_wp2_with fail
      go_ret
      exact ⟨rfl, c10⟩
    · have HCC := Lib.hid hcat
      clear H13
      go_wp2_with fail
      refine (awake_any _).mono ?_
      rintro e w10 ⟨rfl, b10⟩
      have c10 := grow c8 b10
      clear b10 c8
      go_wp2_with fail
      go_ret
      exact ⟨rfl, c10⟩
end Go.Proofs.Ytnacfdcnhecjeaa.TK
