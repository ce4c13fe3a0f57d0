/-
  Packed bytes as they are made in one go: what is told of yet, runs put out as late as may be. No program; no condition.
-/
import Derived.Test.YtoohkhcmakcggaaLzMath
set_option linter.unusedVariables false
namespace Go.Proofs.Ytoohkhcmakcggaa.LZ

/-- Orders of bytes that stand for themselves. -/
def runsL (l : List UInt8) : List UInt8 := if h : l = [] then [] else runB (l.take 128) ++ runsL (l.drop 128)
termination_by l.length
decreasing_by
  have := List.length_pos_iff.2 h
  rw [List.length_drop]
  omega
theorem runsL_nil : runsL [] = [] := by rw [runsL]; rfl
theorem runsL_cons {l : List UInt8} (h : l ≠ []) : runsL l = runB (l.take 128) ++ runsL (l.drop 128) := by
  rw [runsL, dif_neg h]
theorem runsL_few {l : List UInt8} (h : l.length ≤ 128) : runsL l = runB l := by
  by_cases e : l = []
  · subst e; rw [runsL_nil]; rfl
  · rw [runsL_cons e, List.take_of_length_le h, List.drop_eq_nil_of_le h, runsL_nil, List.append_nil]
theorem runsL_len (l : List UInt8) : (runsL l).length ≤ 2 * l.length := by
  by_cases e : l = []
  · subst e; rw [runsL_nil]; simp
  · have h1 := runB_len (l.take 128)
    have h2 := runsL_len (l.drop 128)
    have h3 := List.length_pos_iff.2 e
    rw [List.length_take] at h1
    rw [List.length_drop] at h2
    rw [runsL_cons e, List.length_append]
    omega
termination_by l.length
decreasing_by
  have := List.length_pos_iff.2 e
  rw [List.length_drop]
  omega
/-- What is put out yet at a place, where what stands ahead of told is told of. -/
def packG (b : List UInt8) : Nat → Nat → Nat → List UInt8
  | 0, told, _ => runsL (b.drop told)
  | k + 1, told, a =>
    if a < told ∨ (matchL b a).2 = 0 then packG b k told (a + 1)
    else runsL (part b told a) ++ (matB (matchL b a).1 (matchL b a).2 ++ packG b k (a + (matchL b a).2) (a + 1))
theorem packG_skip {b : List UInt8} : ∀ (k told a : Nat), a ≤ told → told ≤ a + k → packG b k told a = packG b (k - (told - a)) told told
  | 0, told, a, h1, h2 => by
    obtain rfl : a = told := by omega
    simp
  | k + 1, told, a, h1, h2 => by
    by_cases e : a = told
    · subst e; simp
    · rw [packG, if_pos (.inl (by omega)), packG_skip k told (a + 1) (by omega) (by omega), show k - (told - (a + 1)) = k + 1 - (told - a) by omega]
theorem part_all {b : List UInt8} {f : Nat} : part b f b.length = b.drop f := by
  unfold part
  exact List.take_of_length_le (by rw [List.length_drop]; omega)
theorem part_take {b : List UInt8} {f j : Nat} (h : f + 128 ≤ j) : (part b f j).take 128 = part b f (f + 128) := by
  unfold part
  rw [List.take_take]
  congr 1
  omega
theorem part_drop {b : List UInt8} {f j : Nat} : (part b f j).drop 128 = part b (f + 128) j := by
  unfold part
  rw [List.drop_take, List.drop_drop, show j - f - 128 = j - (f + 128) by omega]
theorem packG_is {b : List UInt8} (k told f a : Nat) (pre : List UInt8) (h1 : told ≤ f) (h2 : f ≤ a) (h3 : a ≤ b.length) (h4 : a - f < 128) (hk : k = b.length - a) (K : Nat) (hK : b.length - a ≤ K)
    (hpre : ∀ j, f ≤ j → j ≤ b.length → runsL (part b told j) = pre ++ runsL (part b f j)) : packG b k told a = pre ++ packF b K f a := by
  by_cases hend : a = b.length
  · obtain rfl : k = 0 := by omega
    rw [packF_end (by omega)]
    show runsL (b.drop told) = _
    rw [← part_all, hpre b.length (by omega) (Nat.le_refl _), part_all, runsL_few (by rw [List.length_drop]; omega)]
  · obtain ⟨k', rfl⟩ : ∃ k', k = k' + 1 := ⟨k - 1, by omega⟩
    obtain ⟨K', rfl⟩ : ∃ K', K = K' + 1 := ⟨K - 1, by omega⟩
    rw [packG, packF, if_neg (show ¬ b.length ≤ a by omega)]
    by_cases hm : (matchL b a).2 = 0
    · rw [if_pos (.inr hm), if_pos hm]
      by_cases hr : a + 1 - f = 128
      · rw [if_pos hr, packG_is k' told (a + 1) (a + 1) (pre ++ runB (part b f (a + 1))) (by omega) (by omega) (by omega) (by omega) (by omega) K' (by omega), List.append_assoc]
        intro j hj hjl
        have hne : part b f j ≠ [] := fun e => by
          have := part_len (b := b) (i := f) (j := j) (by omega) hjl
          rw [e] at this
          simp at this
          omega
        rw [hpre j (by omega) hjl, runsL_cons hne, part_take (by omega), part_drop, show f + 128 = a + 1 by omega, List.append_assoc]
      · rw [if_neg hr, packG_is k' told f (a + 1) pre h1 (by omega) (by omega) (by omega) (by omega) K' (by omega) hpre]
    · have hmi := matchL_is b a
      rcases hmi with hmi | ⟨_, _, _, m4, _, m6, _⟩
      · rw [hmi] at hm; exact absurd rfl hm
      rw [if_neg (by omega), if_neg hm, hpre a h2 h3, runsL_few (by rw [part_len h2 h3]; omega), packG_skip k' _ _ (by omega) (by omega)]
      rw [packG_is (k' - (a + (matchL b a).2 - (a + 1))) (a + (matchL b a).2) (a + (matchL b a).2) (a + (matchL b a).2) [] (Nat.le_refl _) (Nat.le_refl _) m6 (by omega) (by omega) K' (by omega) (fun j _ _ => rfl)]
      simp
termination_by k
/-- All of it is what the document says. -/
theorem packG_all (b : List UInt8) : fourB b.length ++ packG b b.length 0 0 = packL b := by
  unfold packL
  rw [packG_is b.length 0 0 0 [] (Nat.le_refl _) (Nat.le_refl _) (Nat.zero_le _) (by omega) (by omega) b.length (by omega) (fun j _ _ => rfl), List.nil_append]
end Go.Proofs.Ytoohkhcmakcggaa.LZ
