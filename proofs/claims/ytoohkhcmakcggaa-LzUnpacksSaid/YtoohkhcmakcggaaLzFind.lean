/-
  The best match by the places at which the same four bytes stand. No program; no condition.
-/
import Derived.Test.YtoohkhcmakcggaaLzMath
set_option linter.unusedVariables false
namespace Go.Proofs.Ytoohkhcmakcggaa.LZ

theorem matchF_none {b : List UInt8} {a : Nat} : ∀ D, (∀ d, 1 ≤ d → d ≤ D → alikeAt b (a - d) a < 4) → matchF b a D = (0, 0)
  | 0, _ => rfl
  | D + 1, h => by
    unfold matchF
    rw [if_neg (by have := h (D + 1) (by omega) (by omega); omega)]
    exact matchF_none D fun d h1 h2 => h d h1 (by omega)
theorem matchF_lt {b : List UInt8} {a y : Nat} (hy : 0 < y) : ∀ D, (∀ d, 1 ≤ d → d ≤ D → alikeAt b (a - d) a < y) → (matchF b a D).2 < y
  | 0, _ => hy
  | D + 1, h => by
    unfold matchF
    split
    · exact h (D + 1) (by omega) (by omega)
    · exact matchF_lt hy D fun d h1 h2 => h d h1 (by omega)
/-- The nearest of the longest. -/
theorem matchF_best {b : List UInt8} {a x : Nat} (h1 : 1 ≤ x) (h4 : 4 ≤ alikeAt b (a - x) a) (hn : ∀ d, 1 ≤ d → d < x → alikeAt b (a - d) a < alikeAt b (a - x) a) :
    ∀ D, x ≤ D → (∀ d, x < d → d ≤ D → alikeAt b (a - d) a ≤ alikeAt b (a - x) a) → matchF b a D = (x, alikeAt b (a - x) a)
  | 0, h, _ => by omega
  | D + 1, h, hf => by
    unfold matchF
    by_cases e : x = D + 1
    · subst e
      have hl := matchF_lt (y := alikeAt b (a - (D + 1)) a) (by omega) D fun d h1 h2 => hn d h1 (by omega)
      rw [if_pos ⟨h4, hl⟩]
    · have ih := matchF_best h1 h4 hn D (by omega) fun d h1 h2 => hf d h1 (by omega)
      rw [ih, if_neg]
      have := hf (D + 1) (by omega) (by omega)
      simp only
      omega
theorem matchL_none {b : List UInt8} {a : Nat} (h : ∀ d, 1 ≤ d → d ≤ a → d ≤ 65535 → alikeAt b (a - d) a < 4) : matchL b a = (0, 0) :=
  matchF_none _ fun d h1 h2 => h d h1 (by omega) (by omega)
theorem matchL_best {b : List UInt8} {a x : Nat} (h1 : 1 ≤ x) (ha : x ≤ a) (h6 : x ≤ 65535) (h4 : 4 ≤ alikeAt b (a - x) a) (hn : ∀ d, 1 ≤ d → d < x → alikeAt b (a - d) a < alikeAt b (a - x) a)
    (hf : ∀ d, x < d → d ≤ a → d ≤ 65535 → alikeAt b (a - d) a ≤ alikeAt b (a - x) a) : matchL b a = (x, alikeAt b (a - x) a) :=
  matchF_best h1 h4 hn _ (by omega) fun d h1 h2 => hf d h1 (by omega) (by omega)
/-- At least four are alike where the same four bytes stand, and nowhere else. -/
theorem four_alike {b : List UInt8} {f a : Nat} (hfa : f ≤ a) : 4 ≤ alikeAt b f a ↔ a + 4 ≤ b.length ∧ (b.drop f).take 4 = (b.drop a).take 4 := by
  constructor
  · intro h
    have hle := alikeAt_le b f a
    refine ⟨by omega, ?_⟩
    have ht : (b.drop f).take (alikeAt b f a) = (b.drop a).take (alikeAt b f a) := alikeL_take 131 (b.drop f) (b.drop a)
    have := congrArg (fun l => l.take 4) ht
    simp only [List.take_take] at this
    rw [Nat.min_eq_left h] at this
    exact this
  · rintro ⟨h1, h2⟩
    have l1 : 3 < (b.drop f).length := by rw [List.length_drop]; omega
    have l2 : 3 < (b.drop a).length := by rw [List.length_drop]; omega
    have h3 : (b.drop f).take 3 = (b.drop a).take 3 := by
      have := congrArg (fun l => l.take 3) h2
      simpa [List.take_take] using this
    have e3 : (b.drop f)[3]? = (b.drop a)[3]? := by
      have := congrArg (fun l => l[3]?) h2
      simpa [List.getElem?_take] using this
    rw [List.getElem?_eq_getElem l1, List.getElem?_eq_getElem l2] at e3
    have := alikeL_next (k := 131) l1 l2 (by omega) h3 (by simpa using e3)
    unfold alikeAt
    omega
end Go.Proofs.Ytoohkhcmakcggaa.LZ
