/-
  Numbers in as few bytes as they need, as plain lists. No program; no condition. What the texts of layer 1 say of bytes and runes, in plain lists: runes of bytes, bytes of runes, there and back, what is folded twice. No conditions: no program is named here.
-/
import Derived.Lib.ValidLaws
import Derived.Lib.MapLaws
import Derived.Lib.RuneBytes
import Derived.Lib.TrimUEq
set_option linter.unusedVariables false
namespace Go.Proofs.Ytgacfihidpijeaa.VM

/-! ### a number's bytes -/
/-- Its lowest seven bits, and so on: as many bytes as it needs, k + 1 at most. -/
def bytesF : Nat → Nat → List UInt8
  | 0, n => [UInt8.ofNat n]
  | k + 1, n => if n < 128 then [UInt8.ofNat n] else UInt8.ofNat (n % 128 + 128) :: bytesF k (n / 128)
def bytesL (n : Nat) : List UInt8 := bytesF 9 n

theorem bytesF_more : ∀ (k n : Nat), n < 128 ^ (k + 1) → bytesF (k + 1) n = bytesF k n
  | 0, n, h => by
    have h2 : n < 128 := by simpa using h
    simp [bytesF, h2]
  | k + 1, n, h => by
    have e1 : bytesF (k + 2) n = if n < 128 then [UInt8.ofNat n] else UInt8.ofNat (n % 128 + 128) :: bytesF (k + 1) (n / 128) := rfl
    have e2 : bytesF (k + 1) n = if n < 128 then [UInt8.ofNat n] else UInt8.ofNat (n % 128 + 128) :: bytesF k (n / 128) := rfl
    rw [e1, e2, bytesF_more k (n / 128) (by rw [Nat.div_lt_iff_lt_mul (by omega)]; rw [Nat.pow_succ] at h; exact h)]
theorem bytesL_small {n : Nat} (h : n < 128) : bytesL n = [UInt8.ofNat n] := by
  unfold bytesL
  rw [show (9 : Nat) = 8 + 1 from rfl, bytesF, if_pos h]
theorem bytesL_big {n : Nat} (h : ¬ n < 128) (hn : n < 18446744073709551616) : bytesL n = UInt8.ofNat (n % 128 + 128) :: bytesL (n / 128) := by
  have e : bytesF 9 (n / 128) = bytesF 8 (n / 128) := bytesF_more 8 _ (by have : (128 : Nat) ^ (8 + 1) = 9223372036854775808 := by decide
                                                                          omega)
  unfold bytesL
  rw [e, show (9 : Nat) = 8 + 1 from rfl, bytesF, if_neg h]
theorem bytesF_length : ∀ (k n : Nat), 1 ≤ (bytesF k n).length ∧ (bytesF k n).length ≤ k + 1
  | 0, n => by simp [bytesF]
  | k + 1, n => by
    unfold bytesF
    have := bytesF_length k (n / 128)
    split <;> simp <;> omega
theorem bytesL_length (n : Nat) : 1 ≤ (bytesL n).length ∧ (bytesL n).length ≤ 10 := bytesF_length 9 n
/-- By a number and the one that is a 128th of it. -/
theorem rec128 {P : Nat → Prop} (h0 : ∀ n, n < 128 → P n) (h1 : ∀ n, ¬ n < 128 → P (n / 128) → P n) (n : Nat) : P n := by
  induction n using Nat.strongRecOn with
  | ind n ih =>
    by_cases h : n < 128
    · exact h0 n h
    · exact h1 n h (ih _ (by omega))

/-! ### what is got -/
/-- The number, how many bytes it takes, and the error's number: from byte number i on, n gathered so far. -/
def getF : Nat → Nat → List UInt8 → Nat × Nat × Int
  | _, _, [] => (0, 0, 6)
  | i, n, c :: l => if (i = 9 ∧ 1 < c.toNat) ∨ (0 < i ∧ c.toNat = 0) then (0, 0, 20) else if c.toNat < 128 then (n + c.toNat % 128 * 2 ^ (7 * i), i + 1, 0) else getF (i + 1) (n + c.toNat % 128 * 2 ^ (7 * i)) l
def getL (l : List UInt8) : Nat × Nat × Int := getF 0 0 l

theorem getF_nil (i n : Nat) : getF i n [] = (0, 0, 6) := by rw [getF]
theorem getF_bad {i n : Nat} {c : UInt8} {l : List UInt8} (h : (i = 9 ∧ 1 < c.toNat) ∨ (0 < i ∧ c.toNat = 0)) : getF i n (c :: l) = (0, 0, 20) := by rw [getF, if_pos h]
theorem getF_end {i n : Nat} {c : UInt8} {l : List UInt8} (h : ¬ ((i = 9 ∧ 1 < c.toNat) ∨ (0 < i ∧ c.toNat = 0))) (h2 : c.toNat < 128) : getF i n (c :: l) = (n + c.toNat % 128 * 2 ^ (7 * i), i + 1, 0) := by rw [getF, if_neg h, if_pos h2]
theorem getF_more {i n : Nat} {c : UInt8} {l : List UInt8} (h : ¬ ((i = 9 ∧ 1 < c.toNat) ∨ (0 < i ∧ c.toNat = 0))) (h2 : ¬ c.toNat < 128) : getF i n (c :: l) = getF (i + 1) (n + c.toNat % 128 * 2 ^ (7 * i)) l := by rw [getF, if_neg h, if_neg h2]

/-- What has been gathered fits, and more of it does. -/
theorem pow7 (i : Nat) : 2 ^ (7 * (i + 1)) = 128 * 2 ^ (7 * i) := by
  rw [Nat.mul_add, Nat.pow_add]; omega
theorem gather_lt {i n : Nat} (hn : n < 2 ^ (7 * i)) (c : Nat) : n + c % 128 * 2 ^ (7 * i) < 2 ^ (7 * (i + 1)) := by
  rw [pow7]
  have h1 : c % 128 ≤ 127 := by omega
  have h2 := Nat.mul_le_mul_right (2 ^ (7 * i)) h1
  omega
theorem pow_le {i j : Nat} (h : i ≤ j) : 2 ^ (7 * i) ≤ 2 ^ (7 * j) := Nat.pow_le_pow_right (by omega) (by omega)
theorem pow9 : 2 ^ (7 * 9) = 9223372036854775808 := by decide
theorem gather_fits {i n : Nat} (hn : n < 2 ^ (7 * i)) (hi : i ≤ 9) {c : UInt8} (h : ¬ ((i = 9 ∧ 1 < c.toNat) ∨ (0 < i ∧ c.toNat = 0))) : n + c.toNat % 128 * 2 ^ (7 * i) < 18446744073709551616 := by
  by_cases h9 : i = 9
  · subst h9
    have hc : c.toNat = 1 := by omega
    rw [pow9] at hn ⊢
    rw [hc]
    omega
  · have h1 := gather_lt hn c.toNat
    have h2 : 2 ^ (7 * (i + 1)) ≤ 2 ^ (7 * 9) := pow_le (by omega)
    rw [pow9] at h2
    omega
/-- A byte of 128 or more is not the tenth. -/
theorem gather_next {i : Nat} (hi : i ≤ 9) {c : UInt8} (h : ¬ ((i = 9 ∧ 1 < c.toNat) ∨ (0 < i ∧ c.toNat = 0))) (h2 : ¬ c.toNat < 128) : i + 1 ≤ 9 := by
  by_cases h9 : i = 9 <;> omega

/-- The answer's bounds. -/
theorem getF_bounds : ∀ (l : List UInt8) (i n : Nat), i ≤ 9 → n < 2 ^ (7 * i) →
    (getF i n l).1 < 18446744073709551616 ∧ (getF i n l).2.1 ≤ i + l.length ∧ ((getF i n l).2.2 = 0 ∨ (getF i n l = (0, 0, 6) ∨ getF i n l = (0, 0, 20))) ∧ ((getF i n l).2.2 = 0 → 1 ≤ (getF i n l).2.1)
  | [], i, n, _, _ => by rw [getF_nil]; simp
  | c :: l, i, n, hi, hn => by
    by_cases h : (i = 9 ∧ 1 < c.toNat) ∨ (0 < i ∧ c.toNat = 0)
    · rw [getF_bad h]; simp
    · by_cases h2 : c.toNat < 128
      · rw [getF_end h h2]
        refine ⟨gather_fits hn hi h, by simp, .inl rfl, fun _ => by simp⟩
      · rw [getF_more h h2]
        have := getF_bounds l (i + 1) _ (gather_next hi h h2) (gather_lt hn c.toNat)
        rw [List.length_cons]
        exact ⟨this.1, by omega, this.2.2.1, this.2.2.2⟩
theorem getL_bounds (l : List UInt8) : (getL l).1 < 18446744073709551616 ∧ (getL l).2.1 ≤ l.length ∧ ((getL l).2.2 = 0 ∨ (getL l = (0, 0, 6) ∨ getL l = (0, 0, 20))) ∧ ((getL l).2.2 = 0 → 1 ≤ (getL l).2.1) := by
  have := getF_bounds l 0 0 (by omega) (by omega)
  rw [Nat.zero_add] at this
  exact this

/-! ### there and back -/
theorem toNat_small {n : Nat} (h : n < 256) : (UInt8.ofNat n).toNat = n := by simp; omega
theorem getF_put (n : Nat) : ∀ (i acc : Nat) (l : List UInt8), i ≤ 9 → acc + n * 2 ^ (7 * i) < 18446744073709551616 → (i = 0 ∨ 0 < n) →
    getF i acc (bytesL n ++ l) = (acc + n * 2 ^ (7 * i), i + (bytesL n).length, 0) := by
  refine rec128 (P := fun n => ∀ (i acc : Nat) (l : List UInt8), i ≤ 9 → acc + n * 2 ^ (7 * i) < 18446744073709551616 → (i = 0 ∨ 0 < n) →
    getF i acc (bytesL n ++ l) = (acc + n * 2 ^ (7 * i), i + (bytesL n).length, 0)) ?_ ?_ n
  · intro n h i acc l hi hf h0
    have hc : (UInt8.ofNat n).toNat = n := toNat_small (by omega)
    rw [bytesL_small h, List.singleton_append, getF_end]
    · rw [hc, Nat.mod_eq_of_lt h]; rfl
    · rw [hc]
      rintro (⟨h9, h1⟩ | ⟨h9, h1⟩)
      · subst h9
        rw [pow9] at hf
        omega
      · omega
    · omega
  · intro n h ih i acc l hi hf h0
    have hbig : n < 18446744073709551616 := by
      have : 1 ≤ 2 ^ (7 * i) := Nat.one_le_two_pow
      have := Nat.mul_le_mul_left n this
      omega
    have hc : (UInt8.ofNat (n % 128 + 128)).toNat = n % 128 + 128 := toNat_small (by omega)
    have hi8 : i + 1 ≤ 9 := by
      by_cases h9 : i = 9
      · subst h9
        rw [pow9] at hf
        omega
      · omega
    have e1 : n * 2 ^ (7 * i) = n % 128 * 2 ^ (7 * i) + n / 128 * (128 * 2 ^ (7 * i)) := by
      have h2 : n = n % 128 + n / 128 * 128 := by omega
      rw [← Nat.mul_assoc, ← Nat.add_mul, ← h2]
    have hn : acc + n % 128 * 2 ^ (7 * i) + n / 128 * 2 ^ (7 * (i + 1)) = acc + n * 2 ^ (7 * i) := by
      rw [pow7, e1, Nat.add_assoc]
    rw [bytesL_big h hbig, List.cons_append, getF_more]
    · rw [hc, show (n % 128 + 128) % 128 = n % 128 by omega, ih (i + 1) _ l hi8 (by rw [hn]; exact hf) (.inr (by omega)), hn, List.length_cons]
      simp only [Prod.mk.injEq, true_and, and_true]
      omega
    · rw [hc]; omega
    · rw [hc]; omega
theorem getL_put (n : Nat) (hn : n < 18446744073709551616) (l : List UInt8) : getL (bytesL n ++ l) = (n, (bytesL n).length, 0) := by
  have := getF_put n 0 0 l (by omega) (by omega) (.inl rfl)
  rw [Nat.zero_add, Nat.zero_add, Nat.mul_zero, Nat.pow_zero, Nat.mul_one] at this
  exact this

/-- A beginning of a number's bytes is short. -/
theorem getF_part (n : Nat) : ∀ (i acc j : Nat), i ≤ 9 → acc + n * 2 ^ (7 * i) < 18446744073709551616 → (i = 0 ∨ 0 < n) → j < (bytesL n).length → getF i acc ((bytesL n).take j) = (0, 0, 6) := by
  refine rec128 (P := fun n => ∀ (i acc j : Nat), i ≤ 9 → acc + n * 2 ^ (7 * i) < 18446744073709551616 → (i = 0 ∨ 0 < n) → j < (bytesL n).length → getF i acc ((bytesL n).take j) = (0, 0, 6)) ?_ ?_ n
  · intro n h i acc j hi hf h0 hj
    rw [bytesL_small h] at hj ⊢
    have : j = 0 := by simpa using hj
    subst this
    rw [List.take_zero, getF_nil]
  · intro n h ih i acc j hi hf h0 hj
    have hbig : n < 18446744073709551616 := by
      have : 1 ≤ 2 ^ (7 * i) := Nat.one_le_two_pow
      have := Nat.mul_le_mul_left n this
      omega
    have hc : (UInt8.ofNat (n % 128 + 128)).toNat = n % 128 + 128 := toNat_small (by omega)
    have hi8 : i + 1 ≤ 9 := by
      by_cases h9 : i = 9
      · subst h9
        rw [pow9] at hf
        omega
      · omega
    have e1 : n * 2 ^ (7 * i) = n % 128 * 2 ^ (7 * i) + n / 128 * (128 * 2 ^ (7 * i)) := by
      have h2 : n = n % 128 + n / 128 * 128 := by omega
      rw [← Nat.mul_assoc, ← Nat.add_mul, ← h2]
    have hn : acc + n % 128 * 2 ^ (7 * i) + n / 128 * 2 ^ (7 * (i + 1)) = acc + n * 2 ^ (7 * i) := by
      rw [pow7, e1, Nat.add_assoc]
    rw [bytesL_big h hbig] at hj ⊢
    rw [List.length_cons] at hj
    cases j with
    | zero => rw [List.take_zero, getF_nil]
    | succ j =>
      rw [List.take_succ_cons, getF_more]
      · rw [hc, show (n % 128 + 128) % 128 = n % 128 by omega]
        exact ih (i + 1) _ j hi8 (by rw [hn]; exact hf) (.inr (by omega)) (by omega)
      · rw [hc]; omega
      · rw [hc]; omega
theorem getL_part (n j : Nat) (hn : n < 18446744073709551616) (hj : j < (bytesL n).length) : getL ((bytesL n).take j) = (0, 0, 6) :=
  getF_part n 0 0 j (by omega) (by omega) (.inl rfl) hj

/-- What is got, put, is what stood there. -/
theorem getF_back : ∀ (l : List UInt8) (i acc n k : Nat), i ≤ 9 → acc < 2 ^ (7 * i) → getF i acc l = (n, k, 0) → ∃ m, n = acc + m * 2 ^ (7 * i) ∧ i < k ∧ k ≤ i + l.length ∧ bytesL m = l.take (k - i) ∧ (0 < i → 0 < m)
  | [], i, acc, n, k, _, _, h => by rw [getF_nil] at h; simp at h
  | c :: l, i, acc, n, k, hi, ha, h => by
    by_cases hb : (i = 9 ∧ 1 < c.toNat) ∨ (0 < i ∧ c.toNat = 0)
    · rw [getF_bad hb] at h; simp at h
    · by_cases h2 : c.toNat < 128
      · rw [getF_end hb h2] at h
        simp only [Prod.mk.injEq, and_true] at h
        obtain ⟨rfl, rfl⟩ := h
        refine ⟨c.toNat, by rw [Nat.mod_eq_of_lt h2], by omega, by rw [List.length_cons]; omega, ?_, by omega⟩
        rw [bytesL_small h2, show i + 1 - i = 1 by omega, List.take_succ_cons, List.take_zero]
        simp
      · rw [getF_more hb h2] at h
        have hi2 := gather_next hi hb h2
        obtain ⟨m, hm, hk, hkl, hbm, h0⟩ := getF_back l (i + 1) _ n k hi2 (gather_lt ha c.toNat) h
        have hc := c.toNat_lt
        have hfit := (getF_bounds l (i + 1) _ hi2 (gather_lt ha c.toNat)).1
        rw [h] at hfit
        have hmp := h0 (by omega)
        have hN : c.toNat % 128 + 128 * m < 18446744073709551616 := by
          have h1 : 1 ≤ 2 ^ (7 * i) := Nat.one_le_two_pow
          have h3 := Nat.mul_le_mul_left (c.toNat % 128) h1
          have h4 := Nat.mul_le_mul_left (m * 128) h1
          rw [pow7, ← Nat.mul_assoc] at hm
          have hfit' : n < 18446744073709551616 := hfit
          omega
        refine ⟨c.toNat % 128 + 128 * m, ?_, by omega, by rw [List.length_cons]; omega, ?_, by omega⟩
        · rw [hm, pow7, Nat.add_mul, Nat.add_assoc, Nat.mul_comm 128 m, Nat.mul_assoc]
        · have hnb : ¬ c.toNat % 128 + 128 * m < 128 := by omega
          rw [bytesL_big hnb hN, show (c.toNat % 128 + 128 * m) / 128 = m by omega, hbm, show k - i = (k - (i + 1)) + 1 by omega, List.take_succ_cons, show (c.toNat % 128 + 128 * m) % 128 + 128 = c.toNat by omega]
          simp
theorem getL_back {l : List UInt8} {n k : Nat} (h : getL l = (n, k, 0)) : bytesL n ++ l.drop k = l := by
  obtain ⟨m, hm, _, _, hb, _⟩ := getF_back l 0 0 n k (by omega) (by omega) h
  rw [Nat.zero_add, Nat.mul_zero, Nat.pow_zero, Nat.mul_one] at hm
  rw [hm, hb, Nat.sub_zero, List.take_append_drop]

/-! ### whole numbers -/
def zig (n : Int) : Nat := if 0 ≤ n then (2 * n).toNat else (-2 * n - 1).toNat
def zag (u : Nat) : Int := if u % 2 = 0 then ((u / 2 : Nat) : Int) else -1 - ((u / 2 : Nat) : Int)
theorem zag_zig (n : Int) : zag (zig n) = n := by unfold zag zig; split <;> split <;> omega
theorem zig_lt {n : Int} (h0 : -9223372036854775808 ≤ n) (h1 : n ≤ 9223372036854775807) : zig n < 18446744073709551616 := by unfold zig; split <;> omega
theorem zag_bd {u : Nat} (h : u < 18446744073709551616) : -9223372036854775808 ≤ zag u ∧ zag u ≤ 9223372036854775807 := by unfold zag; split <;> omega

def intL (n : Int) : List UInt8 := bytesL (zig n)
/-- The whole number that is got: 0 with an error. -/
def getI (l : List UInt8) : Int × Nat × Int := (zag (getL l).1, (getL l).2.1, (getL l).2.2)
theorem getI_bounds (l : List UInt8) : (-9223372036854775808 ≤ (getI l).1 ∧ (getI l).1 ≤ 9223372036854775807) ∧ (getI l).2.1 ≤ l.length ∧ ((getI l).2.2 = 0 ∨ (getI l = (0, 0, 6) ∨ getI l = (0, 0, 20))) ∧ ((getI l).2.2 = 0 → 1 ≤ (getI l).2.1) := by
  have h := getL_bounds l
  refine ⟨zag_bd h.1, h.2.1, ?_, h.2.2.2⟩
  rcases h.2.2.1 with h0 | h0 | h0
  · exact .inl h0
  · refine .inr (.inl ?_); unfold getI; rw [h0]; rfl
  · refine .inr (.inr ?_); unfold getI; rw [h0]; rfl
theorem getI_put (n : Int) (h0 : -9223372036854775808 ≤ n) (h1 : n ≤ 9223372036854775807) (l : List UInt8) : getI (intL n ++ l) = (n, (intL n).length, 0) := by
  unfold getI intL
  rw [getL_put _ (zig_lt h0 h1), zag_zig]

/-! ### texts -/
def textL (s : List UInt8) : List UInt8 := bytesL s.length ++ s
/-- The text, how many bytes it takes in all, and the error's number. -/
def getT (l : List UInt8) (most : Int) : List UInt8 × Nat × Int :=
  if (getL l).2.2 ≠ 0 then ([], 0, (getL l).2.2)
  else if max 0 most < ((getL l).1 : Int) then ([], 0, 2)
  else if l.length - (getL l).2.1 < (getL l).1 then ([], 0, 6)
  else ((l.drop (getL l).2.1).take (getL l).1, (getL l).2.1 + (getL l).1, 0)
theorem getT_put (s : List UInt8) (hs : s.length < 18446744073709551616) (most : Int) (hm : (s.length : Int) ≤ most) (l : List UInt8) : getT (textL s ++ l) most = (s, (textL s).length, 0) := by
  unfold getT textL
  rw [List.append_assoc, getL_put _ hs]
  have e1 : ¬ ((0 : Int) ≠ 0) := by simp
  have e2 : ¬ max 0 most < (s.length : Int) := by omega
  have e3 : ¬ (bytesL s.length ++ (s ++ l)).length - (bytesL s.length).length < s.length := by simp
  simp only []
  rw [if_neg e1, if_neg e2, if_neg e3, List.drop_left, List.take_left, List.length_append]

/-! ### rows -/
def allL (zs : List Int) : List UInt8 := (zs.map intL).flatten
theorem allL_snoc (zs : List Int) (k : Nat) (hk : k < zs.length) : allL (zs.take (k + 1)) = allL (zs.take k) ++ intL (zs.getD k 0) := by
  unfold allL
  rw [List.take_succ_eq_append_getElem hk, List.map_append, List.flatten_append]
  simp [List.getD, hk]
theorem allL_length (zs : List Int) : (allL zs).length ≤ 10 * zs.length := by
  induction zs with
  | nil => simp [allL]
  | cons z zs ih =>
    have : allL (z :: zs) = intL z ++ allL zs := by simp [allL]
    rw [this, List.length_append, List.length_cons]
    have := (bytesL_length (zig z)).2
    unfold intL
    omega
/-- So many whole numbers: they, how many bytes they take, and the error's number. -/
def getA : Nat → List UInt8 → List Int × Nat × Int
  | 0, _ => ([], 0, 0)
  | m + 1, l => if (getI l).2.2 ≠ 0 then ([], 0, (getI l).2.2) else
      if (getA m (l.drop (getI l).2.1)).2.2 ≠ 0 then ([], 0, (getA m (l.drop (getI l).2.1)).2.2)
      else ((getI l).1 :: (getA m (l.drop (getI l).2.1)).1, (getI l).2.1 + (getA m (l.drop (getI l).2.1)).2.1, 0)
end Go.Proofs.Ytgacfihidpijeaa.VM
set_option linter.unusedVariables false
namespace Go.Proofs.Ytgacfihidpijeaa.UM
open Go.Lib

/-! ### runes of bytes -/
def runesGo : Nat → List UInt8 → List Int
  | 0, _ => []
  | n + 1, l => if l = [] then [] else ((decodeL l).1 : Int) :: runesGo n (l.drop (decodeL l).2)
def runesL (l : List UInt8) : List Int := runesGo l.length l

theorem runesGo_fuel : ∀ (n m : Nat) (l : List UInt8), l.length ≤ n → l.length ≤ m → runesGo n l = runesGo m l
  | 0, 0, l, _, _ => rfl
  | 0, m + 1, l, h, _ => by
    have : l = [] := List.eq_nil_of_length_eq_zero (by omega)
    simp [runesGo, this]
  | n + 1, 0, l, _, h => by
    have : l = [] := List.eq_nil_of_length_eq_zero (by omega)
    simp [runesGo, this]
  | n + 1, m + 1, l, h, k => by
    unfold runesGo
    by_cases e : l = []
    · simp [e]
    · have hw := decodeL_width l
      have hl : 0 < l.length := List.length_pos_iff.2 e
      rw [if_neg e, if_neg e, runesGo_fuel n m _ (by rw [List.length_drop]; omega) (by rw [List.length_drop]; omega)]
theorem runesL_nil : runesL [] = [] := rfl
theorem runesL_step (l : List UInt8) (hne : l ≠ []) : runesL l = ((decodeL l).1 : Int) :: runesL (l.drop (decodeL l).2) := by
  have hl : 0 < l.length := List.length_pos_iff.2 hne
  have hw := decodeL_width l
  obtain ⟨n, hn⟩ : ∃ n, l.length = n + 1 := ⟨l.length - 1, by omega⟩
  unfold runesL
  rw [hn, runesGo, if_neg hne, runesGo_fuel n (l.drop (decodeL l).2).length _ (by rw [List.length_drop]; omega) (Nat.le_refl _)]
theorem runesL_length (l : List UInt8) : (runesL l).length ≤ l.length := by
  suffices h : ∀ n l, (runesGo n l).length ≤ n from h _ _
  intro n
  induction n with
  | zero => intro l; simp [runesGo]
  | succ n ih =>
    intro l
    unfold runesGo
    split
    · simp
    · have := ih (l.drop (decodeL l).2)
      simp
      omega

/-! ### bytes of runes -/
def norm (r : Int) : Int := if r < 0 ∨ (55296 ≤ r ∧ r ≤ 57343) ∨ 1114111 < r then 65533 else r
def encL (rs : List Int) : List UInt8 := rs.flatMap encodeRune
theorem encL_nil : encL [] = [] := rfl
theorem encL_cons (r : Int) (rs : List Int) : encL (r :: rs) = encodeRune r ++ encL rs := rfl
theorem encL_append (a b : List Int) : encL (a ++ b) = encL a ++ encL b := by simp [encL]
theorem encL_length (rs : List Int) : (encL rs).length ≤ 4 * rs.length := by
  induction rs with
  | nil => simp [encL]
  | cons r t ih =>
    have := (encodeRuneZ_length r).2
    have h2 : (encodeRune r).length = (encodeRuneZ r).length := by simp [encodeRune]
    rw [encL_cons, List.length_append, List.length_cons]
    omega

theorem norm_norm (r : Int) : norm (norm r) = norm r := by unfold norm; split <;> (try split) <;> omega
theorem norm_good (r : Int) : (0 ≤ norm r ∧ norm r < 55296) ∨ (57343 < norm r ∧ norm r ≤ 1114111) := by unfold norm; split <;> omega
theorem norm_of_good (r : Int) (h : (0 ≤ r ∧ r < 55296) ∨ (57343 < r ∧ r ≤ 1114111)) : norm r = r := by unfold norm; rw [if_neg (by omega)]
theorem encodeRuneZ_norm (r : Int) : encodeRuneZ (norm r) = encodeRuneZ r := by
  unfold norm
  split
  · rename_i h
    rw [encodeRuneZ_bad h]
    decide
  · rfl

/-- Reading back the first rune's bytes, whatever follows. -/
theorem decodeN_two (n b1 : Nat) (r b2 b3 : Nat) (h0 : 128 ≤ r) (h1 : r ≤ 2047) (hn : 2 ≤ n) : decodeN n (192 + r / 64) (128 + r % 64) b2 b3 = (r, 2) := by
  unfold decodeN
  rw [if_neg (by omega), if_pos (by omega), if_pos (by omega)]
  congr 1
  omega
theorem decodeN_three (n : Nat) (r b3 : Nat) (h : (2048 ≤ r ∧ r < 55296) ∨ (57343 < r ∧ r ≤ 65535)) (hn : 3 ≤ n) : decodeN n (224 + r / 4096) (128 + r / 64 % 64) (128 + r % 64) b3 = (r, 3) := by
  have e : (224 + r / 4096) % 16 * 4096 + (128 + r / 64 % 64) % 64 * 64 + (128 + r % 64) % 64 = r := by omega
  unfold decodeN
  rw [e, if_neg (by omega), if_neg (by omega), if_pos (by omega), if_pos (by omega)]
theorem decodeN_four (n : Nat) (r : Nat) (h0 : 65536 ≤ r) (h1 : r ≤ 1114111) (hn : 4 ≤ n) : decodeN n (240 + r / 262144) (128 + r / 4096 % 64) (128 + r / 64 % 64) (128 + r % 64) = (r, 4) := by
  have e : (240 + r / 262144) % 8 * 262144 + (128 + r / 4096 % 64) % 64 * 4096 + (128 + r / 64 % 64) % 64 * 64 + (128 + r % 64) % 64 = r := by omega
  unfold decodeN
  rw [e, if_neg (by omega), if_neg (by omega), if_neg (by omega), if_pos (by omega), if_pos (by omega)]

theorem byte_toNat (x : Int) (h0 : 0 ≤ x) (h1 : x < 256) : (x.toNat.toUInt8).toNat = x.toNat := by
  simp
  omega

theorem decode_enc (r : Int) (t : List UInt8) : decodeL (encodeRune r ++ t) = ((norm r).toNat, (encodeRune r).length) := by
  have key : ∀ q : Int, ((0 ≤ q ∧ q < 55296) ∨ (57343 < q ∧ q ≤ 1114111)) → decodeL (encodeRune q ++ t) = (q.toNat, (encodeRune q).length) := by
    intro q hq
    rw [decodeL_N]
    by_cases c1 : q ≤ 127
    · have e : encodeRune q = [q.toNat.toUInt8] := by unfold encodeRune; rw [encodeRuneZ_one (by omega) c1]; rfl
      rw [e]
      simp only [List.cons_append, List.nil_append, List.length_cons, List.length_nil, List.getD_cons_zero, List.getD_cons_succ]
      rw [byte_toNat q (by omega) (by omega), decodeN, if_pos (by omega)]
    · by_cases c2 : q ≤ 2047
      · have e : encodeRune q = [(192 + q / 64).toNat.toUInt8, (128 + q % 64).toNat.toUInt8] := by unfold encodeRune; rw [encodeRuneZ_two (by omega) c2]; rfl
        rw [e]
        simp only [List.cons_append, List.nil_append, List.length_cons, List.length_nil, List.getD_cons_zero, List.getD_cons_succ]
        rw [byte_toNat _ (by omega) (by omega), byte_toNat _ (by omega) (by omega)]
        rw [show (192 + q / 64).toNat = 192 + q.toNat / 64 by omega, show (128 + q % 64).toNat = 128 + q.toNat % 64 by omega]
        exact decodeN_two _ 0 _ _ _ (by omega) (by omega) (by omega)
      · by_cases c3 : q ≤ 65535
        · have e : encodeRune q = [(224 + q / 4096).toNat.toUInt8, (128 + q / 64 % 64).toNat.toUInt8, (128 + q % 64).toNat.toUInt8] := by unfold encodeRune; rw [encodeRuneZ_three (by omega)]; rfl
          rw [e]
          simp only [List.cons_append, List.nil_append, List.length_cons, List.length_nil, List.getD_cons_zero, List.getD_cons_succ]
          rw [byte_toNat _ (by omega) (by omega), byte_toNat _ (by omega) (by omega), byte_toNat _ (by omega) (by omega)]
          rw [show (224 + q / 4096).toNat = 224 + q.toNat / 4096 by omega, show (128 + q / 64 % 64).toNat = 128 + q.toNat / 64 % 64 by omega, show (128 + q % 64).toNat = 128 + q.toNat % 64 by omega]
          exact decodeN_three _ _ _ (by omega) (by omega)
        · have e : encodeRune q = [(240 + q / 262144).toNat.toUInt8, (128 + q / 4096 % 64).toNat.toUInt8, (128 + q / 64 % 64).toNat.toUInt8, (128 + q % 64).toNat.toUInt8] := by unfold encodeRune; rw [encodeRuneZ_four (by omega) (by omega)]; rfl
          rw [e]
          simp only [List.cons_append, List.nil_append, List.length_cons, List.length_nil, List.getD_cons_zero, List.getD_cons_succ]
          rw [byte_toNat _ (by omega) (by omega), byte_toNat _ (by omega) (by omega), byte_toNat _ (by omega) (by omega), byte_toNat _ (by omega) (by omega)]
          rw [show (240 + q / 262144).toNat = 240 + q.toNat / 262144 by omega, show (128 + q / 4096 % 64).toNat = 128 + q.toNat / 4096 % 64 by omega, show (128 + q / 64 % 64).toNat = 128 + q.toNat / 64 % 64 by omega, show (128 + q % 64).toNat = 128 + q.toNat % 64 by omega]
          exact decodeN_four _ _ (by omega) (by omega) (by omega)
  have e : encodeRune r = encodeRune (norm r) := by unfold encodeRune; rw [encodeRuneZ_norm]
  rw [e]
  exact key (norm r) (norm_good r)

theorem encodeRune_ne (r : Int) : encodeRune r ≠ [] := by
  have := (encodeRuneZ_length r).1
  intro h
  have h2 : (encodeRune r).length = (encodeRuneZ r).length := by simp [encodeRune]
  rw [h] at h2
  simp at h2
  omega

/-- THERE AND BACK. -/
theorem runes_enc (rs : List Int) : runesL (encL rs) = rs.map norm := by
  induction rs with
  | nil => rfl
  | cons r t ih =>
    rw [encL_cons, runesL_step _ (by simp [encodeRune_ne]), decode_enc]
    simp only [List.drop_left, ih, List.map_cons]
    congr 1
    have := norm_good r
    omega

theorem width_enc (r : Int) : (encodeRune r).length = 1 → (norm r).toNat ≠ 65533 := by
  intro h e
  have h2 : (encodeRune r).length = (encodeRuneZ r).length := by simp [encodeRune]
  have h3 := encodeRuneZ_norm r
  have h4 : norm r = 65533 := by have := norm_good r; omega
  rw [h4] at h3
  rw [← h3] at h2
  rw [h] at h2
  revert h2
  decide

/-- WHAT WAS ENCODED IS VALID. -/
theorem valid_enc (rs : List Int) : validD (encL rs) = true := by
  induction rs with
  | nil => rfl
  | cons r t ih =>
    rw [encL_cons, validD_step _ (by simp [encodeRune_ne]), decode_enc]
    rw [if_neg (fun h => width_enc r h.2 h.1)]
    simp only [List.drop_left, ih]

/-- A step of the reading: either wrong bytes (U+FFFD, one byte), or the rune's own bytes. -/
theorem decode_back (l : List UInt8) (hne : l ≠ []) : ((decodeL l).1 = 65533 ∧ (decodeL l).2 = 1) ∨ encodeRune ((decodeL l).1 : Int) = l.take (decodeL l).2 := by
  have hl : 0 < l.length := List.length_pos_iff.2 hne
  have e0 : ∀ k, k < l.length → l.take (k + 1) = l.take k ++ [l.getD k 0] := by
    intro k hk
    rw [List.take_succ_eq_append_getElem hk]
    simp [List.getD, hk]
  have by8 : ∀ (x : UInt8) (n : Nat), x.toNat = n → n.toUInt8 = x := by
    intro x n h; subst h; simp
  rw [decodeL_N]
  generalize h0 : l.getD 0 0 = x0
  generalize h1 : l.getD 1 0 = x1
  generalize h2 : l.getD 2 0 = x2
  generalize h3 : l.getD 3 0 = x3
  have y0 : x0.toNat < 256 := x0.toNat_lt
  have y1 : x1.toNat < 256 := x1.toNat_lt
  have y2 : x2.toNat < 256 := x2.toNat_lt
  have y3 : x3.toNat < 256 := x3.toNat_lt
  unfold decodeN
  by_cases c0 : x0.toNat < 128
  · right
    rw [if_pos c0]
    show encodeRune _ = _
    unfold encodeRune
    rw [encodeRuneZ_one (by omega) (by omega), e0 0 hl, h0]
    simp
  · rw [if_neg c0]
    by_cases c1 : x0.toNat / 32 = 6 ∧ (1 < l.length ∧ x1.toNat / 64 = 2)
    · rw [if_pos c1]
      by_cases d : x0.toNat % 32 * 64 + x1.toNat % 64 ≥ 128
      · right
        rw [if_pos d]
        show encodeRune _ = _
        unfold encodeRune
        rw [encodeRuneZ_two (by omega) (by omega), e0 1 (by omega), e0 0 hl, h0, h1]
        simp only [List.map_cons, List.map_nil, List.take_zero, List.nil_append, List.cons_append, List.cons.injEq, and_true]
        exact ⟨by8 _ _ (by omega), by8 _ _ (by omega)⟩
      · left
        rw [if_neg d]
        exact ⟨rfl, rfl⟩
    · rw [if_neg c1]
      by_cases c2 : x0.toNat / 16 = 14 ∧ (1 < l.length ∧ x1.toNat / 64 = 2) ∧ (2 < l.length ∧ x2.toNat / 64 = 2)
      · rw [if_pos c2]
        split
        · right
          show encodeRune _ = _
          unfold encodeRune
          rw [encodeRuneZ_three (by omega), e0 2 (by omega), e0 1 (by omega), e0 0 hl, h0, h1, h2]
          simp only [List.map_cons, List.map_nil, List.take_zero, List.nil_append, List.cons_append, List.cons.injEq, and_true]
          exact ⟨by8 _ _ (by omega), by8 _ _ (by omega), by8 _ _ (by omega)⟩
        · left
          exact ⟨rfl, rfl⟩
      · rw [if_neg c2]
        by_cases c3 : x0.toNat / 8 = 30 ∧ (1 < l.length ∧ x1.toNat / 64 = 2) ∧ (2 < l.length ∧ x2.toNat / 64 = 2) ∧ (3 < l.length ∧ x3.toNat / 64 = 2)
        · rw [if_pos c3]
          split
          · right
            show encodeRune _ = _
            unfold encodeRune
            rw [encodeRuneZ_four (by omega) (by omega), e0 3 (by omega), e0 2 (by omega), e0 1 (by omega), e0 0 hl, h0, h1, h2, h3]
            simp only [List.map_cons, List.map_nil, List.take_zero, List.nil_append, List.cons_append, List.cons.injEq, and_true]
            exact ⟨by8 _ _ (by omega), by8 _ _ (by omega), by8 _ _ (by omega), by8 _ _ (by omega)⟩
          · left
            exact ⟨rfl, rfl⟩
        · rw [if_neg c3]
          left
          exact ⟨rfl, rfl⟩

theorem encL_runes_longer (l : List UInt8) : l.length ≤ (encL (runesL l)).length := by
  suffices h : ∀ n (l : List UInt8), l.length ≤ n → l.length ≤ (encL (runesL l)).length from h _ l (Nat.le_refl _)
  intro n
  induction n with
  | zero => intro l hl; omega
  | succ n ih =>
    intro l hl
    by_cases e : l = []
    · subst e; simp
    · have hw := decodeL_width l
      have hp : 0 < l.length := List.length_pos_iff.2 e
      have hle := decodeL_le l e
      rw [runesL_step l e, encL_cons, List.length_append]
      have hr := ih (l.drop (decodeL l).2) (by rw [List.length_drop]; omega)
      rw [List.length_drop] at hr
      rcases decode_back l e with ⟨h1, h2⟩ | h
      · have : 1 ≤ (encodeRune ((decodeL l).1 : Int)).length := List.length_pos_iff.2 (encodeRune_ne _)
        omega
      · rw [h, List.length_take]
        omega

/-- VALID: what was read, encoded, is the text. -/
theorem valid_iff (l : List UInt8) : validD l = decide (encL (runesL l) = l) := by
  suffices h : ∀ n (l : List UInt8), l.length ≤ n → validD l = decide (encL (runesL l) = l) from h _ l (Nat.le_refl _)
  intro n
  induction n with
  | zero =>
    intro l hl
    have : l = [] := List.eq_nil_of_length_eq_zero (by omega)
    subst this
    rfl
  | succ n ih =>
    intro l hl
    by_cases e : l = []
    · subst e; rfl
    · have hw := decodeL_width l
      have hp : 0 < l.length := List.length_pos_iff.2 e
      have hle := decodeL_le l e
      rw [validD_step l e, runesL_step l e, encL_cons]
      by_cases hbad : (decodeL l).1 = 65533 ∧ (decodeL l).2 = 1
      · rw [if_pos hbad]
        symm
        rw [decide_eq_false_iff_not]
        intro h
        have hlen := congrArg List.length h
        rw [List.length_append] at hlen
        have hr := encL_runes_longer (l.drop (decodeL l).2)
        rw [List.length_drop] at hr
        have h3 : (encodeRune ((decodeL l).1 : Int)).length = 3 := by rw [hbad.1]; decide
        omega
      · rw [if_neg hbad]
        rcases decode_back l e with h | h
        · exact absurd h hbad
        · rw [h, ih _ (by rw [List.length_drop]; omega)]
          congr 1
          apply propext
          constructor
          · intro k
            rw [k]
            exact List.take_append_drop _ _
          · intro k
            have hlen : (l.take (decodeL l).2).length = (decodeL l).2 := by rw [List.length_take]; omega
            have h5 := congrArg (List.drop (decodeL l).2) k
            rwa [List.drop_left' hlen] at h5

/-! ### each rune that was read has bytes of its own -/
theorem decode_good (l : List UInt8) (hne : l ≠ []) : norm ((decodeL l).1 : Int) = ((decodeL l).1 : Int) := by
  rcases decode_back l hne with h | h
  · rw [h.1]; decide
  · have h1 := decode_enc ((decodeL l).1 : Int) (l.drop (decodeL l).2)
    rw [h, List.take_append_drop] at h1
    have h2 := congrArg Prod.fst h1
    have := norm_good ((decodeL l).1 : Int)
    simp only at h2
    omega
theorem runes_good (l : List UInt8) : ∀ r ∈ runesL l, norm r = r := by
  suffices h : ∀ n (l : List UInt8), l.length ≤ n → ∀ r ∈ runesL l, norm r = r from h _ l (Nat.le_refl _)
  intro n
  induction n with
  | zero =>
    intro l hl r hr
    have : l = [] := List.eq_nil_of_length_eq_zero (by omega)
    subst this
    cases hr
  | succ n ih =>
    intro l hl r hr
    by_cases e : l = []
    · subst e; cases hr
    · have hw := decodeL_width l
      have hp : 0 < l.length := List.length_pos_iff.2 e
      rw [runesL_step l e] at hr
      rcases List.mem_cons.1 hr with rfl | hr
      · exact decode_good l e
      · exact ih _ (by rw [List.length_drop]; omega) r hr

/-! ### lower case, words -/
def lowerZ (r : Int) : Int :=
  if (65 ≤ r ∧ r ≤ 90) ∨ (192 ≤ r ∧ r ≤ 222 ∧ r ≠ 215) ∨ (913 ≤ r ∧ r ≤ 939 ∧ r ≠ 930) ∨ (1040 ≤ r ∧ r ≤ 1071) then r + 32
  else if 1024 ≤ r ∧ r ≤ 1039 then r + 80 else r
def wordZ (r : Int) : Bool :=
  decide ((48 ≤ r ∧ r ≤ 57) ∨ (65 ≤ r ∧ r ≤ 90) ∨ (97 ≤ r ∧ r ≤ 122) ∨ (192 ≤ r ∧ r ≤ 255 ∧ r ≠ 215 ∧ r ≠ 247) ∨ (913 ≤ r ∧ r ≤ 974 ∧ r ≠ 930) ∨ (1024 ≤ r ∧ r ≤ 1119))
theorem lower_lower (r : Int) : lowerZ (lowerZ r) = lowerZ r := by unfold lowerZ; repeat' split; all_goals omega
theorem lower_good (r : Int) (h : norm r = r) : norm (lowerZ r) = lowerZ r := by
  have := norm_good r
  rw [h] at this
  apply norm_of_good
  unfold lowerZ
  repeat' split
  all_goals omega
def foldL (l : List UInt8) : List UInt8 := encL ((runesL l).map lowerZ)
theorem runes_fold (l : List UInt8) : runesL (foldL l) = (runesL l).map lowerZ := by
  unfold foldL
  rw [runes_enc, List.map_map]
  apply List.map_congr_left
  intro r hr
  exact lower_good r (runes_good l r hr)
theorem fold_fold (l : List UInt8) : foldL (foldL l) = foldL l := by
  show encL ((runesL (foldL l)).map lowerZ) = foldL l
  rw [runes_fold, List.map_map]
  unfold foldL
  congr 1
  apply List.map_congr_left
  intro r _
  exact lower_lower r
theorem fold_valid (l : List UInt8) : validD (foldL l) = true := valid_enc _
theorem fold_count (l : List UInt8) : (runesL (foldL l)).length = (runesL l).length := by rw [runes_fold, List.length_map]
end Go.Proofs.Ytgacfihidpijeaa.UM
