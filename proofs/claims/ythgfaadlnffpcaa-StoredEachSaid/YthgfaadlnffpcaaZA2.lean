/-
  A row of the call's own: what it is, a store into it. No condition. What stays while blocks of a set stay. No condition. Numbers in as few bytes as they need, as plain lists. No program; no condition. cmp.Compare of whole numbers. No condition.
-/
import Derived.Test.YthgfaadlnffpcaaZA1
set_option linter.unusedVariables false
namespace Go.Proofs.Ythgfaadlnffpcaa.MM
open Go.RowKit
/-! ### a row of the call's own: what it is, a store into it -/
theorem OwnB.shape {B : Nat} {w : World} {v : Value} {l : List UInt8} (h : OwnB B w v l) (hl : l.length ≠ 0) : ∃ g cap, v = .slice (some ⟨g, 0, none⟩) l.length cap ∧ B ≤ g ∧ l.length ≤ cap ∧ cap ≤ maxLen := by
  rcases h.2 with ⟨_, h0⟩ | ⟨g, cap, cur, hv, hb, _, hn, hm, _⟩
  · exact absurd h0 hl
  · exact ⟨g, cap, hv, hb, hn, hm⟩
theorem OwnB.free {B : Nat} {w : World} {g n cap : Nat} {l : List UInt8} (h : OwnB B w (.slice (some ⟨g, 0, none⟩) n cap) l) (j : Nat) : w.frozen? ⟨g, j, none⟩ = false := by
  rcases h.2 with ⟨hv, _⟩ | ⟨g', cap', cur, hv, hb, hh, _⟩
  · cases hv
  · simp only [Value.slice.injEq, Option.some.injEq, Addr.mk.injEq] at hv
    obtain ⟨⟨rfl, _⟩, _⟩ := hv
    exact frozen_of_row w g j cur _ hh
theorem OwnB.cell {B : Nat} {w : World} {g n cap j : Nat} {l : List UInt8} {c : UInt8} (h : OwnB B w (.slice (some ⟨g, 0, none⟩) n cap) l) (hj : l[j]? = some c) : w.cell? ⟨g, j, none⟩ = some (.int .u8 (c.toNat : Int)) := by
  obtain ⟨hlt, he⟩ := List.getElem?_eq_some_iff.1 hj
  obtain ⟨b, off, hp, _, hc⟩ := h.brow.at_ hlt
  rcases h.2 with ⟨hv, _⟩ | ⟨g', cap', cur, hv, hb, hh, hn, hm, hs, ht⟩
  · cases hv
  · simp only [Value.slice.injEq, Option.some.injEq, Addr.mk.injEq] at hv hp
    obtain ⟨⟨rfl, _⟩, _⟩ := hv
    obtain ⟨rfl, rfl, _⟩ := hp
    rw [he, Nat.zero_add] at hc
    exact hc
theorem OwnB.set {B : Nat} {w : World} {g n cap j : Nat} {l : List UInt8} (h : OwnB B w (.slice (some ⟨g, 0, none⟩) n cap) l) (c : UInt8) :
    OwnB B (w.setCell ⟨g, j, none⟩ (.int .u8 (c.toNat : Int))) (.slice (some ⟨g, 0, none⟩) n cap) (l.set j c) := by
  refine ⟨by rw [byteCells_len]; omega, ?_⟩
  rcases h.2 with ⟨hv, _⟩ | ⟨g', cap', cur, hv, hb, hh, hn, hm, hs, ht⟩
  · cases hv
  · have hv' := hv
    simp only [Value.slice.injEq, Option.some.injEq, Addr.mk.injEq] at hv
    obtain ⟨⟨rfl, _⟩, hnn, rfl⟩ := hv
    refine .inr ⟨g, cap, cur.setIfInBounds j (.int .u8 (c.toNat : Int)), by rw [List.length_set, hnn], hb, heap_setCell_same w g j cur _ _ hh, by rw [List.length_set]; exact hn, hm, by rw [Array.size_setIfInBounds]; exact hs, ?_⟩
    rw [List.length_set, Array.toList_setIfInBounds, List.take_set, ht]
    simp [Lib.byteCells, List.map_set]
end Go.Proofs.Ythgfaadlnffpcaa.MM
set_option linter.unusedVariables false
namespace Go.Proofs.Ythgfaadlnffpcaa.MM
open Go.RowKit

/-! ### blocks that stay -/
/-- Of the blocks that there were, those of S are as they were. -/
structure Kep (S : Nat → Prop) (w w' : World) : Prop where
  os : w'.os = w.os
  tape : w'.tape = w.tape
  output : w'.output = w.output
  size : w.heap.size ≤ w'.heap.size
  block : ∀ k, k < w.heap.size → S k → w'.heap[k]? = w.heap[k]?
theorem Kep.refl (S : Nat → Prop) (w : World) : Kep S w w := ⟨rfl, rfl, rfl, Nat.le_refl _, fun _ _ _ => rfl⟩
theorem Kep.trans {S : Nat → Prop} {a b c : World} (h : Kep S a b) (k : Kep S b c) : Kep S a c :=
  ⟨k.os.trans h.os, k.tape.trans h.tape, k.output.trans h.output, Nat.le_trans h.size k.size, fun i hi hs => (k.block i (Nat.lt_of_lt_of_le hi h.size) hs).trans (h.block i hi hs)⟩
theorem Kep.mono {S T : Nat → Prop} {a b : World} (h : Kep S a b) (hT : ∀ k, T k → S k) : Kep T a b := ⟨h.os, h.tape, h.output, h.size, fun k hk ht => h.block k hk (hT k ht)⟩
/-- .. of those that there are, it is enough. -/
theorem Kep.mono' {S T : Nat → Prop} {a b : World} (h : Kep S a b) (hT : ∀ k, k < a.heap.size → T k → S k) : Kep T a b := ⟨h.os, h.tape, h.output, h.size, fun k hk ht => h.block k hk (hT k hk ht)⟩
theorem Kep.drew {S : Nat → Prop} {a b : World} (h : Kep S a b) : Kep S a b.drew := ⟨h.os, h.tape, h.output, h.size, h.block⟩
theorem Kep.drewN {S : Nat → Prop} {a b : World} (h : Kep S a b) (n : Nat) : Kep S a (b.drewN n) := ⟨h.os, h.tape, h.output, h.size, h.block⟩
theorem kep_below {w w' : World} (S : Nat → Prop) (h : Below w.heap.size w w') : Kep S w w' := ⟨h.os, h.tape, h.output, h.size, fun k hk _ => h.block k hk⟩
theorem kep_alloc (S : Nat → Prop) (w : World) (o : Obj) : Kep S w (w.alloc o) := kep_below S ((Below.refl _ _).alloc (Nat.le_refl _) o)
theorem kep_set {S : Nat → Prop} {w : World} {g i : Nat} (hg : ¬ S g) (u : Value) : Kep S w (w.setCell ⟨g, i, none⟩ u) :=
  ⟨rfl, rfl, rfl, by simp, fun k _ hs => Below.heap_setCell _ _ _ _ (fun e => hg (by rw [← show k = g from e]; exact hs))⟩
theorem kep_grown {S : Nat → Prop} {w w' : World} {row : Option Nat} (h : w.grownBy w' row) (hr : ∀ k, row = some k → ¬ S k) : Kep S w w' :=
  ⟨h.os, h.tape, h.output, h.size, fun k hk hs => h.block k hk (fun e => hr k e.symm hs)⟩
theorem Kep.below {S : Nat → Prop} {w w' : World} {B : Nat} (h : Kep S w w') (hB : B ≤ w.heap.size) (hS : ∀ k, k < B → S k) : Below B w w' :=
  ⟨h.os, h.tape, h.output, h.size, fun k hk => h.block k (Nat.lt_of_lt_of_le hk hB) (hS k hk)⟩

/-- .. the second step need keep of the first world's blocks alone. -/
theorem Kep.andThen {S T : Nat → Prop} {a b c : World} (h : Kep S a b) (k : Kep T b c) (hT : ∀ i, i < a.heap.size → S i → T i) : Kep S a c :=
  ⟨k.os.trans h.os, k.tape.trans h.tape, k.output.trans h.output, Nat.le_trans h.size k.size, fun i hi hs => (k.block i (Nat.lt_of_lt_of_le hi h.size) (hT i hi hs)).trans (h.block i hi hs)⟩
theorem kep_draw (S : Nat → Prop) (w : World) : Kep S w w.drew := (Kep.refl S w).drew
theorem Kep.cell {S : Nat → Prop} {w w' : World} (h : Kep S w w') {b : Nat} (hb : b < w.heap.size) (hS : S b) (i : Nat) : w'.cell? ⟨b, i, none⟩ = w.cell? ⟨b, i, none⟩ := World.cell?_of_block (a := ⟨b, i, none⟩) (h.block b hb hS)
end Go.Proofs.Ythgfaadlnffpcaa.MM
set_option linter.unusedVariables false
namespace Go.Proofs.Ythgfaadlnffpcaa.VM

/-! ### a number's bytes -/
/-- Its lowest seven bits, and so on: as many bytes as it needs, k + 1 at most. -/
def bytesF : Nat → Nat → List UInt8
  | 0, n => [UInt8.ofNat n]
  | k + 1, n => if n < 128 then [UInt8.ofNat n] else UInt8.ofNat (n % 128 + 128) :: bytesF k (n / 128)
def bytesL (n : Nat) : List UInt8 := bytesF 9 n

theorem bytesF_more : ∀ (k n : Nat), n < 128 ^ (k + 1) → bytesF (k + 1) n = bytesF k n
  | 0, n, h => by
    have h2 : n < 128 := by simpa using h
    simp [bytesF, h2]
  | k + 1, n, h => by
    have e1 : bytesF (k + 2) n = if n < 128 then [UInt8.ofNat n] else UInt8.ofNat (n % 128 + 128) :: bytesF (k + 1) (n / 128) := rfl
    have e2 : bytesF (k + 1) n = if n < 128 then [UInt8.ofNat n] else UInt8.ofNat (n % 128 + 128) :: bytesF k (n / 128) := rfl
    rw [e1, e2, bytesF_more k (n / 128) (by rw [Nat.div_lt_iff_lt_mul (by omega)]; rw [Nat.pow_succ] at h; exact h)]
theorem bytesL_small {n : Nat} (h : n < 128) : bytesL n = [UInt8.ofNat n] := by
  unfold bytesL
  rw [show (9 : Nat) = 8 + 1 from rfl, bytesF, if_pos h]
theorem bytesL_big {n : Nat} (h : ¬ n < 128) (hn : n < 18446744073709551616) : bytesL n = UInt8.ofNat (n % 128 + 128) :: bytesL (n / 128) := by
  have e : bytesF 9 (n / 128) = bytesF 8 (n / 128) := bytesF_more 8 _ (by have : (128 : Nat) ^ (8 + 1) = 9223372036854775808 := by decide
                                                                          omega)
  unfold bytesL
  rw [e, show (9 : Nat) = 8 + 1 from rfl, bytesF, if_neg h]
theorem bytesF_length : ∀ (k n : Nat), 1 ≤ (bytesF k n).length ∧ (bytesF k n).length ≤ k + 1
  | 0, n => by simp [bytesF]
  | k + 1, n => by
    unfold bytesF
    have := bytesF_length k (n / 128)
    split <;> simp <;> omega
theorem bytesL_length (n : Nat) : 1 ≤ (bytesL n).length ∧ (bytesL n).length ≤ 10 := bytesF_length 9 n
/-- By a number and the one that is a 128th of it. -/
theorem rec128 {P : Nat → Prop} (h0 : ∀ n, n < 128 → P n) (h1 : ∀ n, ¬ n < 128 → P (n / 128) → P n) (n : Nat) : P n := by
  induction n using Nat.strongRecOn with
  | ind n ih =>
    by_cases h : n < 128
    · exact h0 n h
    · exact h1 n h (ih _ (by omega))

/-! ### what is got -/
/-- The number, how many bytes it takes, and the error's number: from byte number i on, n gathered so far. -/
def getF : Nat → Nat → List UInt8 → Nat × Nat × Int
  | _, _, [] => (0, 0, 6)
  | i, n, c :: l => if (i = 9 ∧ 1 < c.toNat) ∨ (0 < i ∧ c.toNat = 0) then (0, 0, 20) else if c.toNat < 128 then (n + c.toNat % 128 * 2 ^ (7 * i), i + 1, 0) else getF (i + 1) (n + c.toNat % 128 * 2 ^ (7 * i)) l
def getL (l : List UInt8) : Nat × Nat × Int := getF 0 0 l

theorem getF_nil (i n : Nat) : getF i n [] = (0, 0, 6) := by rw [getF]
theorem getF_bad {i n : Nat} {c : UInt8} {l : List UInt8} (h : (i = 9 ∧ 1 < c.toNat) ∨ (0 < i ∧ c.toNat = 0)) : getF i n (c :: l) = (0, 0, 20) := by rw [getF, if_pos h]
theorem getF_end {i n : Nat} {c : UInt8} {l : List UInt8} (h : ¬ ((i = 9 ∧ 1 < c.toNat) ∨ (0 < i ∧ c.toNat = 0))) (h2 : c.toNat < 128) : getF i n (c :: l) = (n + c.toNat % 128 * 2 ^ (7 * i), i + 1, 0) := by rw [getF, if_neg h, if_pos h2]
theorem getF_more {i n : Nat} {c : UInt8} {l : List UInt8} (h : ¬ ((i = 9 ∧ 1 < c.toNat) ∨ (0 < i ∧ c.toNat = 0))) (h2 : ¬ c.toNat < 128) : getF i n (c :: l) = getF (i + 1) (n + c.toNat % 128 * 2 ^ (7 * i)) l := by rw [getF, if_neg h, if_neg h2]

/-- What has been gathered fits, and more of it does. -/
theorem pow7 (i : Nat) : 2 ^ (7 * (i + 1)) = 128 * 2 ^ (7 * i) := by
  rw [Nat.mul_add, Nat.pow_add]; omega
theorem gather_lt {i n : Nat} (hn : n < 2 ^ (7 * i)) (c : Nat) : n + c % 128 * 2 ^ (7 * i) < 2 ^ (7 * (i + 1)) := by
  rw [pow7]
  have h1 : c % 128 ≤ 127 := by omega
  have h2 := Nat.mul_le_mul_right (2 ^ (7 * i)) h1
  omega
theorem pow_le {i j : Nat} (h : i ≤ j) : 2 ^ (7 * i) ≤ 2 ^ (7 * j) := Nat.pow_le_pow_right (by omega) (by omega)
theorem pow9 : 2 ^ (7 * 9) = 9223372036854775808 := by decide
theorem gather_fits {i n : Nat} (hn : n < 2 ^ (7 * i)) (hi : i ≤ 9) {c : UInt8} (h : ¬ ((i = 9 ∧ 1 < c.toNat) ∨ (0 < i ∧ c.toNat = 0))) : n + c.toNat % 128 * 2 ^ (7 * i) < 18446744073709551616 := by
  by_cases h9 : i = 9
  · subst h9
    have hc : c.toNat = 1 := by omega
    rw [pow9] at hn ⊢
    rw [hc]
    omega
  · have h1 := gather_lt hn c.toNat
    have h2 : 2 ^ (7 * (i + 1)) ≤ 2 ^ (7 * 9) := pow_le (by omega)
    rw [pow9] at h2
    omega
/-- A byte of 128 or more is not the tenth. -/
theorem gather_next {i : Nat} (hi : i ≤ 9) {c : UInt8} (h : ¬ ((i = 9 ∧ 1 < c.toNat) ∨ (0 < i ∧ c.toNat = 0))) (h2 : ¬ c.toNat < 128) : i + 1 ≤ 9 := by
  by_cases h9 : i = 9 <;> omega

/-- The answer's bounds. -/
theorem getF_bounds : ∀ (l : List UInt8) (i n : Nat), i ≤ 9 → n < 2 ^ (7 * i) →
    (getF i n l).1 < 18446744073709551616 ∧ (getF i n l).2.1 ≤ i + l.length ∧ ((getF i n l).2.2 = 0 ∨ (getF i n l = (0, 0, 6) ∨ getF i n l = (0, 0, 20))) ∧ ((getF i n l).2.2 = 0 → 1 ≤ (getF i n l).2.1)
  | [], i, n, _, _ => by rw [getF_nil]; simp
  | c :: l, i, n, hi, hn => by
    by_cases h : (i = 9 ∧ 1 < c.toNat) ∨ (0 < i ∧ c.toNat = 0)
    · rw [getF_bad h]; simp
    · by_cases h2 : c.toNat < 128
      · rw [getF_end h h2]
        refine ⟨gather_fits hn hi h, by simp, .inl rfl, fun _ => by simp⟩
      · rw [getF_more h h2]
        have := getF_bounds l (i + 1) _ (gather_next hi h h2) (gather_lt hn c.toNat)
        rw [List.length_cons]
        exact ⟨this.1, by omega, this.2.2.1, this.2.2.2⟩
theorem getL_bounds (l : List UInt8) : (getL l).1 < 18446744073709551616 ∧ (getL l).2.1 ≤ l.length ∧ ((getL l).2.2 = 0 ∨ (getL l = (0, 0, 6) ∨ getL l = (0, 0, 20))) ∧ ((getL l).2.2 = 0 → 1 ≤ (getL l).2.1) := by
  have := getF_bounds l 0 0 (by omega) (by omega)
  rw [Nat.zero_add] at this
  exact this

/-! ### there and back -/
theorem toNat_small {n : Nat} (h : n < 256) : (UInt8.ofNat n).toNat = n := by simp; omega
theorem getF_put (n : Nat) : ∀ (i acc : Nat) (l : List UInt8), i ≤ 9 → acc + n * 2 ^ (7 * i) < 18446744073709551616 → (i = 0 ∨ 0 < n) →
    getF i acc (bytesL n ++ l) = (acc + n * 2 ^ (7 * i), i + (bytesL n).length, 0) := by
  refine rec128 (P := fun n => ∀ (i acc : Nat) (l : List UInt8), i ≤ 9 → acc + n * 2 ^ (7 * i) < 18446744073709551616 → (i = 0 ∨ 0 < n) →
    getF i acc (bytesL n ++ l) = (acc + n * 2 ^ (7 * i), i + (bytesL n).length, 0)) ?_ ?_ n
  · intro n h i acc l hi hf h0
    have hc : (UInt8.ofNat n).toNat = n := toNat_small (by omega)
    rw [bytesL_small h, List.singleton_append, getF_end]
    · rw [hc, Nat.mod_eq_of_lt h]; rfl
    · rw [hc]
      rintro (⟨h9, h1⟩ | ⟨h9, h1⟩)
      · subst h9
        rw [pow9] at hf
        omega
      · omega
    · omega
  · intro n h ih i acc l hi hf h0
    have hbig : n < 18446744073709551616 := by
      have : 1 ≤ 2 ^ (7 * i) := Nat.one_le_two_pow
      have := Nat.mul_le_mul_left n this
      omega
    have hc : (UInt8.ofNat (n % 128 + 128)).toNat = n % 128 + 128 := toNat_small (by omega)
    have hi8 : i + 1 ≤ 9 := by
      by_cases h9 : i = 9
      · subst h9
        rw [pow9] at hf
        omega
      · omega
    have e1 : n * 2 ^ (7 * i) = n % 128 * 2 ^ (7 * i) + n / 128 * (128 * 2 ^ (7 * i)) := by
      have h2 : n = n % 128 + n / 128 * 128 := by omega
      rw [← Nat.mul_assoc, ← Nat.add_mul, ← h2]
    have hn : acc + n % 128 * 2 ^ (7 * i) + n / 128 * 2 ^ (7 * (i + 1)) = acc + n * 2 ^ (7 * i) := by
      rw [pow7, e1, Nat.add_assoc]
    rw [bytesL_big h hbig, List.cons_append, getF_more]
    · rw [hc, show (n % 128 + 128) % 128 = n % 128 by omega, ih (i + 1) _ l hi8 (by rw [hn]; exact hf) (.inr (by omega)), hn, List.length_cons]
      simp only [Prod.mk.injEq, true_and, and_true]
      omega
    · rw [hc]; omega
    · rw [hc]; omega
theorem getL_put (n : Nat) (hn : n < 18446744073709551616) (l : List UInt8) : getL (bytesL n ++ l) = (n, (bytesL n).length, 0) := by
  have := getF_put n 0 0 l (by omega) (by omega) (.inl rfl)
  rw [Nat.zero_add, Nat.zero_add, Nat.mul_zero, Nat.pow_zero, Nat.mul_one] at this
  exact this

/-- A beginning of a number's bytes is short. -/
theorem getF_part (n : Nat) : ∀ (i acc j : Nat), i ≤ 9 → acc + n * 2 ^ (7 * i) < 18446744073709551616 → (i = 0 ∨ 0 < n) → j < (bytesL n).length → getF i acc ((bytesL n).take j) = (0, 0, 6) := by
  refine rec128 (P := fun n => ∀ (i acc j : Nat), i ≤ 9 → acc + n * 2 ^ (7 * i) < 18446744073709551616 → (i = 0 ∨ 0 < n) → j < (bytesL n).length → getF i acc ((bytesL n).take j) = (0, 0, 6)) ?_ ?_ n
  · intro n h i acc j hi hf h0 hj
    rw [bytesL_small h] at hj ⊢
    have : j = 0 := by simpa using hj
    subst this
    rw [List.take_zero, getF_nil]
  · intro n h ih i acc j hi hf h0 hj
    have hbig : n < 18446744073709551616 := by
      have : 1 ≤ 2 ^ (7 * i) := Nat.one_le_two_pow
      have := Nat.mul_le_mul_left n this
      omega
    have hc : (UInt8.ofNat (n % 128 + 128)).toNat = n % 128 + 128 := toNat_small (by omega)
    have hi8 : i + 1 ≤ 9 := by
      by_cases h9 : i = 9
      · subst h9
        rw [pow9] at hf
        omega
      · omega
    have e1 : n * 2 ^ (7 * i) = n % 128 * 2 ^ (7 * i) + n / 128 * (128 * 2 ^ (7 * i)) := by
      have h2 : n = n % 128 + n / 128 * 128 := by omega
      rw [← Nat.mul_assoc, ← Nat.add_mul, ← h2]
    have hn : acc + n % 128 * 2 ^ (7 * i) + n / 128 * 2 ^ (7 * (i + 1)) = acc + n * 2 ^ (7 * i) := by
      rw [pow7, e1, Nat.add_assoc]
    rw [bytesL_big h hbig] at hj ⊢
    rw [List.length_cons] at hj
    cases j with
    | zero => rw [List.take_zero, getF_nil]
    | succ j =>
      rw [List.take_succ_cons, getF_more]
      · rw [hc, show (n % 128 + 128) % 128 = n % 128 by omega]
        exact ih (i + 1) _ j hi8 (by rw [hn]; exact hf) (.inr (by omega)) (by omega)
      · rw [hc]; omega
      · rw [hc]; omega
theorem getL_part (n j : Nat) (hn : n < 18446744073709551616) (hj : j < (bytesL n).length) : getL ((bytesL n).take j) = (0, 0, 6) :=
  getF_part n 0 0 j (by omega) (by omega) (.inl rfl) hj

/-- What is got, put, is what stood there. -/
theorem getF_back : ∀ (l : List UInt8) (i acc n k : Nat), i ≤ 9 → acc < 2 ^ (7 * i) → getF i acc l = (n, k, 0) → ∃ m, n = acc + m * 2 ^ (7 * i) ∧ i < k ∧ k ≤ i + l.length ∧ bytesL m = l.take (k - i) ∧ (0 < i → 0 < m)
  | [], i, acc, n, k, _, _, h => by rw [getF_nil] at h; simp at h
  | c :: l, i, acc, n, k, hi, ha, h => by
    by_cases hb : (i = 9 ∧ 1 < c.toNat) ∨ (0 < i ∧ c.toNat = 0)
    · rw [getF_bad hb] at h; simp at h
    · by_cases h2 : c.toNat < 128
      · rw [getF_end hb h2] at h
        simp only [Prod.mk.injEq, and_true] at h
        obtain ⟨rfl, rfl⟩ := h
        refine ⟨c.toNat, by rw [Nat.mod_eq_of_lt h2], by omega, by rw [List.length_cons]; omega, ?_, by omega⟩
        rw [bytesL_small h2, show i + 1 - i = 1 by omega, List.take_succ_cons, List.take_zero]
        simp
      · rw [getF_more hb h2] at h
        have hi2 := gather_next hi hb h2
        obtain ⟨m, hm, hk, hkl, hbm, h0⟩ := getF_back l (i + 1) _ n k hi2 (gather_lt ha c.toNat) h
        have hc := c.toNat_lt
        have hfit := (getF_bounds l (i + 1) _ hi2 (gather_lt ha c.toNat)).1
        rw [h] at hfit
        have hmp := h0 (by omega)
        have hN : c.toNat % 128 + 128 * m < 18446744073709551616 := by
          have h1 : 1 ≤ 2 ^ (7 * i) := Nat.one_le_two_pow
          have h3 := Nat.mul_le_mul_left (c.toNat % 128) h1
          have h4 := Nat.mul_le_mul_left (m * 128) h1
          rw [pow7, ← Nat.mul_assoc] at hm
          have hfit' : n < 18446744073709551616 := hfit
          omega
        refine ⟨c.toNat % 128 + 128 * m, ?_, by omega, by rw [List.length_cons]; omega, ?_, by omega⟩
        · rw [hm, pow7, Nat.add_mul, Nat.add_assoc, Nat.mul_comm 128 m, Nat.mul_assoc]
        · have hnb : ¬ c.toNat % 128 + 128 * m < 128 := by omega
          rw [bytesL_big hnb hN, show (c.toNat % 128 + 128 * m) / 128 = m by omega, hbm, show k - i = (k - (i + 1)) + 1 by omega, List.take_succ_cons, show (c.toNat % 128 + 128 * m) % 128 + 128 = c.toNat by omega]
          simp
theorem getL_back {l : List UInt8} {n k : Nat} (h : getL l = (n, k, 0)) : bytesL n ++ l.drop k = l := by
  obtain ⟨m, hm, _, _, hb, _⟩ := getF_back l 0 0 n k (by omega) (by omega) h
  rw [Nat.zero_add, Nat.mul_zero, Nat.pow_zero, Nat.mul_one] at hm
  rw [hm, hb, Nat.sub_zero, List.take_append_drop]

/-! ### whole numbers -/
def zig (n : Int) : Nat := if 0 ≤ n then (2 * n).toNat else (-2 * n - 1).toNat
def zag (u : Nat) : Int := if u % 2 = 0 then ((u / 2 : Nat) : Int) else -1 - ((u / 2 : Nat) : Int)
theorem zag_zig (n : Int) : zag (zig n) = n := by unfold zag zig; split <;> split <;> omega
theorem zig_lt {n : Int} (h0 : -9223372036854775808 ≤ n) (h1 : n ≤ 9223372036854775807) : zig n < 18446744073709551616 := by unfold zig; split <;> omega
theorem zag_bd {u : Nat} (h : u < 18446744073709551616) : -9223372036854775808 ≤ zag u ∧ zag u ≤ 9223372036854775807 := by unfold zag; split <;> omega

def intL (n : Int) : List UInt8 := bytesL (zig n)
/-- The whole number that is got: 0 with an error. -/
def getI (l : List UInt8) : Int × Nat × Int := (zag (getL l).1, (getL l).2.1, (getL l).2.2)
theorem getI_bounds (l : List UInt8) : (-9223372036854775808 ≤ (getI l).1 ∧ (getI l).1 ≤ 9223372036854775807) ∧ (getI l).2.1 ≤ l.length ∧ ((getI l).2.2 = 0 ∨ (getI l = (0, 0, 6) ∨ getI l = (0, 0, 20))) ∧ ((getI l).2.2 = 0 → 1 ≤ (getI l).2.1) := by
  have h := getL_bounds l
  refine ⟨zag_bd h.1, h.2.1, ?_, h.2.2.2⟩
  rcases h.2.2.1 with h0 | h0 | h0
  · exact .inl h0
  · refine .inr (.inl ?_); unfold getI; rw [h0]; rfl
  · refine .inr (.inr ?_); unfold getI; rw [h0]; rfl
theorem getI_put (n : Int) (h0 : -9223372036854775808 ≤ n) (h1 : n ≤ 9223372036854775807) (l : List UInt8) : getI (intL n ++ l) = (n, (intL n).length, 0) := by
  unfold getI intL
  rw [getL_put _ (zig_lt h0 h1), zag_zig]

/-! ### texts -/
def textL (s : List UInt8) : List UInt8 := bytesL s.length ++ s
/-- The text, how many bytes it takes in all, and the error's number. -/
def getT (l : List UInt8) (most : Int) : List UInt8 × Nat × Int :=
  if (getL l).2.2 ≠ 0 then ([], 0, (getL l).2.2)
  else if max 0 most < ((getL l).1 : Int) then ([], 0, 2)
  else if l.length - (getL l).2.1 < (getL l).1 then ([], 0, 6)
  else ((l.drop (getL l).2.1).take (getL l).1, (getL l).2.1 + (getL l).1, 0)
theorem getT_put (s : List UInt8) (hs : s.length < 18446744073709551616) (most : Int) (hm : (s.length : Int) ≤ most) (l : List UInt8) : getT (textL s ++ l) most = (s, (textL s).length, 0) := by
  unfold getT textL
  rw [List.append_assoc, getL_put _ hs]
  have e1 : ¬ ((0 : Int) ≠ 0) := by simp
  have e2 : ¬ max 0 most < (s.length : Int) := by omega
  have e3 : ¬ (bytesL s.length ++ (s ++ l)).length - (bytesL s.length).length < s.length := by simp
  simp only []
  rw [if_neg e1, if_neg e2, if_neg e3, List.drop_left, List.take_left, List.length_append]

/-! ### rows -/
def allL (zs : List Int) : List UInt8 := (zs.map intL).flatten
theorem allL_snoc (zs : List Int) (k : Nat) (hk : k < zs.length) : allL (zs.take (k + 1)) = allL (zs.take k) ++ intL (zs.getD k 0) := by
  unfold allL
  rw [List.take_succ_eq_append_getElem hk, List.map_append, List.flatten_append]
  simp [List.getD, hk]
theorem allL_length (zs : List Int) : (allL zs).length ≤ 10 * zs.length := by
  induction zs with
  | nil => simp [allL]
  | cons z zs ih =>
    have : allL (z :: zs) = intL z ++ allL zs := by simp [allL]
    rw [this, List.length_append, List.length_cons]
    have := (bytesL_length (zig z)).2
    unfold intL
    omega
/-- So many whole numbers: they, how many bytes they take, and the error's number. -/
def getA : Nat → List UInt8 → List Int × Nat × Int
  | 0, _ => ([], 0, 0)
  | m + 1, l => if (getI l).2.2 ≠ 0 then ([], 0, (getI l).2.2) else
      if (getA m (l.drop (getI l).2.1)).2.2 ≠ 0 then ([], 0, (getA m (l.drop (getI l).2.1)).2.2)
      else ((getI l).1 :: (getA m (l.drop (getI l).2.1)).1, (getI l).2.1 + (getA m (l.drop (getI l).2.1)).2.1, 0)
end Go.Proofs.Ythgfaadlnffpcaa.VM
set_option linter.unusedVariables false
namespace Go.Proofs.Ythgfaadlnffpcaa.CI
open Go Go.RowKit Go.Proofs.Ythgfaadlnffpcaa.MM

def cmpZ (a b : Int) : Int := if a < b then -1 else if a > b then 1 else 0
set_option maxRecDepth 100000 in
theorem nan_any (a : Int) (w : World) : Calls Try.prog 64 #[.int .i64 a] w fun e w' => e = .returned (.bool false) ∧ w = w' := by
  go_enter Try.func64, Try.ntmps64
  go_wp2_with fail
  go_ret
  exact ⟨by simp, rfl⟩
set_option maxRecDepth 100000 in
set_option maxHeartbeats 1000000 in
theorem cmp_any (a b : Int) (w : World) : Calls Try.prog 45 #[.int .i64 a, .int .i64 b] w fun e w' => e = .returned (.int .i64 (cmpZ a b)) ∧ w = w' := by
  unfold cmpZ
  by_cases h1 : a < b
  · rw [if_pos h1]
    have t1 : decide (a < b) = true := decide_eq_true h1
    go_enter Try.func45, Try.ntmps45
    go_wp2_with fail
    refine (nan_any _ _).mono ?_
    rintro e w1 ⟨rfl, rfl⟩
    go_wp2_with fail
    refine (nan_any _ _).mono ?_
    rintro e w1 ⟨rfl, rfl⟩
    go_wp2_with fail
    go_ret
    exact ⟨rfl, rfl⟩
  · rw [if_neg h1]
    have t1 : decide (a < b) = false := decide_eq_false h1
    by_cases h2 : a > b
    · rw [if_pos h2]
      have t2 : decide (a > b) = true := decide_eq_true h2
      go_enter Try.func45, Try.ntmps45
      go_wp2_with fail
      refine (nan_any _ _).mono ?_
      rintro e w1 ⟨rfl, rfl⟩
      go_wp2_with fail
      refine (nan_any _ _).mono ?_
      rintro e w1 ⟨rfl, rfl⟩
      go_wp2_with fail
      go_ret
      exact ⟨rfl, rfl⟩
    · rw [if_neg h2]
      have t2 : decide (a > b) = false := decide_eq_false h2
      go_enter Try.func45, Try.ntmps45
      go_wp2_with fail
      refine (nan_any _ _).mono ?_
      rintro e w1 ⟨rfl, rfl⟩
      go_wp2_with fail
      refine (nan_any _ _).mono ?_
      rintro e w1 ⟨rfl, rfl⟩
      go_wp2_with fail
      go_ret
      exact ⟨rfl, rfl⟩
end Go.Proofs.Ythgfaadlnffpcaa.CI
