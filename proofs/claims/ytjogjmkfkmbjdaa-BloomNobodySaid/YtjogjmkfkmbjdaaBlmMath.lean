/-
  Filters by definition: a text's number, its bits' places, what is there behind texts. No program; no condition.
-/
import Derived.WalkKit
import Derived.Lib.Hide
namespace Go.Proofs.Ytjogjmkfkmbjdaa.BM
open Go

/-! ### a text's number -/
/-- A text's number, a byte further. -/
def stepN (h : Int) (c : UInt8) : Int := IntKind.u64.wrap (bits .xor .u64 h (c.toNat : Int) * 1099511628211)
def numL (l : List UInt8) : Int := l.foldl stepN 14695981039346656037
theorem wrap_u64 (x : Int) : IntKind.u64.wrap x = x % 18446744073709551616 := by
  simp [IntKind.wrap, IntKind.signed, IntKind.bits]
theorem numL_range (l : List UInt8) : 0 ≤ numL l ∧ numL l < 18446744073709551616 := by
  unfold numL
  rcases List.eq_nil_or_concat l with rfl | ⟨l', c, rfl⟩
  · simp
  · rw [List.concat_eq_append, List.foldl_append]
    simp only [List.foldl_cons, List.foldl_nil, stepN, wrap_u64]
    omega
theorem numL_next {l : List UInt8} {k : Nat} (hk : k < l.length) : numL (l.take (k + 1)) = stepN (numL (l.take k)) l[k] := by
  unfold numL
  rw [List.take_succ_eq_append_getElem hk, List.foldl_append]
  rfl
theorem numL_zero (l : List UInt8) : numL (l.take 0) = 14695981039346656037 := rfl

/-! ### its bits' places -/
def firstL (l : List UInt8) : Nat := (numL l).toNat % 4294967296
def halfL (l : List UInt8) : Nat := (numL l).toNat / 4294967296
def secondL (l : List UInt8) : Nat := if halfL l % 2 = 0 then halfL l + 1 else halfL l
theorem firstL_lt (l : List UInt8) : firstL l < 4294967296 := Nat.mod_lt _ (by decide)
theorem halfL_lt (l : List UInt8) : halfL l < 4294967296 := by have := (numL_range l).2; unfold halfL; omega
theorem secondL_lt (l : List UInt8) : secondL l < 4294967296 := by have := halfL_lt l; unfold secondL; split <;> omega
/-- A text's i-th place among m. -/
def placeL (m : Nat) (l : List UInt8) (i : Nat) : Nat := (firstL l + i * secondL l) % m
theorem placeL_lt {m : Nat} (l : List UInt8) (i : Nat) (h : 0 < m) : placeL m l i < m := Nat.mod_lt _ h

/-! ### bits -/
def bitB (c : UInt8) (j : Nat) : Bool := c.toNat / 2 ^ j % 2 == 1
def putB (c : UInt8) (j : Nat) : UInt8 := if bitB c j then c else UInt8.ofNat (c.toNat + 2 ^ j)
def onesB (c : UInt8) : Nat := ((List.range 8).filter (bitB c)).length
theorem put_all : ∀ c : Fin 256, ∀ j : Fin 8, ∀ i : Fin 8, bitB (putB (UInt8.ofNat c.val) j.val) i.val = (bitB (UInt8.ofNat c.val) i.val || i == j) := by decide +kernel
theorem bit_put (c : UInt8) {i j : Nat} (hi : i < 8) (hj : j < 8) : bitB (putB c j) i = (bitB c i || i == j) := by
  have := put_all ⟨c.toNat, c.toNat_lt⟩ ⟨j, hj⟩ ⟨i, hi⟩
  have e : UInt8.ofNat c.toNat = c := by simp
  dsimp only at this
  rw [e] at this
  rw [this]
  congr 1
  by_cases h : i = j
  · subst h; simp
  · rw [beq_eq_false_iff_ne.2 h, beq_eq_false_iff_ne]
    intro h2
    exact h (Fin.mk.inj h2)
theorem onesB_le (c : UInt8) : onesB c ≤ 8 := by
  unfold onesB
  exact Nat.le_trans (List.length_filter_le _ _) (by simp)

/-! ### filters: their bytes -/
def hasL (L : List UInt8) (k : Nat) : Bool := bitB (L.getD (k / 8) 0) (k % 8)
def putL (L : List UInt8) (k : Nat) : List UInt8 := L.set (k / 8) (putB (L.getD (k / 8) 0) (k % 8))
theorem putL_len (L : List UInt8) (k : Nat) : (putL L k).length = L.length := by simp [putL]
theorem has_put (L : List UInt8) {k : Nat} (i : Nat) (hk : k < 8 * L.length) : hasL (putL L k) i = (hasL L i || i == k) := by
  unfold hasL putL
  by_cases h : k / 8 = i / 8
  · rw [← h]
    have hl : k / 8 < L.length := by omega
    have e : (L.set (k / 8) (putB (L.getD (k / 8) 0) (k % 8))).getD (k / 8) 0 = putB (L.getD (k / 8) 0) (k % 8) := by simp [List.getD, hl]
    rw [e]
    rw [bit_put _ (Nat.mod_lt _ (by decide)) (Nat.mod_lt _ (by decide))]
    congr 1
    by_cases e : i = k
    · subst e; simp
    · have : i % 8 ≠ k % 8 := by omega
      rw [beq_eq_false_iff_ne.2 this, beq_eq_false_iff_ne.2 e]
  · have e : i ≠ k := by rintro rfl; exact h rfl
    have e2 : (L.set (k / 8) (putB (L.getD (k / 8) 0) (k % 8))).getD (i / 8) 0 = L.getD (i / 8) 0 := by simp only [List.getD, List.getElem?_set_ne h]
    rw [e2, beq_eq_false_iff_ne.2 e, Bool.or_false]
/-- A place more: the bytes, how many were not there. -/
def put1 (st : List UInt8 × Nat) (k : Nat) : List UInt8 × Nat := if hasL st.1 k then st else (putL st.1 k, st.2 + 1)
theorem put1_len (st : List UInt8 × Nat) (k : Nat) : (put1 st k).1.length = st.1.length := by unfold put1; split <;> simp [putL_len]
/-- Behind a text's first i places. -/
def addI (L : List UInt8) (s : List UInt8) (i : Nat) : List UInt8 × Nat := (List.range i).foldl (fun st i => put1 st (placeL (8 * L.length) s i)) (L, 0)
theorem addI_zero (L s : List UInt8) : addI L s 0 = (L, 0) := rfl
theorem addI_next (L s : List UInt8) (i : Nat) : addI L s (i + 1) = put1 (addI L s i) (placeL (8 * L.length) s i) := by
  unfold addI
  rw [List.range_succ, List.foldl_append]
  rfl
theorem addI_len (L s : List UInt8) (i : Nat) : (addI L s i).1.length = L.length := by
  induction i with
  | zero => rfl
  | succ i ih => rw [addI_next, put1_len, ih]
theorem put1_count (st : List UInt8 × Nat) (k : Nat) : (put1 st k).2 ≤ st.2 + 1 := by unfold put1; split <;> simp
theorem addI_count (L s : List UInt8) (i : Nat) : (addI L s i).2 ≤ i := by
  induction i with
  | zero => exact Nat.le_refl _
  | succ i ih => rw [addI_next]; have := put1_count (addI L s i) (placeL (8 * L.length) s i); omega
def addT (L : List UInt8) (s : List UInt8) : List UInt8 × Nat := addI L s 4
theorem addT_len (L s : List UInt8) : (addT L s).1.length = L.length := addI_len L s 4
theorem addT_count (L s : List UInt8) : (addT L s).2 ≤ 4 := addI_count L s 4
/-- Behind texts. -/
def addA (L : List UInt8) (ss : List (List UInt8)) : List UInt8 × Nat := ss.foldl (fun st s => ((addT st.1 s).1, st.2 + (addT st.1 s).2)) (L, 0)
theorem addA_zero (L : List UInt8) (ss : List (List UInt8)) : addA L (ss.take 0) = (L, 0) := rfl
theorem addA_next {L : List UInt8} {ss : List (List UInt8)} {k : Nat} (hk : k < ss.length) : addA L (ss.take (k + 1)) = ((addT (addA L (ss.take k)).1 ss[k]).1, (addA L (ss.take k)).2 + (addT (addA L (ss.take k)).1 ss[k]).2) := by
  unfold addA
  rw [List.take_succ_eq_append_getElem hk, List.foldl_append]
  rfl
theorem addA_len (L : List UInt8) (ss : List (List UInt8)) (k : Nat) : (addA L (ss.take k)).1.length = L.length := by
  induction k with
  | zero => rfl
  | succ k ih =>
    by_cases hk : k < ss.length
    · rw [addA_next hk, addT_len, ih]
    · rw [List.take_of_length_le (by omega)] at ih ⊢
      exact ih
theorem addA_count (L : List UInt8) (ss : List (List UInt8)) (k : Nat) : (addA L (ss.take k)).2 ≤ 4 * k := by
  induction k with
  | zero => exact Nat.le_refl _
  | succ k ih =>
    by_cases hk : k < ss.length
    · rw [addA_next hk]
      have := addT_count (addA L (ss.take k)).1 ss[k]
      dsimp only
      omega
    · rw [List.take_of_length_le (by omega)] at ih ⊢
      omega
theorem addA_all (L : List UInt8) (ss : List (List UInt8)) : (addA L ss).1.length = L.length := by
  have := addA_len L ss ss.length
  rwa [List.take_length] at this
theorem addA_one (L s : List UInt8) : addA L [s] = addT L s := by
  unfold addA
  simp

/-! ### what may be there -/
def mayI (L s : List UInt8) (i : Nat) : Bool := (List.range i).all fun i => hasL L (placeL (8 * L.length) s i)
theorem mayI_zero (L s : List UInt8) : mayI L s 0 = true := rfl
theorem mayI_next (L s : List UInt8) (i : Nat) : mayI L s (i + 1) = (mayI L s i && hasL L (placeL (8 * L.length) s i)) := by
  unfold mayI
  rw [List.range_succ, List.all_append]
  simp
def mayL (L s : List UInt8) : Bool := mayI L s 4
theorem mayI_false {L s : List UInt8} {i : Nat} (hi : i < 4) (h : hasL L (placeL (8 * L.length) s i) = false) : mayL L s = false := by
  unfold mayL mayI
  rw [List.all_eq_false]
  exact ⟨i, by simpa using hi, by simp [h]⟩

/-! ### never wrongly no -/
theorem put1_keeps {st : List UInt8 × Nat} {k i : Nat} (hk : k < 8 * st.1.length) (h : hasL st.1 i = true) : hasL (put1 st k).1 i = true := by
  unfold put1
  split
  · exact h
  · show hasL (putL st.1 k) i = true
    rw [has_put _ _ hk, h, Bool.true_or]
theorem put1_has {st : List UInt8 × Nat} {k : Nat} (hk : k < 8 * st.1.length) : hasL (put1 st k).1 k = true := by
  unfold put1
  split
  · assumption
  · show hasL (putL st.1 k) k = true
    rw [has_put _ _ hk]
    simp
theorem addI_keeps {L s : List UInt8} (hL : 0 < L.length) {k : Nat} (i : Nat) (h : hasL L k = true) : hasL (addI L s i).1 k = true := by
  induction i with
  | zero => exact h
  | succ i ih =>
    rw [addI_next]
    exact put1_keeps (by rw [addI_len]; exact placeL_lt _ _ (by omega)) ih
theorem addI_has {L s : List UInt8} (hL : 0 < L.length) {j : Nat} : ∀ i, j < i → hasL (addI L s i).1 (placeL (8 * L.length) s j) = true
  | 0, h => by omega
  | i + 1, h => by
    rw [addI_next]
    have hp : placeL (8 * L.length) s i < 8 * (addI L s i).1.length := by rw [addI_len]; exact placeL_lt _ _ (by omega)
    by_cases e : j = i
    · subst e
      exact put1_has hp
    · exact put1_keeps hp (addI_has hL i (by omega))
theorem may_keeps {L s t : List UInt8} (hL : 0 < L.length) (h : mayL L t = true) : mayL (addT L s).1 t = true := by
  unfold mayL mayI at *
  rw [List.all_eq_true] at *
  intro i hi
  rw [addT_len]
  exact addI_keeps hL 4 (h i hi)
theorem may_has {L s : List UInt8} (hL : 0 < L.length) : mayL (addT L s).1 s = true := by
  unfold mayL mayI
  rw [List.all_eq_true]
  intro i hi
  rw [addT_len]
  exact addI_has hL 4 (by simpa using hi)
theorem add_may {L s : List UInt8} (h : mayL L s = true) : addT L s = (L, 0) := by
  have : ∀ i, i ≤ 4 → addI L s i = (L, 0) := by
    intro i
    induction i with
    | zero => intro _; rfl
    | succ i ih =>
      intro hi
      rw [addI_next, ih (by omega)]
      unfold mayL mayI at h
      rw [List.all_eq_true] at h
      have := h i (by simp; omega)
      unfold put1
      rw [if_pos this]
  exact this 4 (Nat.le_refl _)
theorem addA_may : ∀ {ss : List (List UInt8)} {L : List UInt8}, (∀ s ∈ ss, mayL L s = true) → addA L ss = (L, 0) := by
  intro ss L h
  have : ∀ k, addA L (ss.take k) = (L, 0) := by
    intro k
    induction k with
    | zero => rfl
    | succ k ih =>
      by_cases hk : k < ss.length
      · rw [addA_next hk, ih]
        dsimp only
        rw [add_may (h _ (List.getElem_mem hk)), Nat.zero_add]
      · rw [List.take_of_length_le (by omega)] at ih ⊢
        exact ih
  have := this ss.length
  rwa [List.take_length] at this

/-! ### how many there are -/
def cntK (L : List UInt8) (k : Nat) : Nat := ((List.range k).filter (hasL L)).length
theorem cntK_next (L : List UInt8) (k : Nat) : cntK L (k + 1) = cntK L k + if hasL L k then 1 else 0 := by
  unfold cntK
  rw [List.range_succ, List.filter_append, List.length_append]
  congr 1
  cases h : hasL L k <;> simp [h]
theorem cntK_le (L : List UInt8) (k : Nat) : cntK L k ≤ k := by
  unfold cntK
  exact Nat.le_trans (List.length_filter_le _ _) (by simp)
def countL (L : List UInt8) : Nat := (L.map onesB).sum
theorem countL_next {L : List UInt8} {j : Nat} (hj : j < L.length) : countL (L.take (j + 1)) = countL (L.take j) + onesB L[j] := by
  unfold countL
  rw [List.take_succ_eq_append_getElem hj, List.map_append, List.sum_append]
  simp
theorem countL_le (L : List UInt8) : countL L ≤ 8 * L.length := by
  unfold countL
  induction L with
  | nil => simp
  | cons c L ih =>
    have := onesB_le c
    simp only [List.map_cons, List.sum_cons, List.length_cons]
    omega
theorem cntK_byte (L : List UInt8) (j i : Nat) (hj : j < L.length) (hi : i ≤ 8) : cntK L (8 * j + i) = cntK L (8 * j) + ((List.range i).filter (bitB L[j])).length := by
  induction i with
  | zero => simp
  | succ i ih =>
    rw [← Nat.add_assoc, cntK_next, ih (by omega), List.range_succ, List.filter_append, List.length_append, Nat.add_assoc]
    congr 1
    congr 1
    have e : hasL L (8 * j + i) = bitB L[j] i := by
      unfold hasL
      rw [show (8 * j + i) / 8 = j by omega, show (8 * j + i) % 8 = i by omega]
      simp [List.getD_eq_getElem?_getD, hj]
    rw [e]
    cases h : bitB L[j] i <;> simp [h]
theorem cnt_count (L : List UInt8) : cntK L (8 * L.length) = countL L := by
  have : ∀ j, j ≤ L.length → cntK L (8 * j) = countL (L.take j) := by
    intro j
    induction j with
    | zero => intro _; rfl
    | succ j ih =>
      intro hj
      have h1 := cntK_byte L j 8 (by omega) (Nat.le_refl _)
      rw [show 8 * (j + 1) = 8 * j + 8 by omega, h1, ih (by omega), countL_next (by omega)]
      rfl
  have := this L.length (Nat.le_refl _)
  rwa [List.take_length] at this

/-! ### new ones -/
def roomL (n : Nat) : Nat := (min (max (10 * n) 64) 1048576 + 7) / 8
theorem roomL_le (n : Nat) : 8 ≤ roomL n ∧ roomL n ≤ 131072 := by unfold roomL; omega
def newL (n : Nat) : List UInt8 := List.replicate (roomL n) 0
theorem newL_len (n : Nat) : (newL n).length = roomL n := by simp [newL]
end Go.Proofs.Ytjogjmkfkmbjdaa.BM
