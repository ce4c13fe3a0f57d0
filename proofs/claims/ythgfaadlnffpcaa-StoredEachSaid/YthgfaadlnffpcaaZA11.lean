/-
  Rows of docs by definition: which may be, their bytes in blocks, there and back; no beginning is a row's; each doc is found. No program; no condition.
-/
import Derived.Test.YthgfaadlnffpcaaZA10
set_option linter.unusedVariables false
namespace Go.Proofs.Ythgfaadlnffpcaa.SM
open Go Go.Proofs.Ythgfaadlnffpcaa.VM
open Go.Proofs.Ythgfaadlnffpcaa.EM (Fld Ev checkE FitE bytesE bytesE_len getE getE_put getE_back ok_lens sizeF sizeF_of_ok checkE_ok)
open Go.Proofs.Ythgfaadlnffpcaa.DM (getN getN_put)

abbrev Doc := Int × Ev
def noDoc : Doc := (0, (0, []))
/-! ### which may be -/
def okS (last : Int) (d : Doc) : Bool := decide (last < d.1) && decide (d.1 ≤ 1099511627776) && decide (checkE d.2 = 0)
theorem okS_iff {last : Int} {d : Doc} : okS last d = true ↔ last < d.1 ∧ d.1 ≤ 1099511627776 ∧ checkE d.2 = 0 := by
  unfold okS
  simp only [Bool.and_eq_true, decide_eq_true_eq, and_assoc]
/-- Docs that may be, whose numbers rise, behind a number. -/
def isR : Int → List Doc → Bool
  | _, [] => true
  | last, d :: r => okS last d && isR d.1 r
def isS (l : List Doc) : Bool := decide (l.length ≤ 65536) && isR 0 l
theorem isR_step {l : List Doc} {last : Int} {k : Nat} (hk : k < l.length) : isR last (l.drop k) = (okS last l[k] && isR l[k].1 (l.drop (k + 1))) := by
  rw [List.drop_eq_getElem_cons hk, isR]
theorem isR_end (l : List Doc) (last : Int) : isR last (l.drop l.length) = true := by rw [List.drop_length, isR]
/-- The number ahead of the k-th doc. -/
def lastS (l : List Doc) : Nat → Int
  | 0 => 0
  | k + 1 => (l.getD k noDoc).1
theorem lastS_next {l : List Doc} {k : Nat} (hk : k < l.length) : lastS l (k + 1) = l[k].1 := by simp [lastS, List.getD, hk]
theorem isR_at : ∀ {l : List Doc} {last : Int}, isR last l = true → ∀ (k : Nat) (hk : k < l.length), okS (if k = 0 then last else lastS l k) l[k] = true
  | [], _, _, k, hk => by simp at hk
  | d :: r, last, h, 0, hk => by
    rw [isR, Bool.and_eq_true] at h
    exact h.1
  | d :: r, last, h, k + 1, hk => by
    rw [isR, Bool.and_eq_true] at h
    have ih := isR_at h.2 k (by simpa using hk)
    have e : (if k = 0 then d.1 else lastS r k) = (if k + 1 = 0 then last else lastS (d :: r) (k + 1)) := by
      cases k with
      | zero => simp [lastS]
      | succ k => simp [lastS]
    rw [← e]
    exact ih
theorem isS_iff {l : List Doc} : isS l = true ↔ l.length ≤ 65536 ∧ isR 0 l = true := by
  unfold isS
  rw [Bool.and_eq_true, decide_eq_true_eq]
theorem isS_at {l : List Doc} (h : isS l = true) {k : Nat} (hk : k < l.length) : lastS l k < l[k].1 ∧ l[k].1 ≤ 1099511627776 ∧ checkE l[k].2 = 0 := by
  have := isR_at (isS_iff.1 h).2 k hk
  have e : (if k = 0 then 0 else lastS l k) = lastS l k := by
    cases k with
    | zero => simp [lastS]
    | succ k => simp
  rw [e] at this
  exact okS_iff.1 this
theorem lastS_pos {l : List Doc} (h : isS l = true) : ∀ {k : Nat}, k ≤ l.length → 0 ≤ lastS l k ∧ lastS l k ≤ 1099511627776
  | 0, _ => by simp [lastS]
  | k + 1, hk => by
    have h1 := lastS_pos h (k := k) (by omega)
    have h2 := isS_at h (k := k) (by omega)
    rw [lastS_next (by omega)]
    omega
theorem rises {l : List Doc} (h : isS l = true) {i : Nat} : ∀ {j : Nat} (hi : i < l.length) (hj : j < l.length), i < j → l[i].1 < l[j].1
  | 0, _, _, hij => by omega
  | j + 1, hi, hj, hij => by
    have h2 := isS_at h hj
    rw [lastS_next (by omega)] at h2
    by_cases e : i = j
    · subst e; exact h2.1
    · have := rises h (j := j) hi (by omega) (by omega)
      omega
theorem seq_unique {l : List Doc} (h : isS l = true) {i j : Nat} (hi : i < l.length) (hj : j < l.length) (e : l[i].1 = l[j].1) : i = j := by
  rcases Nat.lt_trichotomy i j with hl | hl | hl
  · have := rises h hi hj hl; omega
  · exact hl
  · have := rises h hj hi hl; omega

/-! ### .. as bytes -/
def oneB (l : List Doc) (k : Nat) : List UInt8 := bytesL ((l.getD k noDoc).1 - lastS l k - 1).toNat ++ bytesE (l.getD k noDoc).2
theorem oneB_at {l : List Doc} {k : Nat} (hk : k < l.length) : oneB l k = bytesL (l[k].1 - lastS l k - 1).toNat ++ bytesE l[k].2 := by
  unfold oneB
  simp [List.getD, hk]
/-- The docs' bytes from the i-th to less than the k-th. -/
def rangeB (l : List Doc) (i k : Nat) : List UInt8 := (List.range' i (k - i)).flatMap (oneB l)
theorem rangeB_self (l : List Doc) (i : Nat) : rangeB l i i = [] := by simp [rangeB]
theorem rangeB_next {l : List Doc} {i k : Nat} (h : i ≤ k) : rangeB l i (k + 1) = rangeB l i k ++ oneB l k := by
  unfold rangeB
  rw [show k + 1 - i = k - i + 1 by omega, List.range'_1_concat, List.flatMap_append, show i + (k - i) = k by omega]
  simp
theorem rangeB_cons {l : List Doc} {i k : Nat} (h : i < k) : rangeB l i k = oneB l i ++ rangeB l (i + 1) k := by
  unfold rangeB
  rw [show k - i = (k - (i + 1)) + 1 by omega, List.range'_succ, List.flatMap_cons]
theorem rangeB_add {l : List Doc} {i j : Nat} (h1 : i ≤ j) : ∀ {k : Nat}, j ≤ k → rangeB l i j ++ rangeB l j k = rangeB l i k
  | 0, h2 => by
    obtain rfl : j = 0 := by omega
    obtain rfl : i = 0 := by omega
    simp [rangeB]
  | k + 1, h2 => by
    by_cases e : j = k + 1
    · subst e; rw [rangeB_self, List.append_nil]
    · rw [rangeB_next (by omega), rangeB_next (by omega), ← List.append_assoc, rangeB_add h1 (by omega)]
/-- Where a block ends. -/
def endS (l : List Doc) (c : Nat) : Nat := min (16 * c + 16) l.length
def headB (l : List Doc) (c : Nat) : List UInt8 := bytesL (lastS l (endS l c)).toNat ++ bytesL (rangeB l (16 * c) (endS l c)).length
/-- What stands ahead of the blocks, of c blocks from the a-th on. -/
def headsB (l : List Doc) (a c : Nat) : List UInt8 := (List.range' a c).flatMap (headB l)
theorem headsB_zero (l : List Doc) (a : Nat) : headsB l a 0 = [] := by simp [headsB]
theorem headsB_next (l : List Doc) (a c : Nat) : headsB l a (c + 1) = headsB l a c ++ headB l (a + c) := by
  unfold headsB
  rw [List.range'_1_concat, List.flatMap_append]
  simp
theorem headsB_cons (l : List Doc) (a c : Nat) : headsB l a (c + 1) = headB l a ++ headsB l (a + 1) c := by
  unfold headsB
  rw [List.range'_succ, List.flatMap_cons]
def blocksN (n : Nat) : Nat := (n + 15) / 16
def encS (l : List Doc) : List UInt8 := bytesL l.length ++ (headsB l 0 (blocksN l.length) ++ rangeB l 0 l.length)
theorem oneB_len {l : List Doc} (h : isS l = true) {k : Nat} (hk : k < l.length) : (oneB l k).length ≤ 67000 ∧ 1 ≤ (oneB l k).length := by
  rw [oneB_at hk, List.length_append]
  obtain ⟨h1, h2, h3⟩ := isS_at h hk
  obtain ⟨h4, h5⟩ := checkE_ok.1 h3
  have b1 := bytesL_length (l[k].1 - lastS l k - 1).toNat
  have b2 := bytesE_len l[k].2
  have b3 := sizeF_of_ok h5
  omega
theorem rangeB_len {l : List Doc} (h : isS l = true) {i : Nat} : ∀ {k : Nat}, i ≤ k → k ≤ l.length → (rangeB l i k).length ≤ 67000 * (k - i) ∧ k - i ≤ (rangeB l i k).length
  | 0, h1, _ => by
    obtain rfl : i = 0 := by omega
    simp [rangeB]
  | k + 1, h1, h2 => by
    by_cases e : i = k + 1
    · subst e; rw [rangeB_self]; simp
    · have ih := rangeB_len h (i := i) (k := k) (by omega) (by omega)
      have b := oneB_len h (k := k) (by omega)
      rw [rangeB_next (by omega), List.length_append]
      omega

/-! ### .. and back -/
def skipH : Nat → List UInt8 → Option (List UInt8)
  | 0, l => some l
  | k + 1, l => match getN l 1099511627776 with
    | none => none
    | some (_, x) => match getN x 1099511627776 with
      | none => none
      | some (_, y) => skipH k y
/-- The next docs, behind those that were read. -/
def rdR : Nat → Int → List Doc → List UInt8 → Option (List Doc)
  | 0, _, acc, _ => some acc
  | f + 1, last, acc, l => match getN l 1099511627776 with
    | none => none
    | some (d, x) => match getE x with
      | none => none
      | some (e, y) => rdR f (last + 1 + d) (acc ++ [(last + 1 + d, e)]) y
def rdS (b : List UInt8) : Option (List Doc) := match getN b 65536 with
  | none => none
  | some (n, r) => if b.length < n then none else match skipH (blocksN n) r with
    | none => none
    | some y => rdR n 0 [] y
def decS (b : List UInt8) : Option (List Doc) := match rdS b with
  | none => none
  | some l => if isS l = true ∧ encS l = b then some l else none
/-- Times that an int holds. -/
def FitS (l : List Doc) : Prop := ∀ d ∈ l, FitE d.2
theorem skipH_put {l : List Doc} (h : isS l = true) : ∀ (f c : Nat) (r : List UInt8), 16 * (c + f) ≤ l.length + 15 → skipH f (headsB l c f ++ r) = some r
  | 0, c, r, _ => by rw [headsB_zero, skipH]; rfl
  | f + 1, c, r, hc => by
    have he : endS l c ≤ l.length := by unfold endS; omega
    have hs : 16 * c ≤ endS l c := by unfold endS; omega
    have hd : endS l c - 16 * c ≤ 16 := by unfold endS; omega
    have h1 := lastS_pos h he
    have h2 := rangeB_len h hs he
    rw [headsB_cons, skipH]
    unfold headB
    simp only [List.append_assoc]
    rw [getN_put (by omega) (by omega)]
    dsimp only
    rw [getN_put (by omega) (by omega)]
    dsimp only
    exact skipH_put h f (c + 1) r (by omega)
theorem rdR_put {l : List Doc} (h : isS l = true) (hf : FitS l) (r : List UInt8) : ∀ (f k : Nat), k + f = l.length → rdR f (lastS l k) (l.take k) (rangeB l k l.length ++ r) = some l
  | 0, k, hk => by
    rw [rdR, List.take_of_length_le (by omega)]
  | f + 1, k, hk => by
    have hk' : k < l.length := by omega
    obtain ⟨h1, h2, h3⟩ := isS_at h hk'
    have h0 := lastS_pos h (k := k) (by omega)
    rw [rdR, rangeB_cons hk', oneB_at hk']
    simp only [List.append_assoc]
    rw [getN_put (by omega) (by omega)]
    dsimp only
    rw [getE_put (hf _ (List.getElem_mem hk')) h3]
    dsimp only
    have e : lastS l k + 1 + ((l[k].1 - lastS l k - 1).toNat : Nat) = l[k].1 := by omega
    rw [e]
    have := rdR_put h hf r f (k + 1) (by omega)
    rw [lastS_next hk', List.take_succ_eq_append_getElem hk'] at this
    exact this
theorem encS_len {l : List Doc} (h : isS l = true) : l.length < (encS l).length := by
  unfold encS
  simp only [List.length_append]
  have h1 := bytesL_length l.length
  have h2 := (rangeB_len h (i := 0) (k := l.length) (by omega) (by omega)).2
  omega
theorem rdS_put {l : List Doc} (h : isS l = true) (hf : FitS l) (r : List UInt8) : rdS (encS l ++ r) = some l := by
  have hl := encS_len h
  have h1 := (isS_iff.1 h).1
  unfold rdS
  have e : encS l ++ r = bytesL l.length ++ (headsB l 0 (blocksN l.length) ++ (rangeB l 0 l.length ++ r)) := by
    unfold encS
    simp only [List.append_assoc]
  have hg : getN (encS l ++ r) 65536 = some (l.length, headsB l 0 (blocksN l.length) ++ (rangeB l 0 l.length ++ r)) := by
    rw [e, getN_put h1 (by omega)]
  rw [hg]
  dsimp only
  rw [if_neg (by rw [List.length_append]; omega), skipH_put h _ _ _ (by unfold blocksN; omega)]
  exact rdR_put h hf r l.length 0 (by omega)
theorem decS_put {l : List Doc} (h : isS l = true) (hf : FitS l) : decS (encS l) = some l := by
  have := rdS_put h hf []
  rw [List.append_nil] at this
  unfold decS
  rw [this]
  simp [h]
theorem rdR_fit : ∀ (f : Nat) (last : Int) (acc : List Doc) (b : List UInt8) {l : List Doc}, FitS acc → rdR f last acc b = some l → FitS l
  | 0, _, acc, b, l, ha, h => by
    rw [rdR] at h
    obtain rfl := Option.some.inj h
    exact ha
  | f + 1, last, acc, b, l, ha, h => by
    rw [rdR] at h
    split at h
    · cases h
    · split at h
      · cases h
      · rename_i e y hg
        refine rdR_fit f _ _ _ ?_ h
        intro d hd
        rcases List.mem_append.1 hd with hd | hd
        · exact ha d hd
        · obtain rfl := List.mem_singleton.1 hd
          exact (getE_back hg).2.1
theorem decS_back {b : List UInt8} {l : List Doc} (h : decS b = some l) : isS l = true ∧ FitS l ∧ encS l = b := by
  unfold decS at h
  split at h
  · cases h
  · rename_i m hr
    split at h
    · rename_i hc
      obtain rfl := Option.some.inj h
      refine ⟨hc.1, ?_, hc.2⟩
      unfold rdS at hr
      split at hr
      · cases hr
      · split at hr
        · cases hr
        · split at hr
          · cases hr
          · exact rdR_fit _ _ _ _ (fun d hd => by simp at hd) hr
    · cases h
/-- What is read of bytes is told by what is written. -/
theorem decS_iff {b : List UInt8} {l : List Doc} : decS b = some l ↔ isS l = true ∧ FitS l ∧ encS l = b := ⟨decS_back, fun ⟨h1, h2, h3⟩ => by rw [← h3]; exact decS_put h1 h2⟩
theorem decS_none {b : List UInt8} (h : ∀ l, isS l = true → FitS l → encS l ≠ b) : decS b = none := by
  cases hd : decS b with
  | none => rfl
  | some l => exact absurd (decS_back hd).2.2 (h l (decS_back hd).1 (decS_back hd).2.1)
/-- Two rows, of which one's bytes begin the other's, are the same. -/
theorem encS_begin {l m : List Doc} (hl : isS l = true) (fl : FitS l) (hm : isS m = true) (fm : FitS m) {r : List UInt8} (h : encS m ++ r = encS l) : m = l ∧ r = [] := by
  have h1 := rdS_put hm fm r
  have h2 := rdS_put hl fl []
  rw [List.append_nil] at h2
  rw [h, h2] at h1
  obtain rfl := Option.some.inj h1
  exact ⟨rfl, List.append_cancel_left (h.trans (List.append_nil _).symm)⟩
theorem encS_inj {l m : List Doc} (hl : isS l = true) (fl : FitS l) (hm : isS m = true) (fm : FitS m) (h : encS l = encS m) : l = m := (encS_begin hm fm hl fl (r := []) (by rw [List.append_nil, h])).1
theorem decS_part {l : List Doc} (h : isS l = true) (hf : FitS l) {k : Nat} (hk : k < (encS l).length) : decS ((encS l).take k) = none := by
  refine decS_none fun m hm fm e => ?_
  have := (encS_begin h hf hm fm (r := (encS l).drop k) (by rw [e, List.take_append_drop])).2
  rw [List.drop_eq_nil_iff] at this
  omega

/-! ### found -/
def findS (l : List Doc) (seq : Int) : Option Doc := l.find? fun d => decide (d.1 = seq)
theorem findS_at {l : List Doc} (h : isS l = true) {i : Nat} (hi : i < l.length) : findS l l[i].1 = some l[i] := by
  unfold findS
  cases hf : l.find? fun d => decide (d.1 = l[i].1) with
  | none =>
    rw [List.find?_eq_none] at hf
    exact absurd (hf l[i] (List.getElem_mem hi)) (by simp)
  | some d =>
    have h1 := List.find?_some hf
    obtain ⟨j, hj, rfl⟩ := List.getElem_of_mem (List.mem_of_find?_eq_some hf)
    obtain rfl := seq_unique h hj hi (by simpa using h1)
    rfl
theorem findS_some {l : List Doc} {seq : Int} {d : Doc} (h : findS l seq = some d) : ∃ (i : Nat) (hi : i < l.length), l[i] = d ∧ d.1 = seq := by
  have h1 := List.find?_some h
  obtain ⟨j, hj, e⟩ := List.getElem_of_mem (List.mem_of_find?_eq_some h)
  exact ⟨j, hj, e, by simpa using h1⟩
theorem findS_none {l : List Doc} {seq : Int} (h : ∀ (i : Nat) (hi : i < l.length), l[i].1 ≠ seq) : findS l seq = none := by
  unfold findS
  rw [List.find?_eq_none]
  intro d hd
  obtain ⟨i, hi, rfl⟩ := List.getElem_of_mem hd
  simpa using h i hi
/-- The step of a loop that looks from the front. -/
theorem findS_step {l : List Doc} {seq : Int} {k : Nat} (hk : k < l.length) : findS (l.drop k) seq = if l[k].1 = seq then some l[k] else findS (l.drop (k + 1)) seq := by
  unfold findS
  rw [List.drop_eq_getElem_cons hk, List.find?_cons]
  by_cases e : l[k].1 = seq <;> simp [e]
/-- The block in which a number stands, if it stands in the row: the first one whose last number is not below. -/
theorem findS_block {l : List Doc} (h : isS l = true) {seq : Int} {c : Nat} (hc : 16 * c < l.length) (hb : lastS l (16 * c) < seq) (ht : seq ≤ lastS l (endS l c)) : ∀ {i : Nat} (hi : i < l.length), l[i].1 = seq → 16 * c ≤ i ∧ i < endS l c := by
  intro i hi e
  have he : endS l c ≤ l.length := by unfold endS; omega
  have hs : 16 * c < endS l c := by unfold endS; omega
  constructor
  · by_cases hlt : 16 * c ≤ i
    · exact hlt
    · exfalso
      obtain ⟨j, hj⟩ : ∃ j, 16 * c = j + 1 := ⟨16 * c - 1, by omega⟩
      rw [hj, lastS_next (by omega)] at hb
      by_cases hij : i = j
      · subst hij; omega
      · have := rises h hi (by omega : j < l.length) (by omega)
        omega
  · by_cases hlt : i < endS l c
    · exact hlt
    · exfalso
      obtain ⟨j, hj⟩ : ∃ j, endS l c = j + 1 := ⟨endS l c - 1, by omega⟩
      rw [hj, lastS_next (by omega)] at ht
      have := rises h (by omega : j < l.length) hi (by omega)
      omega
end Go.Proofs.Ythgfaadlnffpcaa.SM
