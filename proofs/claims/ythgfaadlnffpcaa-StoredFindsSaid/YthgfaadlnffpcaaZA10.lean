/-
  Dictionaries by definition: which entries may be, their bytes in blocks, there and back. No program; no condition.
-/
import Derived.Test.YthgfaadlnffpcaaZA9
set_option linter.unusedVariables false
namespace Go.Proofs.Ythgfaadlnffpcaa.DM
open Go Go.Proofs.Ythgfaadlnffpcaa.VM
open Go.Proofs.Ythgfaadlnffpcaa.EM (lessL lessL_irr lessL_trans lessL_total lessL_ne getT_back)

/-- A term, where it stands, how long it is there, how many. -/
abbrev Ent := List UInt8 × (Int × (Int × Int))
def placeOk (z : Int) : Bool := decide (0 ≤ z) && decide (z ≤ 67108864)
def okX (x : Ent) : Bool := decide (1 ≤ x.1.length) && decide (x.1.length ≤ 65) && placeOk x.2.1 && placeOk x.2.2.1 && placeOk x.2.2.2
theorem placeOk_iff {z : Int} : placeOk z = true ↔ 0 ≤ z ∧ z ≤ 67108864 := by simp [placeOk]
theorem okX_iff {x : Ent} : okX x = true ↔ (1 ≤ x.1.length ∧ x.1.length ≤ 65) ∧ (0 ≤ x.2.1 ∧ x.2.1 ≤ 67108864) ∧ (0 ≤ x.2.2.1 ∧ x.2.2.1 ≤ 67108864) ∧ (0 ≤ x.2.2.2 ∧ x.2.2.2 ≤ 67108864) := by
  unfold okX
  simp only [Bool.and_eq_true, decide_eq_true_eq, placeOk_iff]
  constructor
  · rintro ⟨⟨⟨⟨h1, h2⟩, h3⟩, h4⟩, h5⟩; exact ⟨⟨h1, h2⟩, h3, h4, h5⟩
  · rintro ⟨⟨h1, h2⟩, h3, h4, h5⟩; exact ⟨⟨⟨⟨h1, h2⟩, h3⟩, h4⟩, h5⟩
/-- Above the one ahead, if there is one. -/
def riseO (p : Option (List UInt8)) (t : List UInt8) : Bool := match p with
  | none => true
  | some q => lessL q t
/-- Entries that may be, and rise, behind the one ahead. -/
def areR : Option (List UInt8) → List Ent → Bool
  | _, [] => true
  | p, x :: r => okX x && riseO p x.1 && areR (some x.1) r
theorem areR_cons (p : Option (List UInt8)) (x : Ent) (r : List Ent) : areR p (x :: r) = (okX x && riseO p x.1 && areR (some x.1) r) := by cases p <;> rfl
def areD (l : List Ent) : Bool := decide (l.length ≤ 262144) && areR none l
theorem areR_next {l : List Ent} {p : Option (List UInt8)} {k : Nat} (hk : k < l.length) (h : areR p l = true) : okX l[k] = true ∧ (∀ h0 : 0 < k, lessL (l[k - 1]'(by omega)).1 l[k].1 = true) := by
  induction l generalizing p k with
  | nil => simp at hk
  | cons x r ih =>
    rw [areR_cons, Bool.and_eq_true, Bool.and_eq_true] at h
    match k, hk with
    | 0, _ => exact ⟨h.1.1, fun h0 => by omega⟩
    | k + 1, hk =>
      have hk' : k < r.length := by simpa using hk
      obtain ⟨h1, h2⟩ := ih hk' h.2
      refine ⟨h1, fun _ => ?_⟩
      match k, hk' with
      | 0, hk' =>
        obtain ⟨y, r', rfl⟩ : ∃ y r', r = y :: r' := by cases r with
          | nil => simp at hk'
          | cons y r' => exact ⟨y, r', rfl⟩
        have h3 := h.2
        rw [areR_cons, Bool.and_eq_true, Bool.and_eq_true] at h3
        exact h3.1.2
      | k + 1, hk' => exact h2 (by omega)

/-! ### shared beginnings -/
def sharedL : List UInt8 → List UInt8 → Nat
  | a :: x, b :: y => if a = b then sharedL x y + 1 else 0
  | _, _ => 0
theorem sharedL_le : ∀ x y, sharedL x y ≤ x.length ∧ sharedL x y ≤ y.length
  | [], _ => by simp [sharedL]
  | _ :: _, [] => by simp [sharedL]
  | a :: x, b :: y => by
    rw [sharedL]
    have := sharedL_le x y
    split <;> simp <;> omega
theorem sharedL_take : ∀ x y : List UInt8, x.take (sharedL x y) = y.take (sharedL x y)
  | [], _ => by simp [sharedL]
  | _ :: _, [] => by simp [sharedL]
  | a :: x, b :: y => by
    rw [sharedL]
    split
    · rename_i h; subst h; simp [sharedL_take x y]
    · rfl
/-- .. as a loop over both tells it. -/
theorem sharedL_at : ∀ {x y : List UInt8} {k : Nat}, k ≤ x.length → k ≤ y.length → (∀ i, i < k → x[i]? = y[i]?) → (k < x.length → k < y.length → x[k]? ≠ y[k]?) → sharedL x y = k
  | [], _, k, h, _, _, _ => by have : k = 0 := (by simpa using h); subst this; simp [sharedL]
  | _ :: _, [], k, _, h, _, _ => by have : k = 0 := (by simpa using h); subst this; simp [sharedL]
  | a :: x, b :: y, 0, _, _, _, h => by
    have := h (by simp) (by simp)
    rw [sharedL, if_neg (fun e => this (by simp [e]))]
  | a :: x, b :: y, k + 1, h1, h2, h3, h4 => by
    have h0 := h3 0 (by omega)
    have e : a = b := by simpa using h0
    rw [sharedL, if_pos e, sharedL_at (k := k) (by simpa using h1) (by simpa using h2) (fun i hi => by simpa using h3 (i + 1) (by omega)) (fun g1 g2 => by simpa using h4 (by simpa using g1) (by simpa using g2))]

/-! ### bytes -/
def entB (ahead : List UInt8) (x : Ent) : List UInt8 := bytesL (sharedL ahead x.1) ++ (textL (x.1.drop (sharedL ahead x.1)) ++ (bytesL x.2.1.toNat ++ (bytesL x.2.2.1.toNat ++ bytesL x.2.2.2.toNat)))
def blockB : List UInt8 → List Ent → List UInt8
  | _, [] => []
  | ahead, x :: r => entB ahead x ++ blockB x.1 r
theorem blockB_snoc : ∀ (ahead : List UInt8) (l : List Ent) (x : Ent), blockB ahead (l ++ [x]) = blockB ahead l ++ entB ((l.getLast?.map (·.1)).getD ahead) x
  | ahead, [], x => by simp [blockB]
  | ahead, y :: l, x => by
    rw [List.cons_append, blockB, blockB, blockB_snoc y.1 l x, List.append_assoc]
    cases l <;> simp [List.getLast?_cons]
def chunk (l : List Ent) (j : Nat) : List Ent := (l.drop (16 * j)).take 16
def chunkB (l : List Ent) (j : Nat) : List UInt8 := bytesL (blockB [] (chunk l j)).length ++ blockB [] (chunk l j)
def chunksN (l : List Ent) : Nat := (l.length + 15) / 16
def chunksB (l : List Ent) (j : Nat) : List UInt8 := ((List.range (chunksN l)).drop j).flatMap (chunkB l)
theorem chunksB_next {l : List Ent} {j : Nat} (h : j < chunksN l) : chunksB l j = chunkB l j ++ chunksB l (j + 1) := by
  unfold chunksB
  rw [List.drop_eq_getElem_cons (by simpa using h), List.flatMap_cons]
  simp
theorem chunksB_end {l : List Ent} {j : Nat} (h : chunksN l ≤ j) : chunksB l j = [] := by
  unfold chunksB
  rw [List.drop_of_length_le (by simpa using h)]
  rfl
def encD (l : List Ent) : List UInt8 := bytesL l.length ++ chunksB l 0

/-! ### .. read -/
/-- A number of at most so much; what stands behind. -/
def getN (l : List UInt8) (most : Nat) : Option (Nat × List UInt8) := if (getL l).2.2 ≠ 0 ∨ most < (getL l).1 then none else some ((getL l).1, l.drop (getL l).2.1)
theorem getN_put {n most : Nat} (h : n ≤ most) (hn : n < 18446744073709551616) (r : List UInt8) : getN (bytesL n ++ r) most = some (n, r) := by
  unfold getN
  rw [getL_put n hn r]
  dsimp only
  rw [List.drop_left, if_neg (by simp; omega)]
def rdX (ahead : List UInt8) (l : List UInt8) : Option (Ent × List UInt8) :=
  match getN l ahead.length with
  | none => none
  | some (k, l1) =>
    if (getT l1 65).2.2 ≠ 0 then none
    else match getN (l1.drop (getT l1 65).2.1) 67108864 with
      | none => none
      | some (o, l2) => match getN l2 67108864 with
        | none => none
        | some (m, l3) => match getN l3 67108864 with
          | none => none
          | some (n, l4) => some ((ahead.take k ++ (getT l1 65).1, ((o : Int), ((m : Int), (n : Int)))), l4)
theorem rdX_put {ahead : List UInt8} {x : Ent} (h : okX x = true) (hl : ahead.length ≤ 65) (r : List UInt8) : rdX ahead (entB ahead x ++ r) = some (x, r) := by
  obtain ⟨⟨h1, h2⟩, h3, h4, h5⟩ := okX_iff.1 h
  have hs := sharedL_le ahead x.1
  unfold rdX entB
  simp only [List.append_assoc]
  rw [getN_put hs.1 (by omega)]
  dsimp only
  rw [getT_put (x.1.drop (sharedL ahead x.1)) (by rw [List.length_drop]; omega) 65 (by rw [List.length_drop]; omega)]
  dsimp only
  rw [if_neg (by simp), List.drop_left, getN_put (by omega) (by omega)]
  dsimp only
  rw [getN_put (by omega) (by omega)]
  dsimp only
  rw [getN_put (by omega) (by omega)]
  dsimp only
  rw [sharedL_take, List.take_append_drop]
  obtain ⟨t, o, m, n⟩ := x
  dsimp only at h3 h4 h5 ⊢
  rw [show ((o.toNat : Nat) : Int) = o by omega, show ((m.toNat : Nat) : Int) = m by omega, show ((n.toNat : Nat) : Int) = n by omega]
/-- The next entries, from the i-th on, behind those that were read. -/
def parseD : Nat → Nat → List UInt8 → List Ent → List UInt8 → Option (List Ent)
  | 0, _, _, acc, _ => some acc
  | f + 1, i, ahead, acc, l =>
    if i % 16 = 0 then
      match getN l 1073741824 with
      | none => none
      | some (_, l1) => match rdX [] l1 with
        | none => none
        | some (x, r) => parseD f (i + 1) x.1 (acc ++ [x]) r
    else match rdX ahead l with
      | none => none
      | some (x, r) => parseD f (i + 1) x.1 (acc ++ [x]) r
/-- The bytes from the i-th entry on. -/
def tailB (l : List Ent) (i : Nat) : List UInt8 :=
  if i % 16 = 0 then chunksB l (i / 16) else blockB ((l.getD (i - 1) ([], 0, 0, 0)).1) ((l.drop i).take (16 - i % 16)) ++ chunksB l (i / 16 + 1)
theorem blockB_take {l : List Ent} {i k : Nat} (hi : i < l.length) (hk : 0 < k) (ahead : List UInt8) : blockB ahead ((l.drop i).take k) = entB ahead l[i] ++ blockB l[i].1 ((l.drop (i + 1)).take (k - 1)) := by
  obtain ⟨k, rfl⟩ : ∃ j, k = j + 1 := ⟨k - 1, by omega⟩
  rw [List.drop_eq_getElem_cons hi, List.take_succ_cons, blockB]
  simp
theorem tailB_end (l : List Ent) : tailB l l.length = [] := by
  unfold tailB
  split
  · exact chunksB_end (by unfold chunksN; omega)
  · rw [List.drop_length, List.take_nil, blockB, chunksB_end (by unfold chunksN; omega)]
    rfl
theorem tail_rest {l : List Ent} {i : Nat} (hi : i < l.length) : blockB l[i].1 ((l.drop (i + 1)).take (15 - i % 16)) ++ chunksB l (i / 16 + 1) = tailB l (i + 1) := by
  unfold tailB
  by_cases h : (i + 1) % 16 = 0
  · rw [if_pos h]
    have e : 15 - i % 16 = 0 := by omega
    rw [e, List.take_zero, blockB, List.nil_append]
    congr 1
    omega
  · rw [if_neg h]
    have e1 : (i + 1) / 16 = i / 16 := by omega
    have e2 : 16 - (i + 1) % 16 = 15 - i % 16 := by omega
    rw [e1, e2]
    congr 2
    simp [List.getD, hi]
theorem tailB_mid {l : List Ent} {i : Nat} (hi : i < l.length) (h : ¬ i % 16 = 0) : tailB l i = entB (l.getD (i - 1) ([], 0, 0, 0)).1 l[i] ++ tailB l (i + 1) := by
  conv => lhs; unfold tailB
  rw [if_neg h, blockB_take hi (by omega), List.append_assoc, show 16 - i % 16 - 1 = 15 - i % 16 by omega, tail_rest hi]
theorem tailB_head {l : List Ent} {i : Nat} (hi : i < l.length) (h : i % 16 = 0) : tailB l i = bytesL (blockB [] (chunk l (i / 16))).length ++ (entB [] l[i] ++ tailB l (i + 1)) := by
  conv => lhs; unfold tailB
  rw [if_pos h, chunksB_next (by unfold chunksN; omega)]
  unfold chunkB
  rw [List.append_assoc]
  congr 1
  unfold chunk
  rw [show 16 * (i / 16) = i by omega, blockB_take hi (by omega), List.append_assoc, ← tail_rest hi, show 16 - 1 = 15 - i % 16 by omega]
theorem entB_len {ahead : List UInt8} {x : Ent} (h : okX x = true) : (entB ahead x).length ≤ 115 := by
  obtain ⟨⟨h1, h2⟩, _⟩ := okX_iff.1 h
  unfold entB
  simp only [List.length_append]
  have b1 := bytesL_length (sharedL ahead x.1)
  have b2 := bytesL_length x.2.1.toNat
  have b3 := bytesL_length x.2.2.1.toNat
  have b4 := bytesL_length x.2.2.2.toNat
  have b5 := (EM.textL_len (x.1.drop (sharedL ahead x.1))).1
  rw [List.length_drop] at b5
  omega
theorem blockB_len : ∀ (l : List Ent) (ahead : List UInt8), (∀ x ∈ l, okX x = true) → (blockB ahead l).length ≤ 115 * l.length
  | [], _, _ => by simp [blockB]
  | x :: r, ahead, h => by
    rw [blockB, List.length_append, List.length_cons]
    have h1 := entB_len (ahead := ahead) (h x (by simp))
    have h2 := blockB_len r x.1 fun y hy => h y (by simp [hy])
    omega
theorem parseD_put {l : List Ent} (h : ∀ x ∈ l, okX x = true) : ∀ (f i : Nat) (ahead : List UInt8), i + f = l.length → (¬ i % 16 = 0 → ahead = (l.getD (i - 1) ([], 0, 0, 0)).1) → parseD f i ahead (l.take i) (tailB l i) = some l
  | 0, i, ahead, hf, _ => by
    rw [parseD, List.take_of_length_le (by omega)]
  | f + 1, i, ahead, hf, ha => by
    have hi : i < l.length := by omega
    have hx := h l[i] (List.getElem_mem hi)
    have hnext : ∀ a, a = l[i].1 → parseD f (i + 1) a (l.take i ++ [l[i]]) (tailB l (i + 1)) = some l := fun a e => by
      rw [← List.take_succ_eq_append_getElem hi]
      refine parseD_put h f (i + 1) a (by omega) fun _ => ?_
      rw [e]
      simp [List.getD, hi]
    rw [parseD]
    by_cases hm : i % 16 = 0
    · have hbl : (blockB [] (chunk l (i / 16))).length ≤ 1840 := by
        have := blockB_len (chunk l (i / 16)) [] fun x hx => h x (List.mem_of_mem_drop (List.mem_of_mem_take hx))
        have h16 : (chunk l (i / 16)).length ≤ 16 := by unfold chunk; rw [List.length_take]; omega
        omega
      rw [if_pos hm, tailB_head hi hm, getN_put (by omega) (by omega)]
      dsimp only
      rw [rdX_put hx (by simp)]
      exact hnext _ rfl
    · have hp : (l.getD (i - 1) ([], 0, 0, 0)).1.length ≤ 65 := by
        have hi2 : i - 1 < l.length := by omega
        have e : l.getD (i - 1) ([], 0, 0, 0) = l[i - 1] := by simp [List.getD, hi2]
        rw [e]
        exact (okX_iff.1 (h l[i - 1] (List.getElem_mem hi2))).1.2
      rw [if_neg hm, tailB_mid hi hm, ha hm, rdX_put hx hp]
      exact hnext _ rfl
def rdD (b : List UInt8) : Option (List Ent) := match getN b 262144 with
  | none => none
  | some (n, r) => parseD n 0 [] [] r
def decD (b : List UInt8) : Option (List Ent) := match rdD b with
  | none => none
  | some l => if areD l = true ∧ encD l = b then some l else none
theorem areR_all : ∀ {l : List Ent} {p : Option (List UInt8)}, areR p l = true → ∀ x ∈ l, okX x = true
  | [], _, _ => by simp
  | x :: r, p, h => by
    rw [areR_cons, Bool.and_eq_true, Bool.and_eq_true] at h
    intro y hy
    rcases List.mem_cons.1 hy with rfl | hy
    · exact h.1.1
    · exact areR_all h.2 y hy
theorem areD_all {l : List Ent} (h : areD l = true) : l.length ≤ 262144 ∧ ∀ x ∈ l, okX x = true := by
  unfold areD at h
  rw [Bool.and_eq_true, decide_eq_true_eq] at h
  exact ⟨h.1, areR_all h.2⟩
theorem rdD_put {l : List Ent} (h : areD l = true) : rdD (encD l) = some l := by
  obtain ⟨h1, h2⟩ := areD_all h
  unfold rdD encD
  rw [getN_put h1 (by omega)]
  have := parseD_put h2 l.length 0 [] (by omega) (fun hn => absurd rfl hn)
  simpa [tailB] using this
theorem decD_put {l : List Ent} (h : areD l = true) : decD (encD l) = some l := by
  unfold decD
  rw [rdD_put h]
  simp [h]
theorem decD_back {b : List UInt8} {l : List Ent} (h : decD b = some l) : areD l = true ∧ encD l = b := by
  unfold decD at h
  split at h
  · cases h
  · split at h
    · rename_i hc
      obtain rfl := Option.some.inj h
      exact hc
    · cases h
/-- What is read of bytes is told by what is written. -/
theorem decD_iff {b : List UInt8} {l : List Ent} : decD b = some l ↔ areD l = true ∧ encD l = b := ⟨decD_back, fun ⟨h1, h2⟩ => by rw [← h2]; exact decD_put h1⟩
theorem encD_inj {l m : List Ent} (hl : areD l = true) (hm : areD m = true) (h : encD l = encD m) : l = m := by
  have h1 := decD_put hl
  rw [h, decD_put hm] at h1
  exact (Option.some.inj h1).symm
theorem decD_none {b : List UInt8} (h : ∀ l, areD l = true → encD l ≠ b) : decD b = none := by
  cases hd : decD b with
  | none => rfl
  | some l => exact absurd (decD_back hd).2 (h l (decD_back hd).1)
end Go.Proofs.Ythgfaadlnffpcaa.DM
