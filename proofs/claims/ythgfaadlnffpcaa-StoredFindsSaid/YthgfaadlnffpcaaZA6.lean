/-
  What the texts of layer 7 say in plain lists: rows of runes, words of texts, words of words, names, terms. No conditions: no program is named here.
-/
import Derived.Test.YthgfaadlnffpcaaZA5
set_option linter.unusedVariables false
namespace Go.Proofs.Ythgfaadlnffpcaa.TK
open Go.Lib Go.Proofs.Ythgfaadlnffpcaa.UM

/-! ### the word of a row of runes -/
def lowB (r : Int) : List UInt8 := encodeRune (lowerZ r)
def cutGo : Nat → List Int → List UInt8
  | _, [] => []
  | m, r :: t => if (lowB r).length ≤ m then lowB r ++ cutGo (m - (lowB r).length) t else []
def cutW (row : List Int) : List UInt8 := cutGo 32 row
/-- The bytes of a row's lower runes. -/
def lowL (row : List Int) : List UInt8 := encL (row.map lowerZ)
theorem lowL_nil : lowL [] = [] := rfl
theorem lowL_cons (r : Int) (t : List Int) : lowL (r :: t) = lowB r ++ lowL t := rfl
theorem lowL_append (a b : List Int) : lowL (a ++ b) = lowL a ++ lowL b := by simp [lowL, encL_append]
theorem enc_len (r : Int) : 1 ≤ (encodeRune r).length ∧ (encodeRune r).length ≤ 4 := by
  have := encodeRuneZ_length r
  have h2 : (encodeRune r).length = (encodeRuneZ r).length := by simp [encodeRune]
  omega
theorem lowB_len (r : Int) : 1 ≤ (lowB r).length ∧ (lowB r).length ≤ 4 := enc_len _
theorem lowL_len (l : List Int) : l.length ≤ (lowL l).length ∧ (lowL l).length ≤ 4 * l.length := by
  induction l with
  | nil => simp [lowL, encL]
  | cons r t ih =>
    have := lowB_len r
    rw [lowL_cons, List.length_append, List.length_cons]
    omega

theorem cutGo_take : ∀ (l : List Int) (m n : Nat), n ≤ l.length → (lowL (l.take n)).length ≤ m → (n = l.length ∨ m < (lowL (l.take (n + 1))).length) → cutGo m l = lowL (l.take n)
  | [], m, n, h, _, _ => by simp [cutGo, lowL, encL]
  | r :: t, m, 0, h, h1, h2 => by
    have := lowB_len r
    rcases h2 with h2 | h2
    · simp at h2
    · simp [lowL_cons, lowL_nil] at h2
      rw [cutGo, if_neg (by omega)]
      simp [lowL_nil]
  | r :: t, m, n + 1, h, h1, h2 => by
    simp [lowL_cons] at h1 h2 h
    rw [cutGo, if_pos (by omega), List.take_succ_cons, lowL_cons, cutGo_take t (m - (lowB r).length) n h (by omega) (by omega)]
theorem cutW_take (l : List Int) (n : Nat) (h : n ≤ l.length) (h1 : (lowL (l.take n)).length ≤ 32) (h2 : n = l.length ∨ 32 < (lowL (l.take (n + 1))).length) : cutW l = lowL (l.take n) :=
  cutGo_take l 32 n h h1 h2
theorem cutGo_form : ∀ (l : List Int) (m : Nat), ∃ n, n ≤ l.length ∧ cutGo m l = lowL (l.take n) ∧ (lowL (l.take n)).length ≤ m ∧ (4 ≤ m → l ≠ [] → 1 ≤ n)
  | [], m => ⟨0, by simp, by simp [cutGo, lowL_nil], by simp [lowL_nil], fun _ h => absurd rfl h⟩
  | r :: t, m => by
    have h4 := lowB_len r
    by_cases hm : (lowB r).length ≤ m
    · obtain ⟨n, h0, h1, h2, _⟩ := cutGo_form t (m - (lowB r).length)
      refine ⟨n + 1, by simp; omega, ?_, ?_, fun _ _ => by omega⟩
      · rw [cutGo, if_pos hm, h1, List.take_succ_cons, lowL_cons]
      · rw [List.take_succ_cons, lowL_cons, List.length_append]; omega
    · refine ⟨0, by simp, ?_, by simp [lowL_nil], fun h => by omega⟩
      rw [cutGo, if_neg hm]; simp [lowL_nil]
theorem cutW_form (l : List Int) : ∃ n, n ≤ l.length ∧ cutW l = lowL (l.take n) ∧ (lowL (l.take n)).length ≤ 32 ∧ (l ≠ [] → 1 ≤ n) := by
  obtain ⟨n, h0, h1, h2, h3⟩ := cutGo_form l 32
  exact ⟨n, h0, h1, h2, h3 (by omega)⟩
theorem cutW_le (l : List Int) : (cutW l).length ≤ 32 := by
  obtain ⟨n, _, h1, h2, _⟩ := cutW_form l
  rw [h1]; exact h2
theorem cutGo_lower : ∀ (l : List Int) (m : Nat), cutGo m (l.map lowerZ) = cutGo m l
  | [], m => rfl
  | r :: t, m => by
    have e : lowB (lowerZ r) = lowB r := by unfold lowB; rw [lower_lower]
    rw [List.map_cons, cutGo, cutGo, e, cutGo_lower t]
theorem cutW_lower (l : List Int) : cutW (l.map lowerZ) = cutW l := cutGo_lower l 32

/-! ### rows of runes -/
def one (l : List Int) : List (List Int) := if l = [] then [] else [l]
def rowsAcc : List Int → List Int → List (List Int)
  | acc, [] => one acc
  | acc, r :: t => if wordZ r = true then rowsAcc (acc ++ [r]) t else one acc ++ rowsAcc [] t
def rowsL (l : List Int) : List (List Int) := rowsAcc [] l
def wordsR (l : List Int) : List (List UInt8) := (rowsL l).map cutW
def wordsB (b : List UInt8) : List (List UInt8) := wordsR (runesL b)

theorem one_nil : one [] = [] := rfl
theorem one_ne {l : List Int} (h : l ≠ []) : one l = [l] := by simp [one, h]
theorem rowsAcc_row : ∀ (p acc t : List Int), (∀ r ∈ p, wordZ r = true) → rowsAcc acc (p ++ t) = rowsAcc (acc ++ p) t
  | [], acc, t, _ => by simp
  | r :: p, acc, t, h => by
    rw [List.cons_append, rowsAcc, if_pos (h r (by simp)), rowsAcc_row p _ t (fun x hx => h x (by simp [hx])), List.append_assoc]; rfl
theorem rowsL_all {p : List Int} (h : ∀ r ∈ p, wordZ r = true) : rowsL p = one p := by
  have := rowsAcc_row p [] [] h
  rw [List.append_nil] at this
  rw [rowsL, this, List.nil_append]; rfl
theorem rowsL_part {p t : List Int} {r : Int} (h : ∀ r ∈ p, wordZ r = true) (hr : wordZ r = false) : rowsL (p ++ r :: t) = one p ++ rowsL t := by
  rw [rowsL, rowsAcc_row p [] _ h, List.nil_append, rowsAcc, if_neg (by simp [hr])]; rfl
theorem rowsAcc_good : ∀ (l acc : List Int), (∀ r ∈ acc, wordZ r = true) → ∀ p ∈ rowsAcc acc l, p ≠ [] ∧ ∀ r ∈ p, wordZ r = true
  | [], acc, h, p, hp => by
    unfold rowsAcc one at hp
    split at hp
    · simp at hp
    · simp at hp; subst hp; exact ⟨by assumption, h⟩
  | r :: t, acc, h, p, hp => by
    unfold rowsAcc at hp
    split at hp
    · rename_i hr
      exact rowsAcc_good t _ (fun x hx => by simp at hx; rcases hx with hx | hx; exact h x hx; subst hx; exact hr) p hp
    · rw [List.mem_append] at hp
      rcases hp with hp | hp
      · unfold one at hp
        split at hp
        · simp at hp
        · simp at hp; subst hp; exact ⟨by assumption, h⟩
      · exact rowsAcc_good t [] (by simp) p hp
theorem rowsL_good (l : List Int) : ∀ p ∈ rowsL l, p ≠ [] ∧ ∀ r ∈ p, wordZ r = true := rowsAcc_good l [] (by simp)
theorem rowsAcc_count : ∀ (l acc : List Int), (rowsAcc acc l).length ≤ acc.length + l.length
  | [], acc => by
    unfold rowsAcc one
    split
    · simp
    · rename_i h
      have := List.length_pos_iff.2 h
      simp; omega
  | r :: t, acc => by
    unfold rowsAcc
    split
    · have := rowsAcc_count t (acc ++ [r])
      simp at this
      simp; omega
    · have := rowsAcc_count t []
      have h1 : (one acc).length ≤ acc.length := by
        unfold one
        split
        · simp
        · rename_i h
          have := List.length_pos_iff.2 h
          simp; omega
      simp at this
      simp; omega
theorem wordsR_count (l : List Int) : (wordsR l).length ≤ l.length := by
  have := rowsAcc_count l []
  simp at this
  unfold wordsR rowsL
  rw [List.length_map]; exact this
theorem wordsB_count (b : List UInt8) : (wordsB b).length ≤ b.length := Nat.le_trans (wordsR_count _) (runesL_length b)
theorem wordZ_lower (r : Int) : wordZ (lowerZ r) = wordZ r := by
  unfold wordZ lowerZ
  repeat' split
  all_goals first | rfl | (congr 1; simp; omega)
theorem rowsAcc_lower : ∀ (l acc : List Int), rowsAcc (acc.map lowerZ) (l.map lowerZ) = (rowsAcc acc l).map (List.map lowerZ)
  | [], acc => by
    unfold rowsAcc one
    by_cases h : acc = []
    · simp [h]
    · simp [h]
  | r :: t, acc => by
    rw [List.map_cons]
    unfold rowsAcc
    rw [wordZ_lower]
    split
    · have := rowsAcc_lower t (acc ++ [r])
      rw [List.map_append] at this
      exact this
    · have h0 := rowsAcc_lower t []
      rw [List.map_nil] at h0
      rw [List.map_append, h0]
      congr 1
      unfold one
      by_cases h : acc = []
      · simp [h]
      · simp [h]
theorem wordsR_lower (l : List Int) : wordsR (l.map lowerZ) = wordsR l := by
  have := rowsAcc_lower l []
  rw [List.map_nil] at this
  unfold wordsR rowsL
  rw [this, List.map_map]
  exact List.map_congr_left fun p _ => cutW_lower p
theorem wordsB_fold (b : List UInt8) : wordsB (foldL b) = wordsB b := by
  unfold wordsB
  rw [runes_fold, wordsR_lower]

/-! ### words of words -/
theorem norm_word {r : Int} (h : wordZ r = true) : norm r = r := by
  unfold wordZ at h
  simp at h
  exact norm_of_good r (by omega)
/-- A word's runes. -/
def Good (zs : List Int) : Prop := zs ≠ [] ∧ (∀ z ∈ zs, wordZ z = true) ∧ (∀ z ∈ zs, lowerZ z = z) ∧ (encL zs).length ≤ 32
theorem Good.norm {zs : List Int} (h : Good zs) : zs.map norm = zs := by
  have : ∀ z ∈ zs, UM.norm z = z := fun z hz => norm_word (h.2.1 z hz)
  rw [List.map_congr_left this, List.map_id'']
  intro; rfl
theorem Good.low {zs : List Int} (h : Good zs) : lowL zs = encL zs := by
  have : ∀ z ∈ zs, lowerZ z = id z := h.2.2.1
  unfold lowL
  rw [List.map_congr_left this, List.map_id]
theorem Good.cut {zs : List Int} (h : Good zs) : cutW zs = encL zs := by
  rw [cutW_take zs zs.length (Nat.le_refl _) (by rw [List.take_length, h.low]; exact h.2.2.2) (.inl rfl), List.take_length, h.low]
theorem Good.self {zs : List Int} (h : Good zs) : wordsB (encL zs) = [encL zs] := by
  unfold wordsB wordsR
  rw [runes_enc, h.norm, rowsL_all h.2.1, one_ne h.1, List.map_singleton, h.cut]
theorem good_of_row {p : List Int} (hne : p ≠ []) (h : ∀ r ∈ p, wordZ r = true) : ∃ zs, Good zs ∧ cutW p = encL zs := by
  obtain ⟨n, hn, h1, h2, h3⟩ := cutW_form p
  refine ⟨(p.take n).map lowerZ, ⟨?_, ?_, ?_, h2⟩, h1⟩
  · have := h3 hne
    have hp := List.length_pos_iff.2 hne
    intro h0
    have h9 := congrArg List.length h0
    rw [List.length_map, List.length_take, List.length_nil] at h9
    omega
  · intro z hz
    obtain ⟨r, hr, rfl⟩ := List.mem_map.1 hz
    rw [wordZ_lower]
    exact h r (List.mem_of_mem_take hr)
  · intro z hz
    obtain ⟨r, hr, rfl⟩ := List.mem_map.1 hz
    exact lower_lower r
theorem words_good (l : List Int) : ∃ Z : List (List Int), wordsR l = Z.map encL ∧ ∀ zs ∈ Z, Good zs := by
  unfold wordsR
  have hg := rowsL_good l
  generalize rowsL l = P at hg
  induction P with
  | nil => exact ⟨[], rfl, by simp⟩
  | cons p P ih =>
    obtain ⟨Z, h1, h2⟩ := ih (fun q hq => hg q (by simp [hq]))
    obtain ⟨zs, hz, e⟩ := good_of_row (hg p (by simp)).1 (hg p (by simp)).2
    exact ⟨zs :: Z, by rw [List.map_cons, List.map_cons, h1, e], fun q hq => by simp at hq; rcases hq with rfl | hq; exact hz; exact h2 q hq⟩
theorem word_self (l : List UInt8) : ∀ x ∈ wordsB l, wordsB x = [x] ∧ x.length ≤ 32 := by
  intro x hx
  obtain ⟨Z, h1, h2⟩ := words_good (runesL l)
  unfold wordsB at hx
  rw [h1] at hx
  obtain ⟨zs, hz, rfl⟩ := List.mem_map.1 hx
  exact ⟨(h2 zs hz).self, (h2 zs hz).2.2.2⟩
/-- Words, a blank behind each. -/
def allL (ws : List (List UInt8)) : List UInt8 := ws.flatMap fun x => x ++ [32]
theorem allL_nil : allL [] = [] := rfl
theorem allL_append (a b : List (List UInt8)) : allL (a ++ b) = allL a ++ allL b := by simp [allL]
theorem allL_enc (Z : List (List Int)) : allL (Z.map encL) = encL (Z.flatMap fun z => z ++ [32]) := by
  induction Z with
  | nil => rfl
  | cons z Z ih =>
    have e : encL [32] = [32] := by decide
    rw [List.map_cons, List.flatMap_cons, encL_append, encL_append, e, ← ih]
    rfl
theorem allL_words (l : List UInt8) : wordsB (allL (wordsB l)) = wordsB l := by
  obtain ⟨Z, h1, h2⟩ := words_good (runesL l)
  unfold wordsB
  rw [h1, allL_enc, runes_enc]
  clear h1
  have e : (Z.flatMap fun z => z ++ [32]).map norm = Z.flatMap fun z => z ++ [32] := by
    induction Z with
    | nil => rfl
    | cons z Z ih =>
      rw [List.flatMap_cons, List.map_append, List.map_append, (h2 z (by simp)).norm, ih (fun q hq => h2 q (by simp [hq]))]
      rfl
  rw [e]
  clear e
  induction Z with
  | nil => rfl
  | cons z Z ih =>
    have hz := h2 z (by simp)
    have : wordsR (List.flatMap (fun z => z ++ [32]) (z :: Z)) = cutW z :: wordsR (Z.flatMap fun z => z ++ [32]) := by
      unfold wordsR
      rw [List.flatMap_cons, List.append_assoc, List.singleton_append, rowsL_part hz.2.1 (by decide), one_ne hz.1]
      rfl
    rw [this, ih (fun q hq => h2 q (by simp [hq])), hz.cut]
    rfl
theorem allL_len (ws : List (List UInt8)) (h : ∀ x ∈ ws, x.length ≤ 32) : (allL ws).length ≤ 33 * ws.length := by
  induction ws with
  | nil => simp [allL]
  | cons x t ih =>
    have h1 := h x (by simp)
    have h2 := ih (fun y hy => h y (by simp [hy]))
    have e : allL (x :: t) = (x ++ [32]) ++ allL t := rfl
    rw [e, List.length_append, List.length_append, List.length_cons]
    simp
    omega

/-! ### names and terms -/
def nameByte (c : UInt8) : Bool := decide ((97 ≤ c.toNat ∧ c.toNat ≤ 122) ∨ (48 ≤ c.toNat ∧ c.toNat ≤ 57) ∨ c.toNat = 95)
def nameL (l : List UInt8) : Bool := decide (1 ≤ l.length ∧ l.length ≤ 32) && l.all nameByte
def wordL (l : List UInt8) : Bool := decide (wordsB l = [l])
def nameRune (r : Int) : Bool := decide ((97 ≤ r ∧ r ≤ 122) ∨ (48 ≤ r ∧ r ≤ 57) ∨ r = 95)
theorem wordL_le {l : List UInt8} (h : wordL l = true) : l.length ≤ 32 := by
  have e : wordsB l = [l] := of_decide_eq_true h
  exact (word_self l l (by rw [e]; simp)).2
end Go.Proofs.Ythgfaadlnffpcaa.TK
