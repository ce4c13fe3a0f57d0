/-
  What the texts of layer 1 say of bytes and runes, in plain lists: runes of bytes, bytes of runes, there and back, what is folded twice. No conditions: no program is named here. What the texts of layer 7 say in plain lists: rows of runes, words of texts, words of words, names, terms. No conditions: no program is named here. Events and batches by definition: which may be, how great they are, their bytes, there and back. No program; no condition. Events in memory: a row of fields, an event's two cells, a row of events. No condition.
-/
import Derived.Lib.ValidLaws
import Derived.Lib.MapLaws
import Derived.Lib.RuneBytes
import Derived.Lib.TrimUEq
import Derived.Test.YtgacfihidpijeaaZE3
set_option linter.unusedVariables false
namespace Go.Proofs.Ytgacfihidpijeaa.UM
open Go.Lib

/-! ### runes of bytes -/
def runesGo : Nat → List UInt8 → List Int
  | 0, _ => []
  | n + 1, l => if l = [] then [] else ((decodeL l).1 : Int) :: runesGo n (l.drop (decodeL l).2)
def runesL (l : List UInt8) : List Int := runesGo l.length l

theorem runesGo_fuel : ∀ (n m : Nat) (l : List UInt8), l.length ≤ n → l.length ≤ m → runesGo n l = runesGo m l
  | 0, 0, l, _, _ => rfl
  | 0, m + 1, l, h, _ => by
    have : l = [] := List.eq_nil_of_length_eq_zero (by omega)
    simp [runesGo, this]
  | n + 1, 0, l, _, h => by
    have : l = [] := List.eq_nil_of_length_eq_zero (by omega)
    simp [runesGo, this]
  | n + 1, m + 1, l, h, k => by
    unfold runesGo
    by_cases e : l = []
    · simp [e]
    · have hw := decodeL_width l
      have hl : 0 < l.length := List.length_pos_iff.2 e
      rw [if_neg e, if_neg e, runesGo_fuel n m _ (by rw [List.length_drop]; omega) (by rw [List.length_drop]; omega)]
theorem runesL_nil : runesL [] = [] := rfl
theorem runesL_step (l : List UInt8) (hne : l ≠ []) : runesL l = ((decodeL l).1 : Int) :: runesL (l.drop (decodeL l).2) := by
  have hl : 0 < l.length := List.length_pos_iff.2 hne
  have hw := decodeL_width l
  obtain ⟨n, hn⟩ : ∃ n, l.length = n + 1 := ⟨l.length - 1, by omega⟩
  unfold runesL
  rw [hn, runesGo, if_neg hne, runesGo_fuel n (l.drop (decodeL l).2).length _ (by rw [List.length_drop]; omega) (Nat.le_refl _)]
theorem runesL_length (l : List UInt8) : (runesL l).length ≤ l.length := by
  suffices h : ∀ n l, (runesGo n l).length ≤ n from h _ _
  intro n
  induction n with
  | zero => intro l; simp [runesGo]
  | succ n ih =>
    intro l
    unfold runesGo
    split
    · simp
    · have := ih (l.drop (decodeL l).2)
      simp
      omega

/-! ### bytes of runes -/
def norm (r : Int) : Int := if r < 0 ∨ (55296 ≤ r ∧ r ≤ 57343) ∨ 1114111 < r then 65533 else r
def encL (rs : List Int) : List UInt8 := rs.flatMap encodeRune
theorem encL_nil : encL [] = [] := rfl
theorem encL_cons (r : Int) (rs : List Int) : encL (r :: rs) = encodeRune r ++ encL rs := rfl
theorem encL_append (a b : List Int) : encL (a ++ b) = encL a ++ encL b := by simp [encL]
theorem encL_length (rs : List Int) : (encL rs).length ≤ 4 * rs.length := by
  induction rs with
  | nil => simp [encL]
  | cons r t ih =>
    have := (encodeRuneZ_length r).2
    have h2 : (encodeRune r).length = (encodeRuneZ r).length := by simp [encodeRune]
    rw [encL_cons, List.length_append, List.length_cons]
    omega

theorem norm_norm (r : Int) : norm (norm r) = norm r := by unfold norm; split <;> (try split) <;> omega
theorem norm_good (r : Int) : (0 ≤ norm r ∧ norm r < 55296) ∨ (57343 < norm r ∧ norm r ≤ 1114111) := by unfold norm; split <;> omega
theorem norm_of_good (r : Int) (h : (0 ≤ r ∧ r < 55296) ∨ (57343 < r ∧ r ≤ 1114111)) : norm r = r := by unfold norm; rw [if_neg (by omega)]
theorem encodeRuneZ_norm (r : Int) : encodeRuneZ (norm r) = encodeRuneZ r := by
  unfold norm
  split
  · rename_i h
    rw [encodeRuneZ_bad h]
    decide
  · rfl

/-- Reading back the first rune's bytes, whatever follows. -/
theorem decodeN_two (n b1 : Nat) (r b2 b3 : Nat) (h0 : 128 ≤ r) (h1 : r ≤ 2047) (hn : 2 ≤ n) : decodeN n (192 + r / 64) (128 + r % 64) b2 b3 = (r, 2) := by
  unfold decodeN
  rw [if_neg (by omega), if_pos (by omega), if_pos (by omega)]
  congr 1
  omega
theorem decodeN_three (n : Nat) (r b3 : Nat) (h : (2048 ≤ r ∧ r < 55296) ∨ (57343 < r ∧ r ≤ 65535)) (hn : 3 ≤ n) : decodeN n (224 + r / 4096) (128 + r / 64 % 64) (128 + r % 64) b3 = (r, 3) := by
  have e : (224 + r / 4096) % 16 * 4096 + (128 + r / 64 % 64) % 64 * 64 + (128 + r % 64) % 64 = r := by omega
  unfold decodeN
  rw [e, if_neg (by omega), if_neg (by omega), if_pos (by omega), if_pos (by omega)]
theorem decodeN_four (n : Nat) (r : Nat) (h0 : 65536 ≤ r) (h1 : r ≤ 1114111) (hn : 4 ≤ n) : decodeN n (240 + r / 262144) (128 + r / 4096 % 64) (128 + r / 64 % 64) (128 + r % 64) = (r, 4) := by
  have e : (240 + r / 262144) % 8 * 262144 + (128 + r / 4096 % 64) % 64 * 4096 + (128 + r / 64 % 64) % 64 * 64 + (128 + r % 64) % 64 = r := by omega
  unfold decodeN
  rw [e, if_neg (by omega), if_neg (by omega), if_neg (by omega), if_pos (by omega), if_pos (by omega)]

theorem byte_toNat (x : Int) (h0 : 0 ≤ x) (h1 : x < 256) : (x.toNat.toUInt8).toNat = x.toNat := by
  simp
  omega

theorem decode_enc (r : Int) (t : List UInt8) : decodeL (encodeRune r ++ t) = ((norm r).toNat, (encodeRune r).length) := by
  have key : ∀ q : Int, ((0 ≤ q ∧ q < 55296) ∨ (57343 < q ∧ q ≤ 1114111)) → decodeL (encodeRune q ++ t) = (q.toNat, (encodeRune q).length) := by
    intro q hq
    rw [decodeL_N]
    by_cases c1 : q ≤ 127
    · have e : encodeRune q = [q.toNat.toUInt8] := by unfold encodeRune; rw [encodeRuneZ_one (by omega) c1]; rfl
      rw [e]
      simp only [List.cons_append, List.nil_append, List.length_cons, List.length_nil, List.getD_cons_zero, List.getD_cons_succ]
      rw [byte_toNat q (by omega) (by omega), decodeN, if_pos (by omega)]
    · by_cases c2 : q ≤ 2047
      · have e : encodeRune q = [(192 + q / 64).toNat.toUInt8, (128 + q % 64).toNat.toUInt8] := by unfold encodeRune; rw [encodeRuneZ_two (by omega) c2]; rfl
        rw [e]
        simp only [List.cons_append, List.nil_append, List.length_cons, List.length_nil, List.getD_cons_zero, List.getD_cons_succ]
        rw [byte_toNat _ (by omega) (by omega), byte_toNat _ (by omega) (by omega)]
        rw [show (192 + q / 64).toNat = 192 + q.toNat / 64 by omega, show (128 + q % 64).toNat = 128 + q.toNat % 64 by omega]
        exact decodeN_two _ 0 _ _ _ (by omega) (by omega) (by omega)
      · by_cases c3 : q ≤ 65535
        · have e : encodeRune q = [(224 + q / 4096).toNat.toUInt8, (128 + q / 64 % 64).toNat.toUInt8, (128 + q % 64).toNat.toUInt8] := by unfold encodeRune; rw [encodeRuneZ_three (by omega)]; rfl
          rw [e]
          simp only [List.cons_append, List.nil_append, List.length_cons, List.length_nil, List.getD_cons_zero, List.getD_cons_succ]
          rw [byte_toNat _ (by omega) (by omega), byte_toNat _ (by omega) (by omega), byte_toNat _ (by omega) (by omega)]
          rw [show (224 + q / 4096).toNat = 224 + q.toNat / 4096 by omega, show (128 + q / 64 % 64).toNat = 128 + q.toNat / 64 % 64 by omega, show (128 + q % 64).toNat = 128 + q.toNat % 64 by omega]
          exact decodeN_three _ _ _ (by omega) (by omega)
        · have e : encodeRune q = [(240 + q / 262144).toNat.toUInt8, (128 + q / 4096 % 64).toNat.toUInt8, (128 + q / 64 % 64).toNat.toUInt8, (128 + q % 64).toNat.toUInt8] := by unfold encodeRune; rw [encodeRuneZ_four (by omega) (by omega)]; rfl
          rw [e]
          simp only [List.cons_append, List.nil_append, List.length_cons, List.length_nil, List.getD_cons_zero, List.getD_cons_succ]
          rw [byte_toNat _ (by omega) (by omega), byte_toNat _ (by omega) (by omega), byte_toNat _ (by omega) (by omega), byte_toNat _ (by omega) (by omega)]
          rw [show (240 + q / 262144).toNat = 240 + q.toNat / 262144 by omega, show (128 + q / 4096 % 64).toNat = 128 + q.toNat / 4096 % 64 by omega, show (128 + q / 64 % 64).toNat = 128 + q.toNat / 64 % 64 by omega, show (128 + q % 64).toNat = 128 + q.toNat % 64 by omega]
          exact decodeN_four _ _ (by omega) (by omega) (by omega)
  have e : encodeRune r = encodeRune (norm r) := by unfold encodeRune; rw [encodeRuneZ_norm]
  rw [e]
  exact key (norm r) (norm_good r)

theorem encodeRune_ne (r : Int) : encodeRune r ≠ [] := by
  have := (encodeRuneZ_length r).1
  intro h
  have h2 : (encodeRune r).length = (encodeRuneZ r).length := by simp [encodeRune]
  rw [h] at h2
  simp at h2
  omega

/-- THERE AND BACK. -/
theorem runes_enc (rs : List Int) : runesL (encL rs) = rs.map norm := by
  induction rs with
  | nil => rfl
  | cons r t ih =>
    rw [encL_cons, runesL_step _ (by simp [encodeRune_ne]), decode_enc]
    simp only [List.drop_left, ih, List.map_cons]
    congr 1
    have := norm_good r
    omega

theorem width_enc (r : Int) : (encodeRune r).length = 1 → (norm r).toNat ≠ 65533 := by
  intro h e
  have h2 : (encodeRune r).length = (encodeRuneZ r).length := by simp [encodeRune]
  have h3 := encodeRuneZ_norm r
  have h4 : norm r = 65533 := by have := norm_good r; omega
  rw [h4] at h3
  rw [← h3] at h2
  rw [h] at h2
  revert h2
  decide

/-- WHAT WAS ENCODED IS VALID. -/
theorem valid_enc (rs : List Int) : validD (encL rs) = true := by
  induction rs with
  | nil => rfl
  | cons r t ih =>
    rw [encL_cons, validD_step _ (by simp [encodeRune_ne]), decode_enc]
    rw [if_neg (fun h => width_enc r h.2 h.1)]
    simp only [List.drop_left, ih]

/-- A step of the reading: either wrong bytes (U+FFFD, one byte), or the rune's own bytes. -/
theorem decode_back (l : List UInt8) (hne : l ≠ []) : ((decodeL l).1 = 65533 ∧ (decodeL l).2 = 1) ∨ encodeRune ((decodeL l).1 : Int) = l.take (decodeL l).2 := by
  have hl : 0 < l.length := List.length_pos_iff.2 hne
  have e0 : ∀ k, k < l.length → l.take (k + 1) = l.take k ++ [l.getD k 0] := by
    intro k hk
    rw [List.take_succ_eq_append_getElem hk]
    simp [List.getD, hk]
  have by8 : ∀ (x : UInt8) (n : Nat), x.toNat = n → n.toUInt8 = x := by
    intro x n h; subst h; simp
  rw [decodeL_N]
  generalize h0 : l.getD 0 0 = x0
  generalize h1 : l.getD 1 0 = x1
  generalize h2 : l.getD 2 0 = x2
  generalize h3 : l.getD 3 0 = x3
  have y0 : x0.toNat < 256 := x0.toNat_lt
  have y1 : x1.toNat < 256 := x1.toNat_lt
  have y2 : x2.toNat < 256 := x2.toNat_lt
  have y3 : x3.toNat < 256 := x3.toNat_lt
  unfold decodeN
  by_cases c0 : x0.toNat < 128
  · right
    rw [if_pos c0]
    show encodeRune _ = _
    unfold encodeRune
    rw [encodeRuneZ_one (by omega) (by omega), e0 0 hl, h0]
    simp
  · rw [if_neg c0]
    by_cases c1 : x0.toNat / 32 = 6 ∧ (1 < l.length ∧ x1.toNat / 64 = 2)
    · rw [if_pos c1]
      by_cases d : x0.toNat % 32 * 64 + x1.toNat % 64 ≥ 128
      · right
        rw [if_pos d]
        show encodeRune _ = _
        unfold encodeRune
        rw [encodeRuneZ_two (by omega) (by omega), e0 1 (by omega), e0 0 hl, h0, h1]
        simp only [List.map_cons, List.map_nil, List.take_zero, List.nil_append, List.cons_append, List.cons.injEq, and_true]
        exact ⟨by8 _ _ (by omega), by8 _ _ (by omega)⟩
      · left
        rw [if_neg d]
        exact ⟨rfl, rfl⟩
    · rw [if_neg c1]
      by_cases c2 : x0.toNat / 16 = 14 ∧ (1 < l.length ∧ x1.toNat / 64 = 2) ∧ (2 < l.length ∧ x2.toNat / 64 = 2)
      · rw [if_pos c2]
        split
        · right
          show encodeRune _ = _
          unfold encodeRune
          rw [encodeRuneZ_three (by omega), e0 2 (by omega), e0 1 (by omega), e0 0 hl, h0, h1, h2]
          simp only [List.map_cons, List.map_nil, List.take_zero, List.nil_append, List.cons_append, List.cons.injEq, and_true]
          exact ⟨by8 _ _ (by omega), by8 _ _ (by omega), by8 _ _ (by omega)⟩
        · left
          exact ⟨rfl, rfl⟩
      · rw [if_neg c2]
        by_cases c3 : x0.toNat / 8 = 30 ∧ (1 < l.length ∧ x1.toNat / 64 = 2) ∧ (2 < l.length ∧ x2.toNat / 64 = 2) ∧ (3 < l.length ∧ x3.toNat / 64 = 2)
        · rw [if_pos c3]
          split
          · right
            show encodeRune _ = _
            unfold encodeRune
            rw [encodeRuneZ_four (by omega) (by omega), e0 3 (by omega), e0 2 (by omega), e0 1 (by omega), e0 0 hl, h0, h1, h2, h3]
            simp only [List.map_cons, List.map_nil, List.take_zero, List.nil_append, List.cons_append, List.cons.injEq, and_true]
            exact ⟨by8 _ _ (by omega), by8 _ _ (by omega), by8 _ _ (by omega), by8 _ _ (by omega)⟩
          · left
            exact ⟨rfl, rfl⟩
        · rw [if_neg c3]
          left
          exact ⟨rfl, rfl⟩

theorem encL_runes_longer (l : List UInt8) : l.length ≤ (encL (runesL l)).length := by
  suffices h : ∀ n (l : List UInt8), l.length ≤ n → l.length ≤ (encL (runesL l)).length from h _ l (Nat.le_refl _)
  intro n
  induction n with
  | zero => intro l hl; omega
  | succ n ih =>
    intro l hl
    by_cases e : l = []
    · subst e; simp
    · have hw := decodeL_width l
      have hp : 0 < l.length := List.length_pos_iff.2 e
      have hle := decodeL_le l e
      rw [runesL_step l e, encL_cons, List.length_append]
      have hr := ih (l.drop (decodeL l).2) (by rw [List.length_drop]; omega)
      rw [List.length_drop] at hr
      rcases decode_back l e with ⟨h1, h2⟩ | h
      · have : 1 ≤ (encodeRune ((decodeL l).1 : Int)).length := List.length_pos_iff.2 (encodeRune_ne _)
        omega
      · rw [h, List.length_take]
        omega

/-- VALID: what was read, encoded, is the text. -/
theorem valid_iff (l : List UInt8) : validD l = decide (encL (runesL l) = l) := by
  suffices h : ∀ n (l : List UInt8), l.length ≤ n → validD l = decide (encL (runesL l) = l) from h _ l (Nat.le_refl _)
  intro n
  induction n with
  | zero =>
    intro l hl
    have : l = [] := List.eq_nil_of_length_eq_zero (by omega)
    subst this
    rfl
  | succ n ih =>
    intro l hl
    by_cases e : l = []
    · subst e; rfl
    · have hw := decodeL_width l
      have hp : 0 < l.length := List.length_pos_iff.2 e
      have hle := decodeL_le l e
      rw [validD_step l e, runesL_step l e, encL_cons]
      by_cases hbad : (decodeL l).1 = 65533 ∧ (decodeL l).2 = 1
      · rw [if_pos hbad]
        symm
        rw [decide_eq_false_iff_not]
        intro h
        have hlen := congrArg List.length h
        rw [List.length_append] at hlen
        have hr := encL_runes_longer (l.drop (decodeL l).2)
        rw [List.length_drop] at hr
        have h3 : (encodeRune ((decodeL l).1 : Int)).length = 3 := by rw [hbad.1]; decide
        omega
      · rw [if_neg hbad]
        rcases decode_back l e with h | h
        · exact absurd h hbad
        · rw [h, ih _ (by rw [List.length_drop]; omega)]
          congr 1
          apply propext
          constructor
          · intro k
            rw [k]
            exact List.take_append_drop _ _
          · intro k
            have hlen : (l.take (decodeL l).2).length = (decodeL l).2 := by rw [List.length_take]; omega
            have h5 := congrArg (List.drop (decodeL l).2) k
            rwa [List.drop_left' hlen] at h5

/-! ### each rune that was read has bytes of its own -/
theorem decode_good (l : List UInt8) (hne : l ≠ []) : norm ((decodeL l).1 : Int) = ((decodeL l).1 : Int) := by
  rcases decode_back l hne with h | h
  · rw [h.1]; decide
  · have h1 := decode_enc ((decodeL l).1 : Int) (l.drop (decodeL l).2)
    rw [h, List.take_append_drop] at h1
    have h2 := congrArg Prod.fst h1
    have := norm_good ((decodeL l).1 : Int)
    simp only at h2
    omega
theorem runes_good (l : List UInt8) : ∀ r ∈ runesL l, norm r = r := by
  suffices h : ∀ n (l : List UInt8), l.length ≤ n → ∀ r ∈ runesL l, norm r = r from h _ l (Nat.le_refl _)
  intro n
  induction n with
  | zero =>
    intro l hl r hr
    have : l = [] := List.eq_nil_of_length_eq_zero (by omega)
    subst this
    cases hr
  | succ n ih =>
    intro l hl r hr
    by_cases e : l = []
    · subst e; cases hr
    · have hw := decodeL_width l
      have hp : 0 < l.length := List.length_pos_iff.2 e
      rw [runesL_step l e] at hr
      rcases List.mem_cons.1 hr with rfl | hr
      · exact decode_good l e
      · exact ih _ (by rw [List.length_drop]; omega) r hr

/-! ### lower case, words -/
def lowerZ (r : Int) : Int :=
  if (65 ≤ r ∧ r ≤ 90) ∨ (192 ≤ r ∧ r ≤ 222 ∧ r ≠ 215) ∨ (913 ≤ r ∧ r ≤ 939 ∧ r ≠ 930) ∨ (1040 ≤ r ∧ r ≤ 1071) then r + 32
  else if 1024 ≤ r ∧ r ≤ 1039 then r + 80 else r
def wordZ (r : Int) : Bool :=
  decide ((48 ≤ r ∧ r ≤ 57) ∨ (65 ≤ r ∧ r ≤ 90) ∨ (97 ≤ r ∧ r ≤ 122) ∨ (192 ≤ r ∧ r ≤ 255 ∧ r ≠ 215 ∧ r ≠ 247) ∨ (913 ≤ r ∧ r ≤ 974 ∧ r ≠ 930) ∨ (1024 ≤ r ∧ r ≤ 1119))
theorem lower_lower (r : Int) : lowerZ (lowerZ r) = lowerZ r := by unfold lowerZ; repeat' split; all_goals omega
theorem lower_good (r : Int) (h : norm r = r) : norm (lowerZ r) = lowerZ r := by
  have := norm_good r
  rw [h] at this
  apply norm_of_good
  unfold lowerZ
  repeat' split
  all_goals omega
def foldL (l : List UInt8) : List UInt8 := encL ((runesL l).map lowerZ)
theorem runes_fold (l : List UInt8) : runesL (foldL l) = (runesL l).map lowerZ := by
  unfold foldL
  rw [runes_enc, List.map_map]
  apply List.map_congr_left
  intro r hr
  exact lower_good r (runes_good l r hr)
theorem fold_fold (l : List UInt8) : foldL (foldL l) = foldL l := by
  show encL ((runesL (foldL l)).map lowerZ) = foldL l
  rw [runes_fold, List.map_map]
  unfold foldL
  congr 1
  apply List.map_congr_left
  intro r _
  exact lower_lower r
theorem fold_valid (l : List UInt8) : validD (foldL l) = true := valid_enc _
theorem fold_count (l : List UInt8) : (runesL (foldL l)).length = (runesL l).length := by rw [runes_fold, List.length_map]
end Go.Proofs.Ytgacfihidpijeaa.UM
set_option linter.unusedVariables false
namespace Go.Proofs.Ytgacfihidpijeaa.TK
open Go.Lib Go.Proofs.Ytgacfihidpijeaa.UM

/-! ### the word of a row of runes -/
def lowB (r : Int) : List UInt8 := encodeRune (lowerZ r)
def cutGo : Nat → List Int → List UInt8
  | _, [] => []
  | m, r :: t => if (lowB r).length ≤ m then lowB r ++ cutGo (m - (lowB r).length) t else []
def cutW (row : List Int) : List UInt8 := cutGo 32 row
/-- The bytes of a row's lower runes. -/
def lowL (row : List Int) : List UInt8 := encL (row.map lowerZ)
theorem lowL_nil : lowL [] = [] := rfl
theorem lowL_cons (r : Int) (t : List Int) : lowL (r :: t) = lowB r ++ lowL t := rfl
theorem lowL_append (a b : List Int) : lowL (a ++ b) = lowL a ++ lowL b := by simp [lowL, encL_append]
theorem enc_len (r : Int) : 1 ≤ (encodeRune r).length ∧ (encodeRune r).length ≤ 4 := by
  have := encodeRuneZ_length r
  have h2 : (encodeRune r).length = (encodeRuneZ r).length := by simp [encodeRune]
  omega
theorem lowB_len (r : Int) : 1 ≤ (lowB r).length ∧ (lowB r).length ≤ 4 := enc_len _
theorem lowL_len (l : List Int) : l.length ≤ (lowL l).length ∧ (lowL l).length ≤ 4 * l.length := by
  induction l with
  | nil => simp [lowL, encL]
  | cons r t ih =>
    have := lowB_len r
    rw [lowL_cons, List.length_append, List.length_cons]
    omega

theorem cutGo_take : ∀ (l : List Int) (m n : Nat), n ≤ l.length → (lowL (l.take n)).length ≤ m → (n = l.length ∨ m < (lowL (l.take (n + 1))).length) → cutGo m l = lowL (l.take n)
  | [], m, n, h, _, _ => by simp [cutGo, lowL, encL]
  | r :: t, m, 0, h, h1, h2 => by
    have := lowB_len r
    rcases h2 with h2 | h2
    · simp at h2
    · simp [lowL_cons, lowL_nil] at h2
      rw [cutGo, if_neg (by omega)]
      simp [lowL_nil]
  | r :: t, m, n + 1, h, h1, h2 => by
    simp [lowL_cons] at h1 h2 h
    rw [cutGo, if_pos (by omega), List.take_succ_cons, lowL_cons, cutGo_take t (m - (lowB r).length) n h (by omega) (by omega)]
theorem cutW_take (l : List Int) (n : Nat) (h : n ≤ l.length) (h1 : (lowL (l.take n)).length ≤ 32) (h2 : n = l.length ∨ 32 < (lowL (l.take (n + 1))).length) : cutW l = lowL (l.take n) :=
  cutGo_take l 32 n h h1 h2
theorem cutGo_form : ∀ (l : List Int) (m : Nat), ∃ n, n ≤ l.length ∧ cutGo m l = lowL (l.take n) ∧ (lowL (l.take n)).length ≤ m ∧ (4 ≤ m → l ≠ [] → 1 ≤ n)
  | [], m => ⟨0, by simp, by simp [cutGo, lowL_nil], by simp [lowL_nil], fun _ h => absurd rfl h⟩
  | r :: t, m => by
    have h4 := lowB_len r
    by_cases hm : (lowB r).length ≤ m
    · obtain ⟨n, h0, h1, h2, _⟩ := cutGo_form t (m - (lowB r).length)
      refine ⟨n + 1, by simp; omega, ?_, ?_, fun _ _ => by omega⟩
      · rw [cutGo, if_pos hm, h1, List.take_succ_cons, lowL_cons]
      · rw [List.take_succ_cons, lowL_cons, List.length_append]; omega
    · refine ⟨0, by simp, ?_, by simp [lowL_nil], fun h => by omega⟩
      rw [cutGo, if_neg hm]; simp [lowL_nil]
theorem cutW_form (l : List Int) : ∃ n, n ≤ l.length ∧ cutW l = lowL (l.take n) ∧ (lowL (l.take n)).length ≤ 32 ∧ (l ≠ [] → 1 ≤ n) := by
  obtain ⟨n, h0, h1, h2, h3⟩ := cutGo_form l 32
  exact ⟨n, h0, h1, h2, h3 (by omega)⟩
theorem cutW_le (l : List Int) : (cutW l).length ≤ 32 := by
  obtain ⟨n, _, h1, h2, _⟩ := cutW_form l
  rw [h1]; exact h2
theorem cutGo_lower : ∀ (l : List Int) (m : Nat), cutGo m (l.map lowerZ) = cutGo m l
  | [], m => rfl
  | r :: t, m => by
    have e : lowB (lowerZ r) = lowB r := by unfold lowB; rw [lower_lower]
    rw [List.map_cons, cutGo, cutGo, e, cutGo_lower t]
theorem cutW_lower (l : List Int) : cutW (l.map lowerZ) = cutW l := cutGo_lower l 32

/-! ### rows of runes -/
def one (l : List Int) : List (List Int) := if l = [] then [] else [l]
def rowsAcc : List Int → List Int → List (List Int)
  | acc, [] => one acc
  | acc, r :: t => if wordZ r = true then rowsAcc (acc ++ [r]) t else one acc ++ rowsAcc [] t
def rowsL (l : List Int) : List (List Int) := rowsAcc [] l
def wordsR (l : List Int) : List (List UInt8) := (rowsL l).map cutW
def wordsB (b : List UInt8) : List (List UInt8) := wordsR (runesL b)

theorem one_nil : one [] = [] := rfl
theorem one_ne {l : List Int} (h : l ≠ []) : one l = [l] := by simp [one, h]
theorem rowsAcc_row : ∀ (p acc t : List Int), (∀ r ∈ p, wordZ r = true) → rowsAcc acc (p ++ t) = rowsAcc (acc ++ p) t
  | [], acc, t, _ => by simp
  | r :: p, acc, t, h => by
    rw [List.cons_append, rowsAcc, if_pos (h r (by simp)), rowsAcc_row p _ t (fun x hx => h x (by simp [hx])), List.append_assoc]; rfl
theorem rowsL_all {p : List Int} (h : ∀ r ∈ p, wordZ r = true) : rowsL p = one p := by
  have := rowsAcc_row p [] [] h
  rw [List.append_nil] at this
  rw [rowsL, this, List.nil_append]; rfl
theorem rowsL_part {p t : List Int} {r : Int} (h : ∀ r ∈ p, wordZ r = true) (hr : wordZ r = false) : rowsL (p ++ r :: t) = one p ++ rowsL t := by
  rw [rowsL, rowsAcc_row p [] _ h, List.nil_append, rowsAcc, if_neg (by simp [hr])]; rfl
theorem rowsAcc_good : ∀ (l acc : List Int), (∀ r ∈ acc, wordZ r = true) → ∀ p ∈ rowsAcc acc l, p ≠ [] ∧ ∀ r ∈ p, wordZ r = true
  | [], acc, h, p, hp => by
    unfold rowsAcc one at hp
    split at hp
    · simp at hp
    · simp at hp; subst hp; exact ⟨by assumption, h⟩
  | r :: t, acc, h, p, hp => by
    unfold rowsAcc at hp
    split at hp
    · rename_i hr
      exact rowsAcc_good t _ (fun x hx => by simp at hx; rcases hx with hx | hx; exact h x hx; subst hx; exact hr) p hp
    · rw [List.mem_append] at hp
      rcases hp with hp | hp
      · unfold one at hp
        split at hp
        · simp at hp
        · simp at hp; subst hp; exact ⟨by assumption, h⟩
      · exact rowsAcc_good t [] (by simp) p hp
theorem rowsL_good (l : List Int) : ∀ p ∈ rowsL l, p ≠ [] ∧ ∀ r ∈ p, wordZ r = true := rowsAcc_good l [] (by simp)
theorem rowsAcc_count : ∀ (l acc : List Int), (rowsAcc acc l).length ≤ acc.length + l.length
  | [], acc => by
    unfold rowsAcc one
    split
    · simp
    · rename_i h
      have := List.length_pos_iff.2 h
      simp; omega
  | r :: t, acc => by
    unfold rowsAcc
    split
    · have := rowsAcc_count t (acc ++ [r])
      simp at this
      simp; omega
    · have := rowsAcc_count t []
      have h1 : (one acc).length ≤ acc.length := by
        unfold one
        split
        · simp
        · rename_i h
          have := List.length_pos_iff.2 h
          simp; omega
      simp at this
      simp; omega
theorem wordsR_count (l : List Int) : (wordsR l).length ≤ l.length := by
  have := rowsAcc_count l []
  simp at this
  unfold wordsR rowsL
  rw [List.length_map]; exact this
theorem wordsB_count (b : List UInt8) : (wordsB b).length ≤ b.length := Nat.le_trans (wordsR_count _) (runesL_length b)
theorem wordZ_lower (r : Int) : wordZ (lowerZ r) = wordZ r := by
  unfold wordZ lowerZ
  repeat' split
  all_goals first | rfl | (congr 1; simp; omega)
theorem rowsAcc_lower : ∀ (l acc : List Int), rowsAcc (acc.map lowerZ) (l.map lowerZ) = (rowsAcc acc l).map (List.map lowerZ)
  | [], acc => by
    unfold rowsAcc one
    by_cases h : acc = []
    · simp [h]
    · simp [h]
  | r :: t, acc => by
    rw [List.map_cons]
    unfold rowsAcc
    rw [wordZ_lower]
    split
    · have := rowsAcc_lower t (acc ++ [r])
      rw [List.map_append] at this
      exact this
    · have h0 := rowsAcc_lower t []
      rw [List.map_nil] at h0
      rw [List.map_append, h0]
      congr 1
      unfold one
      by_cases h : acc = []
      · simp [h]
      · simp [h]
theorem wordsR_lower (l : List Int) : wordsR (l.map lowerZ) = wordsR l := by
  have := rowsAcc_lower l []
  rw [List.map_nil] at this
  unfold wordsR rowsL
  rw [this, List.map_map]
  exact List.map_congr_left fun p _ => cutW_lower p
theorem wordsB_fold (b : List UInt8) : wordsB (foldL b) = wordsB b := by
  unfold wordsB
  rw [runes_fold, wordsR_lower]

/-! ### words of words -/
theorem norm_word {r : Int} (h : wordZ r = true) : norm r = r := by
  unfold wordZ at h
  simp at h
  exact norm_of_good r (by omega)
/-- A word's runes. -/
def Good (zs : List Int) : Prop := zs ≠ [] ∧ (∀ z ∈ zs, wordZ z = true) ∧ (∀ z ∈ zs, lowerZ z = z) ∧ (encL zs).length ≤ 32
theorem Good.norm {zs : List Int} (h : Good zs) : zs.map norm = zs := by
  have : ∀ z ∈ zs, UM.norm z = z := fun z hz => norm_word (h.2.1 z hz)
  rw [List.map_congr_left this, List.map_id'']
  intro; rfl
theorem Good.low {zs : List Int} (h : Good zs) : lowL zs = encL zs := by
  have : ∀ z ∈ zs, lowerZ z = id z := h.2.2.1
  unfold lowL
  rw [List.map_congr_left this, List.map_id]
theorem Good.cut {zs : List Int} (h : Good zs) : cutW zs = encL zs := by
  rw [cutW_take zs zs.length (Nat.le_refl _) (by rw [List.take_length, h.low]; exact h.2.2.2) (.inl rfl), List.take_length, h.low]
theorem Good.self {zs : List Int} (h : Good zs) : wordsB (encL zs) = [encL zs] := by
  unfold wordsB wordsR
  rw [runes_enc, h.norm, rowsL_all h.2.1, one_ne h.1, List.map_singleton, h.cut]
theorem good_of_row {p : List Int} (hne : p ≠ []) (h : ∀ r ∈ p, wordZ r = true) : ∃ zs, Good zs ∧ cutW p = encL zs := by
  obtain ⟨n, hn, h1, h2, h3⟩ := cutW_form p
  refine ⟨(p.take n).map lowerZ, ⟨?_, ?_, ?_, h2⟩, h1⟩
  · have := h3 hne
    have hp := List.length_pos_iff.2 hne
    intro h0
    have h9 := congrArg List.length h0
    rw [List.length_map, List.length_take, List.length_nil] at h9
    omega
  · intro z hz
    obtain ⟨r, hr, rfl⟩ := List.mem_map.1 hz
    rw [wordZ_lower]
    exact h r (List.mem_of_mem_take hr)
  · intro z hz
    obtain ⟨r, hr, rfl⟩ := List.mem_map.1 hz
    exact lower_lower r
theorem words_good (l : List Int) : ∃ Z : List (List Int), wordsR l = Z.map encL ∧ ∀ zs ∈ Z, Good zs := by
  unfold wordsR
  have hg := rowsL_good l
  generalize rowsL l = P at hg
  induction P with
  | nil => exact ⟨[], rfl, by simp⟩
  | cons p P ih =>
    obtain ⟨Z, h1, h2⟩ := ih (fun q hq => hg q (by simp [hq]))
    obtain ⟨zs, hz, e⟩ := good_of_row (hg p (by simp)).1 (hg p (by simp)).2
    exact ⟨zs :: Z, by rw [List.map_cons, List.map_cons, h1, e], fun q hq => by simp at hq; rcases hq with rfl | hq; exact hz; exact h2 q hq⟩
theorem word_self (l : List UInt8) : ∀ x ∈ wordsB l, wordsB x = [x] ∧ x.length ≤ 32 := by
  intro x hx
  obtain ⟨Z, h1, h2⟩ := words_good (runesL l)
  unfold wordsB at hx
  rw [h1] at hx
  obtain ⟨zs, hz, rfl⟩ := List.mem_map.1 hx
  exact ⟨(h2 zs hz).self, (h2 zs hz).2.2.2⟩
/-- Words, a blank behind each. -/
def allL (ws : List (List UInt8)) : List UInt8 := ws.flatMap fun x => x ++ [32]
theorem allL_nil : allL [] = [] := rfl
theorem allL_append (a b : List (List UInt8)) : allL (a ++ b) = allL a ++ allL b := by simp [allL]
theorem allL_enc (Z : List (List Int)) : allL (Z.map encL) = encL (Z.flatMap fun z => z ++ [32]) := by
  induction Z with
  | nil => rfl
  | cons z Z ih =>
    have e : encL [32] = [32] := by decide
    rw [List.map_cons, List.flatMap_cons, encL_append, encL_append, e, ← ih]
    rfl
theorem allL_words (l : List UInt8) : wordsB (allL (wordsB l)) = wordsB l := by
  obtain ⟨Z, h1, h2⟩ := words_good (runesL l)
  unfold wordsB
  rw [h1, allL_enc, runes_enc]
  clear h1
  have e : (Z.flatMap fun z => z ++ [32]).map norm = Z.flatMap fun z => z ++ [32] := by
    induction Z with
    | nil => rfl
    | cons z Z ih =>
      rw [List.flatMap_cons, List.map_append, List.map_append, (h2 z (by simp)).norm, ih (fun q hq => h2 q (by simp [hq]))]
      rfl
  rw [e]
  clear e
  induction Z with
  | nil => rfl
  | cons z Z ih =>
    have hz := h2 z (by simp)
    have : wordsR (List.flatMap (fun z => z ++ [32]) (z :: Z)) = cutW z :: wordsR (Z.flatMap fun z => z ++ [32]) := by
      unfold wordsR
      rw [List.flatMap_cons, List.append_assoc, List.singleton_append, rowsL_part hz.2.1 (by decide), one_ne hz.1]
      rfl
    rw [this, ih (fun q hq => h2 q (by simp [hq])), hz.cut]
    rfl
theorem allL_len (ws : List (List UInt8)) (h : ∀ x ∈ ws, x.length ≤ 32) : (allL ws).length ≤ 33 * ws.length := by
  induction ws with
  | nil => simp [allL]
  | cons x t ih =>
    have h1 := h x (by simp)
    have h2 := ih (fun y hy => h y (by simp [hy]))
    have e : allL (x :: t) = (x ++ [32]) ++ allL t := rfl
    rw [e, List.length_append, List.length_append, List.length_cons]
    simp
    omega

/-! ### names and terms -/
def nameByte (c : UInt8) : Bool := decide ((97 ≤ c.toNat ∧ c.toNat ≤ 122) ∨ (48 ≤ c.toNat ∧ c.toNat ≤ 57) ∨ c.toNat = 95)
def nameL (l : List UInt8) : Bool := decide (1 ≤ l.length ∧ l.length ≤ 32) && l.all nameByte
def wordL (l : List UInt8) : Bool := decide (wordsB l = [l])
def nameRune (r : Int) : Bool := decide ((97 ≤ r ∧ r ≤ 122) ∨ (48 ≤ r ∧ r ≤ 57) ∨ r = 95)
theorem wordL_le {l : List UInt8} (h : wordL l = true) : l.length ≤ 32 := by
  have e : wordsB l = [l] := of_decide_eq_true h
  exact (word_self l l (by rw [e]; simp)).2
end Go.Proofs.Ytgacfihidpijeaa.TK
set_option linter.unusedVariables false
namespace Go.Proofs.Ytgacfihidpijeaa.EM
open Go Go.Proofs.Ytgacfihidpijeaa.VM
open Go.Proofs.Ytgacfihidpijeaa.TK (nameL)

abbrev Fld := List UInt8 × List UInt8
abbrev Ev := Int × List Fld
abbrev Bat := Int × List Ev

/-! ### which may be -/
def checkF : List Fld → Int
  | [] => 0
  | f :: r => if nameL f.1 = false then 100 else if 4096 < f.2.length then 2 else checkF r
def checkE (e : Ev) : Int := if 16 < e.2.length then 3 else checkF e.2
theorem checkF_next {fs : List Fld} {k : Nat} (hk : k < fs.length) : checkF (fs.drop k) = if nameL fs[k].1 = false then 100 else if 4096 < fs[k].2.length then 2 else checkF (fs.drop (k + 1)) := by
  rw [List.drop_eq_getElem_cons hk, checkF]
theorem checkF_ok : ∀ {fs : List Fld}, checkF fs = 0 ↔ ∀ f ∈ fs, nameL f.1 = true ∧ f.2.length ≤ 4096
  | [] => by simp [checkF]
  | f :: r => by
    rw [checkF]
    have ih := @checkF_ok r
    constructor
    · intro h
      split at h
      · omega
      · split at h
        · omega
        · rename_i h1 h2
          intro g hg
          rcases List.mem_cons.1 hg with rfl | hg
          · exact ⟨by simpa using h1, by omega⟩
          · exact ih.1 h g hg
    · intro h
      obtain ⟨h1, h2⟩ := h f (by simp)
      rw [if_neg (by simp [h1]), if_neg (by omega)]
      exact ih.2 fun g hg => h g (by simp [hg])
theorem checkF_cases : ∀ fs : List Fld, checkF fs = 0 ∨ checkF fs = 100 ∨ checkF fs = 2
  | [] => .inl rfl
  | f :: r => by
    rw [checkF]
    split
    · exact .inr (.inl rfl)
    · split
      · exact .inr (.inr rfl)
      · exact checkF_cases r
theorem checkE_cases (e : Ev) : checkE e = 0 ∨ checkE e = 100 ∨ checkE e = 2 ∨ checkE e = 3 := by
  unfold checkE
  split
  · exact .inr (.inr (.inr rfl))
  · rcases checkF_cases e.2 with h | h | h
    · exact .inl h
    · exact .inr (.inl h)
    · exact .inr (.inr (.inl h))
theorem checkE_ok {e : Ev} : checkE e = 0 ↔ e.2.length ≤ 16 ∧ ∀ f ∈ e.2, nameL f.1 = true ∧ f.2.length ≤ 4096 := by
  unfold checkE
  constructor
  · intro h
    split at h
    · omega
    · exact ⟨by omega, checkF_ok.1 h⟩
  · intro h
    rw [if_neg (by omega)]
    exact checkF_ok.2 h.2
theorem name_len {n : List UInt8} (h : nameL n = true) : n.length ≤ 32 := by
  unfold TK.nameL at h
  simp at h
  omega
def sizeF (fs : List Fld) : Nat := (fs.map fun f => f.1.length + f.2.length).sum
def sizeE (e : Ev) : Nat := 16 + sizeF e.2
theorem sizeF_next {fs : List Fld} {k : Nat} (hk : k < fs.length) : sizeF (fs.take (k + 1)) = sizeF (fs.take k) + fs[k].1.length + fs[k].2.length := by
  unfold sizeF
  rw [List.take_succ_eq_append_getElem hk, List.map_append, List.sum_append]
  simp
  omega
theorem sizeF_of_ok : ∀ {fs : List Fld}, (∀ f ∈ fs, nameL f.1 = true ∧ f.2.length ≤ 4096) → sizeF fs ≤ 4128 * fs.length
  | [], _ => by simp [sizeF]
  | f :: r, h => by
    have h1 := h f (by simp)
    have h2 := name_len h1.1
    have ih := sizeF_of_ok (fs := r) fun g hg => h g (by simp [hg])
    have e : sizeF (f :: r) = f.1.length + f.2.length + sizeF r := by simp [sizeF]
    rw [e, List.length_cons]
    omega

/-! ### an event's bytes -/
def bytesF (fs : List Fld) : List UInt8 := fs.flatMap fun f => textL f.1 ++ textL f.2
theorem bytesF_cons (f : Fld) (r : List Fld) : bytesF (f :: r) = textL f.1 ++ (textL f.2 ++ bytesF r) := by simp [bytesF]
theorem bytesF_next {fs : List Fld} {k : Nat} (hk : k < fs.length) : bytesF (fs.take (k + 1)) = bytesF (fs.take k) ++ (textL fs[k].1 ++ textL fs[k].2) := by
  unfold bytesF
  rw [List.take_succ_eq_append_getElem hk, List.flatMap_append]
  simp
def bytesE (e : Ev) : List UInt8 := intL e.1 ++ bytesL e.2.length ++ bytesF e.2
theorem textL_len (s : List UInt8) : (textL s).length ≤ 10 + s.length ∧ 1 ≤ (textL s).length := by
  unfold textL
  rw [List.length_append]
  have := bytesL_length s.length
  omega
theorem bytesF_len : ∀ fs : List Fld, (bytesF fs).length ≤ 20 * fs.length + sizeF fs
  | [] => by simp [bytesF]
  | f :: r => by
    rw [bytesF_cons, List.length_append, List.length_append, List.length_cons]
    have h1 := (textL_len f.1).1
    have h2 := (textL_len f.2).1
    have h3 := bytesF_len r
    have e : sizeF (f :: r) = f.1.length + f.2.length + sizeF r := by simp [sizeF]
    omega
theorem bytesE_len (e : Ev) : (bytesE e).length ≤ 20 + 20 * e.2.length + sizeF e.2 ∧ 1 ≤ (bytesE e).length := by
  unfold bytesE
  rw [List.length_append, List.length_append]
  have h1 := bytesL_length (zig e.1)
  have h2 := bytesL_length e.2.length
  have h3 := bytesF_len e.2
  unfold intL
  omega

/-! ### .. got -/
/-- The next k fields, behind those that were got; what stands behind. -/
def getFa : Nat → List Fld → List UInt8 → Option (List Fld × List UInt8)
  | 0, acc, l => some (acc, l)
  | k + 1, acc, l =>
    if (getT l 32).2.2 ≠ 0 ∨ (getT (l.drop (getT l 32).2.1) 4096).2.2 ≠ 0 then none
    else getFa k (acc ++ [((getT l 32).1, (getT (l.drop (getT l 32).2.1) 4096).1)]) ((l.drop (getT l 32).2.1).drop (getT (l.drop (getT l 32).2.1) 4096).2.1)
/-- The event that stands first, whether it may be or not. -/
def rdE (l : List UInt8) : Option (Ev × List UInt8) :=
  if (getI l).2.2 ≠ 0 then none
  else if (getL (l.drop (getI l).2.1)).2.2 ≠ 0 ∨ 16 < (getL (l.drop (getI l).2.1)).1 then none
  else match getFa (getL (l.drop (getI l).2.1)).1 [] ((l.drop (getI l).2.1).drop (getL (l.drop (getI l).2.1)).2.1) with
    | none => none
    | some (fs, r) => some (((getI l).1, fs), r)
def getE (l : List UInt8) : Option (Ev × List UInt8) :=
  match rdE l with
  | none => none
  | some (e, r) => if checkE e = 0 then some (e, r) else none
theorem getT_back {l s : List UInt8} {m : Int} {k : Nat} (h : getT l m = (s, k, 0)) : textL s ++ l.drop k = l ∧ (s.length : Int) ≤ max 0 m ∧ k ≤ l.length := by
  unfold getT at h
  split at h
  · rename_i h1
    have := congrArg (fun x => x.2.2) h
    simp at this
    exact absurd this h1
  · split at h
    · simp at h
    · split at h
      · simp at h
      · rename_i h1 h2 h3
        simp only [Prod.mk.injEq, and_true] at h
        obtain ⟨hs, hk⟩ := h
        have h0 : (getL l).2.2 = 0 := by simpa using h1
        have hb := getL_back (l := l) (n := (getL l).1) (k := (getL l).2.1) (by rw [← h0])
        have hbd := (getL_bounds l).2.1
        have hl : s.length = (getL l).1 := by rw [← hs, List.length_take, List.length_drop]; omega
        refine ⟨?_, by rw [hl]; omega, by omega⟩
        unfold textL
        rw [hl, ← hk, List.append_assoc]
        have e : s ++ l.drop ((getL l).2.1 + (getL l).1) = l.drop (getL l).2.1 := by
          rw [← hs, ← List.drop_drop, List.take_append_drop]
        rw [e]
        exact hb
theorem getFa_put : ∀ (fs acc : List Fld) (r : List UInt8), (∀ f ∈ fs, f.1.length ≤ 32 ∧ f.2.length ≤ 4096) → getFa fs.length acc (bytesF fs ++ r) = some (acc ++ fs, r)
  | [], acc, r, _ => by simp [getFa, bytesF]
  | f :: fs, acc, r, h => by
    obtain ⟨h1, h2⟩ := h f (by simp)
    rw [List.length_cons, getFa, bytesF_cons, List.append_assoc, List.append_assoc, getT_put f.1 (by omega) 32 (by omega)]
    dsimp only
    rw [List.drop_left, getT_put f.2 (by omega) 4096 (by omega)]
    dsimp only
    rw [List.drop_left, if_neg (by simp)]
    rw [getFa_put fs (acc ++ [(f.1, f.2)]) r fun g hg => h g (by simp [hg])]
    simp
theorem getFa_back : ∀ (k : Nat) (acc : List Fld) (l : List UInt8) (fs : List Fld) (r : List UInt8), getFa k acc l = some (fs, r) →
    ∃ gs, fs = acc ++ gs ∧ gs.length = k ∧ bytesF gs ++ r = l ∧ ∀ f ∈ gs, f.1.length ≤ 32 ∧ f.2.length ≤ 4096
  | 0, acc, l, fs, r, h => by
    simp only [getFa, Option.some.injEq, Prod.mk.injEq] at h
    exact ⟨[], by simp [h.1], rfl, by simp [bytesF, h.2], by simp⟩
  | k + 1, acc, l, fs, r, h => by
    rw [getFa] at h
    split at h
    · cases h
    · rename_i hne
      obtain ⟨s, k1, e1, hs⟩ : ∃ s k1 e1, getT l 32 = (s, k1, e1) := ⟨_, _, _, rfl⟩
      rw [hs] at h hne
      dsimp only at h hne
      obtain ⟨t, k2, e2, ht⟩ : ∃ t k2 e2, getT (l.drop k1) 4096 = (t, k2, e2) := ⟨_, _, _, rfl⟩
      rw [ht] at h hne
      dsimp only at h hne
      obtain ⟨rfl, rfl⟩ : e1 = 0 ∧ e2 = 0 := by constructor <;> (apply Classical.byContradiction; intro hc; exact hne (by simp [hc]))
      obtain ⟨b1, b2, _⟩ := getT_back hs
      obtain ⟨c1, c2, _⟩ := getT_back ht
      obtain ⟨gs, g1, g2, g3, g4⟩ := getFa_back k _ _ _ _ h
      refine ⟨(s, t) :: gs, by rw [g1]; simp, by simp [g2], ?_, ?_⟩
      · rw [bytesF_cons, List.append_assoc, List.append_assoc, g3]
        dsimp only
        rw [c1, b1]
      · intro f hf
        rcases List.mem_cons.1 hf with rfl | hf
        · exact ⟨by show s.length ≤ 32; omega, by show t.length ≤ 4096; omega⟩
        · exact g4 f hf
/-- A time that an int holds. -/
def FitE (e : Ev) : Prop := -9223372036854775808 ≤ e.1 ∧ e.1 ≤ 9223372036854775807
theorem rdE_put {e : Ev} (hf : FitE e) (hn : e.2.length ≤ 16) (h : ∀ f ∈ e.2, f.1.length ≤ 32 ∧ f.2.length ≤ 4096) (r : List UInt8) : rdE (bytesE e ++ r) = some (e, r) := by
  unfold rdE bytesE
  rw [List.append_assoc, List.append_assoc, getI_put e.1 hf.1 hf.2]
  dsimp only
  rw [List.drop_left, getL_put _ (by omega)]
  dsimp only
  rw [List.drop_left, if_neg (by simp), if_neg (by simp; omega), getFa_put e.2 [] r h]
  simp
theorem ok_lens {e : Ev} (h : checkE e = 0) : e.2.length ≤ 16 ∧ ∀ f ∈ e.2, f.1.length ≤ 32 ∧ f.2.length ≤ 4096 := by
  obtain ⟨h1, h2⟩ := checkE_ok.1 h
  exact ⟨h1, fun f hf => ⟨name_len (h2 f hf).1, (h2 f hf).2⟩⟩
theorem getE_put {e : Ev} (hf : FitE e) (h : checkE e = 0) (r : List UInt8) : getE (bytesE e ++ r) = some (e, r) := by
  obtain ⟨h1, h2⟩ := ok_lens h
  unfold getE
  rw [rdE_put hf h1 h2]
  simp [h]
theorem rdE_back {l r : List UInt8} {e : Ev} (h : rdE l = some (e, r)) : bytesE e ++ r = l ∧ FitE e ∧ e.2.length ≤ 16 := by
  unfold rdE at h
  split at h
  · cases h
  · split at h
    · cases h
    · rename_i h1 h2
      have h10 : (getI l).2.2 = 0 := by simpa using h1
      obtain ⟨n, k1, e1, hI⟩ : ∃ n k1 e1, getI l = (n, k1, e1) := ⟨_, _, _, rfl⟩
      rw [hI] at h h2 h10
      dsimp only at h h2 h10
      subst h10
      obtain ⟨m, k2, e2, hL⟩ : ∃ m k2 e2, getL (l.drop k1) = (m, k2, e2) := ⟨_, _, _, rfl⟩
      rw [hL] at h h2
      dsimp only at h h2
      have h20 : e2 = 0 ∧ m ≤ 16 := by constructor <;> (apply Classical.byContradiction; intro hc; exact h2 (by first | exact .inl hc | exact .inr (by omega)))
      obtain ⟨rfl, hm⟩ := h20
      cases hg : getFa m [] ((l.drop k1).drop k2) with
      | none => rw [hg] at h; cases h
      | some p =>
        obtain ⟨fs, r2⟩ := p
        rw [hg] at h
        simp only [Option.some.injEq, Prod.mk.injEq] at h
        obtain ⟨rfl, rfl⟩ := h
        obtain ⟨gs, g1, g2, g3, g4⟩ := getFa_back _ _ _ _ _ hg
        rw [List.nil_append] at g1
        subst g1
        have hb1 : intL n ++ l.drop k1 = l := by
          unfold getI at hI
          simp only [Prod.mk.injEq] at hI
          have hz := getL_back (l := l) (n := (getL l).1) (k := k1) (by rw [← hI.2.1, ← hI.2.2])
          have hzz : zig n = (getL l).1 := by
            rw [← hI.1]
            generalize (getL l).1 = u
            unfold zig zag
            split <;> split <;> omega
          unfold intL
          rw [hzz]
          exact hz
        have hb2 := getL_back hL
        refine ⟨?_, ?_, by show fs.length ≤ 16; omega⟩
        · unfold bytesE
          dsimp only
          rw [List.append_assoc, List.append_assoc, g3, g2, hb2, hb1]
        · have hbd := (getI_bounds l).1
          rw [hI] at hbd
          exact hbd
theorem getE_back {l r : List UInt8} {e : Ev} (h : getE l = some (e, r)) : bytesE e ++ r = l ∧ FitE e ∧ checkE e = 0 := by
  unfold getE at h
  cases hr : rdE l with
  | none => rw [hr] at h; cases h
  | some p =>
    obtain ⟨e', r'⟩ := p
    rw [hr] at h
    dsimp only at h
    split at h
    · simp only [Option.some.injEq, Prod.mk.injEq] at h
      obtain ⟨rfl, rfl⟩ := h
      exact ⟨(rdE_back hr).1, (rdE_back hr).2.1, by assumption⟩
    · cases h
theorem getE_less {l r : List UInt8} {e : Ev} (h : getE l = some (e, r)) : r.length < l.length := by
  have h1 := (getE_back h).1
  have h2 := (bytesE_len e).2
  have := congrArg List.length h1
  rw [List.length_append] at this
  omega

/-! ### batches -/
def checkEs : List Ev → Int
  | [] => 0
  | e :: r => if checkE e ≠ 0 then checkE e else checkEs r
theorem checkEs_next {es : List Ev} {k : Nat} (hk : k < es.length) : checkEs (es.drop k) = if checkE es[k] ≠ 0 then checkE es[k] else checkEs (es.drop (k + 1)) := by
  rw [List.drop_eq_getElem_cons hk, checkEs]
theorem checkEs_ok : ∀ {es : List Ev}, checkEs es = 0 ↔ ∀ e ∈ es, checkE e = 0
  | [] => by simp [checkEs]
  | e :: r => by
    rw [checkEs]
    have ih := @checkEs_ok r
    constructor
    · intro h
      split at h
      · rename_i h1; exact absurd h h1
      · rename_i h1
        intro g hg
        rcases List.mem_cons.1 hg with rfl | hg
        · simpa using h1
        · exact ih.1 h g hg
    · intro h
      rw [if_neg (by simpa using h e (by simp))]
      exact ih.2 fun g hg => h g (by simp [hg])
def sizeB (es : List Ev) : Nat := (es.map sizeE).sum
theorem sizeB_next {es : List Ev} {k : Nat} (hk : k < es.length) : sizeB (es.take (k + 1)) = sizeB (es.take k) + sizeE es[k] := by
  unfold sizeB
  rw [List.take_succ_eq_append_getElem hk, List.map_append, List.sum_append]
  simp
def checkB (b : Bat) : Int :=
  if b.2.length = 0 then 1 else if 64 < b.2.length then 3 else if checkEs b.2 ≠ 0 then checkEs b.2
  else if 65536 < sizeB b.2 then 2 else if b.1 < 1 ∨ 1099511627776 - ((b.2.length : Int) - 1) < b.1 then 5 else 0
theorem checkB_ok {b : Bat} (h : checkB b = 0) : 1 ≤ b.2.length ∧ b.2.length ≤ 64 ∧ (∀ e ∈ b.2, checkE e = 0) ∧ sizeB b.2 ≤ 65536 ∧ 1 ≤ b.1 ∧ b.1 ≤ 1099511627776 - ((b.2.length : Int) - 1) := by
  unfold checkB at h
  split at h
  · omega
  · split at h
    · omega
    · split at h
      · rename_i h3; exact absurd h h3
      · split at h
        · omega
        · split at h
          · omega
          · rename_i h1 h2 h3 h4 h5
            exact ⟨by omega, by omega, checkEs_ok.1 (by simpa using h3), by omega, by omega, by omega⟩
def bytesB (es : List Ev) : List UInt8 := es.flatMap bytesE
theorem bytesB_cons (e : Ev) (r : List Ev) : bytesB (e :: r) = bytesE e ++ bytesB r := by simp [bytesB]
theorem bytesB_next {es : List Ev} {k : Nat} (hk : k < es.length) : bytesB (es.take (k + 1)) = bytesB (es.take k) ++ bytesE es[k] := by
  unfold bytesB
  rw [List.take_succ_eq_append_getElem hk, List.flatMap_append]
  simp
def encB (b : Bat) : List UInt8 := bytesL b.1.toNat ++ bytesL b.2.length ++ bytesB b.2
/-- The next k events, behind those that were got. -/
def getBa : Nat → List Ev → List UInt8 → Option (List Ev × List UInt8)
  | 0, acc, l => some (acc, l)
  | k + 1, acc, l => match getE l with
    | none => none
    | some (e, r) => getBa k (acc ++ [e]) r
theorem getBa_put : ∀ (es acc : List Ev) (r : List UInt8), (∀ e ∈ es, FitE e ∧ checkE e = 0) → getBa es.length acc (bytesB es ++ r) = some (acc ++ es, r)
  | [], acc, r, _ => by simp [getBa, bytesB]
  | e :: es, acc, r, h => by
    obtain ⟨h1, h2⟩ := h e (by simp)
    rw [List.length_cons, getBa, bytesB_cons, List.append_assoc, getE_put h1 h2]
    dsimp only
    rw [getBa_put es _ r fun g hg => h g (by simp [hg])]
    simp
theorem getBa_back : ∀ (k : Nat) (acc : List Ev) (l : List UInt8) (es : List Ev) (r : List UInt8), getBa k acc l = some (es, r) →
    ∃ gs, es = acc ++ gs ∧ gs.length = k ∧ bytesB gs ++ r = l ∧ ∀ e ∈ gs, FitE e ∧ checkE e = 0
  | 0, acc, l, es, r, h => by
    simp only [getBa, Option.some.injEq, Prod.mk.injEq] at h
    exact ⟨[], by simp [h.1], rfl, by simp [bytesB, h.2], by simp⟩
  | k + 1, acc, l, es, r, h => by
    rw [getBa] at h
    cases hg : getE l with
    | none => rw [hg] at h; cases h
    | some p =>
      obtain ⟨e, r1⟩ := p
      rw [hg] at h
      dsimp only at h
      obtain ⟨b1, b2, b3⟩ := getE_back hg
      obtain ⟨gs, g1, g2, g3, g4⟩ := getBa_back k _ _ _ _ h
      refine ⟨e :: gs, by rw [g1]; simp, by simp [g2], by rw [bytesB_cons, List.append_assoc, g3, b1], ?_⟩
      intro f hf
      rcases List.mem_cons.1 hf with rfl | hf
      · exact ⟨b2, b3⟩
      · exact g4 f hf
/-- A batch that stands first, whether it may be or not; what stands behind. -/
def rdB (l : List UInt8) : Option (Bat × List UInt8) :=
  if (getL l).2.2 ≠ 0 ∨ 1099511627776 < (getL l).1 then none
  else if (getL (l.drop (getL l).2.1)).2.2 ≠ 0 ∨ 64 < (getL (l.drop (getL l).2.1)).1 then none
  else match getBa (getL (l.drop (getL l).2.1)).1 [] ((l.drop (getL l).2.1).drop (getL (l.drop (getL l).2.1)).2.1) with
    | none => none
    | some (es, r) => some ((((getL l).1 : Nat), es), r)
def decB (l : List UInt8) : Option Bat :=
  match rdB l with
  | none => none
  | some (b, r) => if 0 < r.length ∨ checkB b ≠ 0 then none else some b
theorem rdB_put {b : Bat} (hf : ∀ e ∈ b.2, FitE e) (h : checkB b = 0) (r : List UInt8) : rdB (encB b ++ r) = some (b, r) := by
  obtain ⟨h1, h2, h3, h4, h5, h6⟩ := checkB_ok h
  unfold rdB encB
  rw [List.append_assoc, List.append_assoc, getL_put _ (by omega)]
  dsimp only
  rw [List.drop_left, getL_put _ (by omega)]
  dsimp only
  rw [List.drop_left, if_neg (by simp; omega), if_neg (by simp; omega), getBa_put b.2 [] r fun e he => ⟨hf e he, h3 e he⟩]
  simp only [List.nil_append, Option.some.injEq, Prod.mk.injEq, and_true]
  rw [show ((b.1.toNat : Nat) : Int) = b.1 by omega]
theorem decB_back {l : List UInt8} {b : Bat} (h : decB l = some b) : encB b = l ∧ checkB b = 0 ∧ ∀ e ∈ b.2, FitE e := by
  unfold decB at h
  cases hr : rdB l with
  | none => rw [hr] at h; cases h
  | some p =>
    obtain ⟨b', r⟩ := p
    rw [hr] at h
    dsimp only at h
    split at h
    · cases h
    · rename_i hn
      have hr0 : r = [] := List.eq_nil_of_length_eq_zero (by omega)
      have hc : checkB b' = 0 := by apply Classical.byContradiction; intro hc; exact hn (.inr hc)
      simp only [Option.some.injEq] at h
      subst h
      subst hr0
      unfold rdB at hr
      split at hr
      · cases hr
      · split at hr
        · cases hr
        · rename_i h1 h2
          obtain ⟨m, k1, e1, hL⟩ : ∃ m k1 e1, getL l = (m, k1, e1) := ⟨_, _, _, rfl⟩
          rw [hL] at hr h1 h2
          dsimp only at hr h1 h2
          obtain ⟨q, k2, e2, hL2⟩ : ∃ q k2 e2, getL (l.drop k1) = (q, k2, e2) := ⟨_, _, _, rfl⟩
          rw [hL2] at hr h2
          dsimp only at hr h2
          have he1 : e1 = 0 := by apply Classical.byContradiction; intro hc; exact h1 (.inl hc)
          have he2 : e2 = 0 := by apply Classical.byContradiction; intro hc; exact h2 (.inl hc)
          subst he1 he2
          cases hg : getBa q [] ((l.drop k1).drop k2) with
          | none => rw [hg] at hr; cases hr
          | some p =>
            obtain ⟨es, r2⟩ := p
            rw [hg] at hr
            simp only [Option.some.injEq, Prod.mk.injEq] at hr
            obtain ⟨rfl, rfl⟩ := hr
            obtain ⟨gs, g1, g2, g3, g4⟩ := getBa_back _ _ _ _ _ hg
            rw [List.nil_append] at g1
            subst g1
            have hb1 := getL_back hL
            have hb2 := getL_back hL2
            refine ⟨?_, hc, fun e he => (g4 e he).1⟩
            unfold encB
            dsimp only
            rw [List.append_nil] at g3
            rw [List.append_assoc, g3, g2, hb2, Int.toNat_natCast, hb1]
theorem decB_put {b : Bat} (hf : ∀ e ∈ b.2, FitE e) (h : checkB b = 0) : decB (encB b) = some b := by
  have := rdB_put hf h []
  rw [List.append_nil] at this
  unfold decB
  rw [this]
  simp [h]
/-- A beginning of a batch's bytes is none's. -/
theorem decB_part {b : Bat} (hf : ∀ e ∈ b.2, FitE e) (h : checkB b = 0) {k : Nat} (hk : k < (encB b).length) : decB ((encB b).take k) = none := by
  cases hd : decB ((encB b).take k) with
  | none => rfl
  | some c =>
    obtain ⟨h1, h2, h3⟩ := decB_back hd
    have e : encB c ++ (encB b).drop k = encB b := by rw [h1, List.take_append_drop]
    have p1 := rdB_put h3 h2 ((encB b).drop k)
    rw [e] at p1
    have p2 := rdB_put hf h []
    rw [List.append_nil, p1] at p2
    simp only [Option.some.injEq, Prod.mk.injEq] at p2
    have := congrArg List.length p2.2
    rw [List.length_drop] at this
    simp at this
    omega
theorem decB_more {b : Bat} (hf : ∀ e ∈ b.2, FitE e) (h : checkB b = 0) (c : UInt8) : decB (encB b ++ [c]) = none := by
  unfold decB
  rw [rdB_put hf h]
  simp
end Go.Proofs.Ytgacfihidpijeaa.EM
set_option linter.unusedVariables false
namespace Go.Proofs.Ytgacfihidpijeaa.EV
open Go Go.RowKit Go.Proofs.Ytgacfihidpijeaa.MM Go.Proofs.Ytgacfihidpijeaa.EM

def fldC : Codec Fld := cPair cStr cStr
def evC : Codec Ev := cPair cInt (cRow fldC)
def batC : Codec Bat := cPair cInt (cRow evC)
theorem fld_size : fldC.size = 2 := rfl
theorem ev_size : evC.size = 2 := rfl
theorem fld_on {S : Nat → Prop} {w : World} {cs : List Value} {f : Fld} : fldC.on S w cs f ↔ cs = [.string ⟨f.1.toArray⟩, .string ⟨f.2.toArray⟩] := by
  constructor
  · rintro ⟨x, y, rfl, hx, hy⟩
    have hx : x = [.string ⟨f.1.toArray⟩] := hx
    have hy : y = [.string ⟨f.2.toArray⟩] := hy
    rw [hx, hy]; rfl
  · rintro rfl
    exact ⟨[_], [_], rfl, rfl, rfl⟩
theorem ev_on {S : Nat → Prop} {w : World} {cs : List Value} {e : Ev} : evC.on S w cs e ↔ ∃ v, cs = [.int .i64 e.1, v] ∧ ROn fldC S w v e.2 := by
  constructor
  · rintro ⟨x, y, rfl, hx, v, hy, hr⟩
    have hx : x = [.int .i64 e.1] := hx
    exact ⟨v, by rw [hx, hy]; rfl, hr⟩
  · rintro ⟨v, rfl, hr⟩
    exact ⟨[_], [v], rfl, rfl, v, rfl, hr⟩
theorem bat_on {S : Nat → Prop} {w : World} {cs : List Value} {b : Bat} : batC.on S w cs b ↔ ∃ v, cs = [.int .i64 b.1, v] ∧ ROn evC S w v b.2 := by
  constructor
  · rintro ⟨x, y, rfl, hx, v, hy, hr⟩
    have hx : x = [.int .i64 b.1] := hx
    exact ⟨v, by rw [hx, hy]; rfl, hr⟩
  · rintro ⟨v, rfl, hr⟩
    exact ⟨[_], [v], rfl, rfl, v, rfl, hr⟩
/-- The k-th field's two texts. -/
theorem fld_at {S : Nat → Prop} {w : World} {p : Option Addr} {n cap : Nat} {fs : List Fld} (h : ROn fldC S w (.slice p n cap) fs) {k : Nat} (hk : k < fs.length) :
    ∃ b off, p = some ⟨b, off, none⟩ ∧ b < w.heap.size ∧ S b ∧ w.cell? ⟨b, off + k * 2, none⟩ = some (.string ⟨fs[k].1.toArray⟩) ∧ w.cell? ⟨b, off + k * 2 + 1, none⟩ = some (.string ⟨fs[k].2.toArray⟩) := by
  obtain ⟨b, off, vs, hp, hlt, hS, hon, hc⟩ := h.at_ hk
  rw [fld_on] at hon
  subst hon
  exact ⟨b, off, hp, hlt, hS, hc 0 _ rfl, hc 1 _ rfl⟩
/-- The k-th event's time and fields. -/
theorem ev_at {S : Nat → Prop} {w : World} {p : Option Addr} {n cap : Nat} {es : List Ev} (h : ROn evC S w (.slice p n cap) es) {k : Nat} (hk : k < es.length) :
    ∃ b off v, p = some ⟨b, off, none⟩ ∧ b < w.heap.size ∧ S b ∧ w.cell? ⟨b, off + k * 2, none⟩ = some (.int .i64 es[k].1) ∧ w.cell? ⟨b, off + k * 2 + 1, none⟩ = some v ∧ ROn fldC S w v es[k].2 := by
  obtain ⟨b, off, vs, hp, hlt, hS, hon, hc⟩ := h.at_ hk
  rw [ev_on] at hon
  obtain ⟨v, rfl, hr⟩ := hon
  exact ⟨b, off, v, hp, hlt, hS, hc 0 _ rfl, hc 1 _ rfl, hr⟩
theorem str_list (l : List UInt8) : (⟨l.toArray⟩ : ByteArray).data.toList = l := by simp
theorem str_sz (l : List UInt8) : (⟨l.toArray⟩ : ByteArray).size = l.length := by rw [Lib.size_eq]
theorem new_two (w : World) (x y : Value) (t : TypeId) : (w.alloc (.cells #[x, y] t)).cell? ⟨w.heap.size, 0, none⟩ = some x ∧ (w.alloc (.cells #[x, y] t)).cell? ⟨w.heap.size, 1, none⟩ = some y := by
  have h0 := lit_cells w [x, y] t 0 x rfl
  have h1 := lit_cells w [x, y] t 1 y rfl
  rw [add_at] at h0 h1
  exact ⟨h0, h1⟩
end Go.Proofs.Ytgacfihidpijeaa.EV
