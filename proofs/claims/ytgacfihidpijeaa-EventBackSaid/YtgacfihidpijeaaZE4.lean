/-
  DERIVED: THE SHELF's CONTRACTS AT THIS DUMP, IN PLAIN WORDS (tools/lay-plain.mjs out of 'TrySortSoft.lean', which tools/lay-shelf.mjs wrote): THE SAME DECLARATIONS UNDER THE SAME NAMES: 'import', 'namespace', 'open', 'def', 'theorem' AND NOTHING ELSE: no command of the shelf's: FOR A HAND-IN. Each laying: the table of numbers ('.._ren') and one theorem, a field a fact of the dump's own or the kernel's comparison; each contract: ONE APPLICATION. A row of the call's own: what it is, a store into it. No condition. What the texts of layer 7 say in plain lists: rows of runes, words of texts, words of words, names, terms. No conditions: no program is named here. Slices that read as lists of whole numbers. No condition. Slices that read as lists of texts. No condition. Lower and IsWord, the code's (tables that are gone through) and the reference's (tests): each returns what the plain functions say, of any number. No conditions. From the rows' readings to what the walks ask: slices of bytes and of whole numbers that came in. No condition.
-/
import Derived.Shelf.SlSortCmp.WholeK
import Derived.Ground.SlsfProg
import Derived.Test.YtgacfihidpijeaaProg
import Derived.Test.YtgacfihidpijeaaZE1
import Derived.Test.YtgacfihidpijeaaZE2
import Derived.WalkKit
import Derived.Below
import Derived.Lib.Hide
import Derived.LoopTactic
import Derived.Outline
import Derived.Test.YtgacfihidpijeaaRows
import Derived.ProofKit
import Derived.OpenShut
import Derived.ShutString
import Derived.ChangeOld
namespace Go.Proofs
open Go.Shelf
def Try.sortTerm_ren : Go.Shelf.Ren := ⟨fun | 6 => 56 | 15 => 80 | 14 => 79 | 28 => 100 | 29 => 90 | 20 => 92 | 21 => 93 | 22 => 94 | 23 => 95 | 24 => 96 | 25 => 97 | 26 => 98 | 27 => 99 | 46 => 108 | 47 => 109 | 48 => 110 | 49 => 111 | 50 => 112 | 57 => 116 | n => n, fun | 22 => 56 | 24 => 62 | 25 => 100 | 3 => 3 | 39 => 115 | 0 => 0 | 53 => 135 | 55 => 77 | 4 => 4 | 46 => 128 | 45 => 127 | 50 => 132 | 5 => 5 | 9 => 9 | 66 => 139 | 70 => 143 | 76 => 149 | 77 => 121 | n => n, fun | n => n⟩
theorem Try.sortTerm : Go.Proofs.SlLaysF0.n6 Try.prog Try.sortTerm_ren := {
  mixed := by kernel_rfl
  f6 := ⟨Try.f56.name, by decide, Try.func56.trans (congrArg some (by kernel_rfl))⟩
  f14 := ⟨Try.f79.name, by decide, Try.func79.trans (congrArg some (by kernel_rfl))⟩
  f15 := Try.func80.trans (congrArg some (by kernel_rfl))
  f20 := ⟨Try.f92.name, by decide, Try.func92.trans (congrArg some (by kernel_rfl))⟩
  f21 := ⟨Try.f93.name, by decide, Try.func93.trans (congrArg some (by kernel_rfl))⟩
  f22 := ⟨Try.f94.name, by decide, Try.func94.trans (congrArg some (by kernel_rfl))⟩
  f23 := ⟨Try.f95.name, by decide, Try.func95.trans (congrArg some (by kernel_rfl))⟩
  f24 := ⟨Try.f96.name, by decide, Try.func96.trans (congrArg some (by kernel_rfl))⟩
  f25 := ⟨Try.f97.name, by decide, Try.func97.trans (congrArg some (by kernel_rfl))⟩
  f26 := ⟨Try.f98.name, by decide, Try.func98.trans (congrArg some (by kernel_rfl))⟩
  f27 := ⟨Try.f99.name, by decide, Try.func99.trans (congrArg some (by kernel_rfl))⟩
  f28 := Try.func100.trans (congrArg some (by kernel_rfl))
  f29 := Try.func90.trans (congrArg some (by kernel_rfl))
  f46 := ⟨Try.f108.name, by decide, Try.func108.trans (congrArg some (by kernel_rfl))⟩
  f47 := Try.func109.trans (congrArg some (by kernel_rfl))
  f48 := Try.func110.trans (congrArg some (by kernel_rfl))
  f49 := ⟨Try.f111.name, by decide, Try.func111.trans (congrArg some (by kernel_rfl))⟩
  f50 := ⟨Try.f112.name, by decide, Try.func112.trans (congrArg some (by kernel_rfl))⟩
  f57 := ⟨Try.f116.name, by decide, Try.func116.trans (congrArg some (by kernel_rfl))⟩
  t0 := Try.underlying0
  a0 := Try.isAgg0
  z0 := Try.sizeOf0
  v0 := Try.zeroValue0
  t3 := Try.underlying3
  a3 := Try.isAgg3
  z3 := Try.sizeOf3
  v3 := Try.zeroValue3
  t4 := Try.underlying4
  a4 := Try.isAgg4
  z4 := Try.sizeOf4
  v4 := Try.zeroValue4
  t5 := Try.underlying5
  a5 := Try.isAgg5
  z5 := Try.sizeOf5
  v5 := Try.zeroValue5
  t9 := Try.underlying9
  a9 := Try.isAgg9
  z9 := Try.sizeOf9
  v9 := Try.zeroValue9
  t22 := Try.underlying56
  a22 := Try.isAgg56
  z22 := Try.sizeOf56
  v22 := Try.zeroValue56
  t25 := Try.underlying100
  a25 := Try.isAgg100
  z25 := Try.sizeOf100
  v25 := Try.zeroValue100
  t39 := Try.underlying115
  a39 := Try.isAgg115
  z39 := Try.sizeOf115
  v39 := Try.zeroValue115
  t45 := Try.underlying127
  a45 := Try.isAgg127
  z45 := Try.sizeOf127
  v45 := Try.zeroValue127
  t46 := Try.underlying128
  a46 := Try.isAgg128
  z46 := Try.sizeOf128
  v46 := Try.zeroValue128
  t50 := Try.underlying132
  a50 := Try.isAgg132
  z50 := Try.sizeOf132
  v50 := Try.zeroValue132
  t53 := Try.underlying135
  a53 := Try.isAgg135
  z53 := Try.sizeOf135
  v53 := Try.zeroValue135
  t55 := Try.underlying77
  a55 := Try.isAgg77
  z55 := Try.sizeOf77
  v55 := Try.zeroValue77
  t66 := Try.underlying139
  a66 := Try.isAgg139
  z66 := Try.sizeOf139
  v66 := Try.zeroValue139
  t70 := Try.underlying143
  a70 := Try.isAgg143
  z70 := Try.sizeOf143
  v70 := Try.zeroValue143
  t76 := Try.underlying149
  a76 := Try.isAgg149
  z76 := Try.sizeOf149
  v76 := Try.zeroValue149
  t77 := Try.underlying121
  a77 := Try.isAgg121
  z77 := Try.sizeOf121
  v77 := Try.zeroValue121 }
end Go.Proofs
set_option linter.unusedVariables false
namespace Go.Proofs.Ytgacfihidpijeaa.MM
open Go.RowKit
/-! ### a row of the call's own: what it is, a store into it -/
theorem OwnB.shape {B : Nat} {w : World} {v : Value} {l : List UInt8} (h : OwnB B w v l) (hl : l.length ≠ 0) : ∃ g cap, v = .slice (some ⟨g, 0, none⟩) l.length cap ∧ B ≤ g ∧ l.length ≤ cap ∧ cap ≤ maxLen := by
  rcases h.2 with ⟨_, h0⟩ | ⟨g, cap, cur, hv, hb, _, hn, hm, _⟩
  · exact absurd h0 hl
  · exact ⟨g, cap, hv, hb, hn, hm⟩
theorem OwnB.free {B : Nat} {w : World} {g n cap : Nat} {l : List UInt8} (h : OwnB B w (.slice (some ⟨g, 0, none⟩) n cap) l) (j : Nat) : w.frozen? ⟨g, j, none⟩ = false := by
  rcases h.2 with ⟨hv, _⟩ | ⟨g', cap', cur, hv, hb, hh, _⟩
  · cases hv
  · simp only [Value.slice.injEq, Option.some.injEq, Addr.mk.injEq] at hv
    obtain ⟨⟨rfl, _⟩, _⟩ := hv
    exact frozen_of_row w g j cur _ hh
theorem OwnB.cell {B : Nat} {w : World} {g n cap j : Nat} {l : List UInt8} {c : UInt8} (h : OwnB B w (.slice (some ⟨g, 0, none⟩) n cap) l) (hj : l[j]? = some c) : w.cell? ⟨g, j, none⟩ = some (.int .u8 (c.toNat : Int)) := by
  obtain ⟨hlt, he⟩ := List.getElem?_eq_some_iff.1 hj
  obtain ⟨b, off, hp, _, hc⟩ := h.brow.at_ hlt
  rcases h.2 with ⟨hv, _⟩ | ⟨g', cap', cur, hv, hb, hh, hn, hm, hs, ht⟩
  · cases hv
  · simp only [Value.slice.injEq, Option.some.injEq, Addr.mk.injEq] at hv hp
    obtain ⟨⟨rfl, _⟩, _⟩ := hv
    obtain ⟨rfl, rfl, _⟩ := hp
    rw [he, Nat.zero_add] at hc
    exact hc
theorem OwnB.set {B : Nat} {w : World} {g n cap j : Nat} {l : List UInt8} (h : OwnB B w (.slice (some ⟨g, 0, none⟩) n cap) l) (c : UInt8) :
    OwnB B (w.setCell ⟨g, j, none⟩ (.int .u8 (c.toNat : Int))) (.slice (some ⟨g, 0, none⟩) n cap) (l.set j c) := by
  refine ⟨by rw [byteCells_len]; omega, ?_⟩
  rcases h.2 with ⟨hv, _⟩ | ⟨g', cap', cur, hv, hb, hh, hn, hm, hs, ht⟩
  · cases hv
  · have hv' := hv
    simp only [Value.slice.injEq, Option.some.injEq, Addr.mk.injEq] at hv
    obtain ⟨⟨rfl, _⟩, hnn, rfl⟩ := hv
    refine .inr ⟨g, cap, cur.setIfInBounds j (.int .u8 (c.toNat : Int)), by rw [List.length_set, hnn], hb, heap_setCell_same w g j cur _ _ hh, by rw [List.length_set]; exact hn, hm, by rw [Array.size_setIfInBounds]; exact hs, ?_⟩
    rw [List.length_set, Array.toList_setIfInBounds, List.take_set, ht]
    simp [Lib.byteCells, List.map_set]
end Go.Proofs.Ytgacfihidpijeaa.MM
set_option linter.unusedVariables false
namespace Go.Proofs.Ytgacfihidpijeaa.TK
open Go.Lib Go.Proofs.Ytgacfihidpijeaa.UM

/-! ### the word of a row of runes -/
def lowB (r : Int) : List UInt8 := encodeRune (lowerZ r)
def cutGo : Nat → List Int → List UInt8
  | _, [] => []
  | m, r :: t => if (lowB r).length ≤ m then lowB r ++ cutGo (m - (lowB r).length) t else []
def cutW (row : List Int) : List UInt8 := cutGo 32 row
/-- The bytes of a row's lower runes. -/
def lowL (row : List Int) : List UInt8 := encL (row.map lowerZ)
theorem lowL_nil : lowL [] = [] := rfl
theorem lowL_cons (r : Int) (t : List Int) : lowL (r :: t) = lowB r ++ lowL t := rfl
theorem lowL_append (a b : List Int) : lowL (a ++ b) = lowL a ++ lowL b := by simp [lowL, encL_append]
theorem enc_len (r : Int) : 1 ≤ (encodeRune r).length ∧ (encodeRune r).length ≤ 4 := by
  have := encodeRuneZ_length r
  have h2 : (encodeRune r).length = (encodeRuneZ r).length := by simp [encodeRune]
  omega
theorem lowB_len (r : Int) : 1 ≤ (lowB r).length ∧ (lowB r).length ≤ 4 := enc_len _
theorem lowL_len (l : List Int) : l.length ≤ (lowL l).length ∧ (lowL l).length ≤ 4 * l.length := by
  induction l with
  | nil => simp [lowL, encL]
  | cons r t ih =>
    have := lowB_len r
    rw [lowL_cons, List.length_append, List.length_cons]
    omega

theorem cutGo_take : ∀ (l : List Int) (m n : Nat), n ≤ l.length → (lowL (l.take n)).length ≤ m → (n = l.length ∨ m < (lowL (l.take (n + 1))).length) → cutGo m l = lowL (l.take n)
  | [], m, n, h, _, _ => by simp [cutGo, lowL, encL]
  | r :: t, m, 0, h, h1, h2 => by
    have := lowB_len r
    rcases h2 with h2 | h2
    · simp at h2
    · simp [lowL_cons, lowL_nil] at h2
      rw [cutGo, if_neg (by omega)]
      simp [lowL_nil]
  | r :: t, m, n + 1, h, h1, h2 => by
    simp [lowL_cons] at h1 h2 h
    rw [cutGo, if_pos (by omega), List.take_succ_cons, lowL_cons, cutGo_take t (m - (lowB r).length) n h (by omega) (by omega)]
theorem cutW_take (l : List Int) (n : Nat) (h : n ≤ l.length) (h1 : (lowL (l.take n)).length ≤ 32) (h2 : n = l.length ∨ 32 < (lowL (l.take (n + 1))).length) : cutW l = lowL (l.take n) :=
  cutGo_take l 32 n h h1 h2
theorem cutGo_form : ∀ (l : List Int) (m : Nat), ∃ n, n ≤ l.length ∧ cutGo m l = lowL (l.take n) ∧ (lowL (l.take n)).length ≤ m ∧ (4 ≤ m → l ≠ [] → 1 ≤ n)
  | [], m => ⟨0, by simp, by simp [cutGo, lowL_nil], by simp [lowL_nil], fun _ h => absurd rfl h⟩
  | r :: t, m => by
    have h4 := lowB_len r
    by_cases hm : (lowB r).length ≤ m
    · obtain ⟨n, h0, h1, h2, _⟩ := cutGo_form t (m - (lowB r).length)
      refine ⟨n + 1, by simp; omega, ?_, ?_, fun _ _ => by omega⟩
      · rw [cutGo, if_pos hm, h1, List.take_succ_cons, lowL_cons]
      · rw [List.take_succ_cons, lowL_cons, List.length_append]; omega
    · refine ⟨0, by simp, ?_, by simp [lowL_nil], fun h => by omega⟩
      rw [cutGo, if_neg hm]; simp [lowL_nil]
theorem cutW_form (l : List Int) : ∃ n, n ≤ l.length ∧ cutW l = lowL (l.take n) ∧ (lowL (l.take n)).length ≤ 32 ∧ (l ≠ [] → 1 ≤ n) := by
  obtain ⟨n, h0, h1, h2, h3⟩ := cutGo_form l 32
  exact ⟨n, h0, h1, h2, h3 (by omega)⟩
theorem cutW_le (l : List Int) : (cutW l).length ≤ 32 := by
  obtain ⟨n, _, h1, h2, _⟩ := cutW_form l
  rw [h1]; exact h2
theorem cutGo_lower : ∀ (l : List Int) (m : Nat), cutGo m (l.map lowerZ) = cutGo m l
  | [], m => rfl
  | r :: t, m => by
    have e : lowB (lowerZ r) = lowB r := by unfold lowB; rw [lower_lower]
    rw [List.map_cons, cutGo, cutGo, e, cutGo_lower t]
theorem cutW_lower (l : List Int) : cutW (l.map lowerZ) = cutW l := cutGo_lower l 32

/-! ### rows of runes -/
def one (l : List Int) : List (List Int) := if l = [] then [] else [l]
def rowsAcc : List Int → List Int → List (List Int)
  | acc, [] => one acc
  | acc, r :: t => if wordZ r = true then rowsAcc (acc ++ [r]) t else one acc ++ rowsAcc [] t
def rowsL (l : List Int) : List (List Int) := rowsAcc [] l
def wordsR (l : List Int) : List (List UInt8) := (rowsL l).map cutW
def wordsB (b : List UInt8) : List (List UInt8) := wordsR (runesL b)

theorem one_nil : one [] = [] := rfl
theorem one_ne {l : List Int} (h : l ≠ []) : one l = [l] := by simp [one, h]
theorem rowsAcc_row : ∀ (p acc t : List Int), (∀ r ∈ p, wordZ r = true) → rowsAcc acc (p ++ t) = rowsAcc (acc ++ p) t
  | [], acc, t, _ => by simp
  | r :: p, acc, t, h => by
    rw [List.cons_append, rowsAcc, if_pos (h r (by simp)), rowsAcc_row p _ t (fun x hx => h x (by simp [hx])), List.append_assoc]; rfl
theorem rowsL_all {p : List Int} (h : ∀ r ∈ p, wordZ r = true) : rowsL p = one p := by
  have := rowsAcc_row p [] [] h
  rw [List.append_nil] at this
  rw [rowsL, this, List.nil_append]; rfl
theorem rowsL_part {p t : List Int} {r : Int} (h : ∀ r ∈ p, wordZ r = true) (hr : wordZ r = false) : rowsL (p ++ r :: t) = one p ++ rowsL t := by
  rw [rowsL, rowsAcc_row p [] _ h, List.nil_append, rowsAcc, if_neg (by simp [hr])]; rfl
theorem rowsAcc_good : ∀ (l acc : List Int), (∀ r ∈ acc, wordZ r = true) → ∀ p ∈ rowsAcc acc l, p ≠ [] ∧ ∀ r ∈ p, wordZ r = true
  | [], acc, h, p, hp => by
    unfold rowsAcc one at hp
    split at hp
    · simp at hp
    · simp at hp; subst hp; exact ⟨by assumption, h⟩
  | r :: t, acc, h, p, hp => by
    unfold rowsAcc at hp
    split at hp
    · rename_i hr
      exact rowsAcc_good t _ (fun x hx => by simp at hx; rcases hx with hx | hx; exact h x hx; subst hx; exact hr) p hp
    · rw [List.mem_append] at hp
      rcases hp with hp | hp
      · unfold one at hp
        split at hp
        · simp at hp
        · simp at hp; subst hp; exact ⟨by assumption, h⟩
      · exact rowsAcc_good t [] (by simp) p hp
theorem rowsL_good (l : List Int) : ∀ p ∈ rowsL l, p ≠ [] ∧ ∀ r ∈ p, wordZ r = true := rowsAcc_good l [] (by simp)
theorem rowsAcc_count : ∀ (l acc : List Int), (rowsAcc acc l).length ≤ acc.length + l.length
  | [], acc => by
    unfold rowsAcc one
    split
    · simp
    · rename_i h
      have := List.length_pos_iff.2 h
      simp; omega
  | r :: t, acc => by
    unfold rowsAcc
    split
    · have := rowsAcc_count t (acc ++ [r])
      simp at this
      simp; omega
    · have := rowsAcc_count t []
      have h1 : (one acc).length ≤ acc.length := by
        unfold one
        split
        · simp
        · rename_i h
          have := List.length_pos_iff.2 h
          simp; omega
      simp at this
      simp; omega
theorem wordsR_count (l : List Int) : (wordsR l).length ≤ l.length := by
  have := rowsAcc_count l []
  simp at this
  unfold wordsR rowsL
  rw [List.length_map]; exact this
theorem wordsB_count (b : List UInt8) : (wordsB b).length ≤ b.length := Nat.le_trans (wordsR_count _) (runesL_length b)
theorem wordZ_lower (r : Int) : wordZ (lowerZ r) = wordZ r := by
  unfold wordZ lowerZ
  repeat' split
  all_goals first | rfl | (congr 1; simp; omega)
theorem rowsAcc_lower : ∀ (l acc : List Int), rowsAcc (acc.map lowerZ) (l.map lowerZ) = (rowsAcc acc l).map (List.map lowerZ)
  | [], acc => by
    unfold rowsAcc one
    by_cases h : acc = []
    · simp [h]
    · simp [h]
  | r :: t, acc => by
    rw [List.map_cons]
    unfold rowsAcc
    rw [wordZ_lower]
    split
    · have := rowsAcc_lower t (acc ++ [r])
      rw [List.map_append] at this
      exact this
    · have h0 := rowsAcc_lower t []
      rw [List.map_nil] at h0
      rw [List.map_append, h0]
      congr 1
      unfold one
      by_cases h : acc = []
      · simp [h]
      · simp [h]
theorem wordsR_lower (l : List Int) : wordsR (l.map lowerZ) = wordsR l := by
  have := rowsAcc_lower l []
  rw [List.map_nil] at this
  unfold wordsR rowsL
  rw [this, List.map_map]
  exact List.map_congr_left fun p _ => cutW_lower p
theorem wordsB_fold (b : List UInt8) : wordsB (foldL b) = wordsB b := by
  unfold wordsB
  rw [runes_fold, wordsR_lower]

/-! ### words of words -/
theorem norm_word {r : Int} (h : wordZ r = true) : norm r = r := by
  unfold wordZ at h
  simp at h
  exact norm_of_good r (by omega)
/-- A word's runes. -/
def Good (zs : List Int) : Prop := zs ≠ [] ∧ (∀ z ∈ zs, wordZ z = true) ∧ (∀ z ∈ zs, lowerZ z = z) ∧ (encL zs).length ≤ 32
theorem Good.norm {zs : List Int} (h : Good zs) : zs.map norm = zs := by
  have : ∀ z ∈ zs, UM.norm z = z := fun z hz => norm_word (h.2.1 z hz)
  rw [List.map_congr_left this, List.map_id'']
  intro; rfl
theorem Good.low {zs : List Int} (h : Good zs) : lowL zs = encL zs := by
  have : ∀ z ∈ zs, lowerZ z = id z := h.2.2.1
  unfold lowL
  rw [List.map_congr_left this, List.map_id]
theorem Good.cut {zs : List Int} (h : Good zs) : cutW zs = encL zs := by
  rw [cutW_take zs zs.length (Nat.le_refl _) (by rw [List.take_length, h.low]; exact h.2.2.2) (.inl rfl), List.take_length, h.low]
theorem Good.self {zs : List Int} (h : Good zs) : wordsB (encL zs) = [encL zs] := by
  unfold wordsB wordsR
  rw [runes_enc, h.norm, rowsL_all h.2.1, one_ne h.1, List.map_singleton, h.cut]
theorem good_of_row {p : List Int} (hne : p ≠ []) (h : ∀ r ∈ p, wordZ r = true) : ∃ zs, Good zs ∧ cutW p = encL zs := by
  obtain ⟨n, hn, h1, h2, h3⟩ := cutW_form p
  refine ⟨(p.take n).map lowerZ, ⟨?_, ?_, ?_, h2⟩, h1⟩
  · have := h3 hne
    have hp := List.length_pos_iff.2 hne
    intro h0
    have h9 := congrArg List.length h0
    rw [List.length_map, List.length_take, List.length_nil] at h9
    omega
  · intro z hz
    obtain ⟨r, hr, rfl⟩ := List.mem_map.1 hz
    rw [wordZ_lower]
    exact h r (List.mem_of_mem_take hr)
  · intro z hz
    obtain ⟨r, hr, rfl⟩ := List.mem_map.1 hz
    exact lower_lower r
theorem words_good (l : List Int) : ∃ Z : List (List Int), wordsR l = Z.map encL ∧ ∀ zs ∈ Z, Good zs := by
  unfold wordsR
  have hg := rowsL_good l
  generalize rowsL l = P at hg
  induction P with
  | nil => exact ⟨[], rfl, by simp⟩
  | cons p P ih =>
    obtain ⟨Z, h1, h2⟩ := ih (fun q hq => hg q (by simp [hq]))
    obtain ⟨zs, hz, e⟩ := good_of_row (hg p (by simp)).1 (hg p (by simp)).2
    exact ⟨zs :: Z, by rw [List.map_cons, List.map_cons, h1, e], fun q hq => by simp at hq; rcases hq with rfl | hq; exact hz; exact h2 q hq⟩
theorem word_self (l : List UInt8) : ∀ x ∈ wordsB l, wordsB x = [x] ∧ x.length ≤ 32 := by
  intro x hx
  obtain ⟨Z, h1, h2⟩ := words_good (runesL l)
  unfold wordsB at hx
  rw [h1] at hx
  obtain ⟨zs, hz, rfl⟩ := List.mem_map.1 hx
  exact ⟨(h2 zs hz).self, (h2 zs hz).2.2.2⟩
/-- Words, a blank behind each. -/
def allL (ws : List (List UInt8)) : List UInt8 := ws.flatMap fun x => x ++ [32]
theorem allL_nil : allL [] = [] := rfl
theorem allL_append (a b : List (List UInt8)) : allL (a ++ b) = allL a ++ allL b := by simp [allL]
theorem allL_enc (Z : List (List Int)) : allL (Z.map encL) = encL (Z.flatMap fun z => z ++ [32]) := by
  induction Z with
  | nil => rfl
  | cons z Z ih =>
    have e : encL [32] = [32] := by decide
    rw [List.map_cons, List.flatMap_cons, encL_append, encL_append, e, ← ih]
    rfl
theorem allL_words (l : List UInt8) : wordsB (allL (wordsB l)) = wordsB l := by
  obtain ⟨Z, h1, h2⟩ := words_good (runesL l)
  unfold wordsB
  rw [h1, allL_enc, runes_enc]
  clear h1
  have e : (Z.flatMap fun z => z ++ [32]).map norm = Z.flatMap fun z => z ++ [32] := by
    induction Z with
    | nil => rfl
    | cons z Z ih =>
      rw [List.flatMap_cons, List.map_append, List.map_append, (h2 z (by simp)).norm, ih (fun q hq => h2 q (by simp [hq]))]
      rfl
  rw [e]
  clear e
  induction Z with
  | nil => rfl
  | cons z Z ih =>
    have hz := h2 z (by simp)
    have : wordsR (List.flatMap (fun z => z ++ [32]) (z :: Z)) = cutW z :: wordsR (Z.flatMap fun z => z ++ [32]) := by
      unfold wordsR
      rw [List.flatMap_cons, List.append_assoc, List.singleton_append, rowsL_part hz.2.1 (by decide), one_ne hz.1]
      rfl
    rw [this, ih (fun q hq => h2 q (by simp [hq])), hz.cut]
    rfl
theorem allL_len (ws : List (List UInt8)) (h : ∀ x ∈ ws, x.length ≤ 32) : (allL ws).length ≤ 33 * ws.length := by
  induction ws with
  | nil => simp [allL]
  | cons x t ih =>
    have h1 := h x (by simp)
    have h2 := ih (fun y hy => h y (by simp [hy]))
    have e : allL (x :: t) = (x ++ [32]) ++ allL t := rfl
    rw [e, List.length_append, List.length_append, List.length_cons]
    simp
    omega

/-! ### names and terms -/
def nameByte (c : UInt8) : Bool := decide ((97 ≤ c.toNat ∧ c.toNat ≤ 122) ∨ (48 ≤ c.toNat ∧ c.toNat ≤ 57) ∨ c.toNat = 95)
def nameL (l : List UInt8) : Bool := decide (1 ≤ l.length ∧ l.length ≤ 32) && l.all nameByte
def wordL (l : List UInt8) : Bool := decide (wordsB l = [l])
def nameRune (r : Int) : Bool := decide ((97 ≤ r ∧ r ≤ 122) ∨ (48 ≤ r ∧ r ≤ 57) ∨ r = 95)
theorem wordL_le {l : List UInt8} (h : wordL l = true) : l.length ≤ 32 := by
  have e : wordsB l = [l] := of_decide_eq_true h
  exact (word_self l l (by rw [e]; simp)).2
end Go.Proofs.Ytgacfihidpijeaa.TK
set_option linter.unusedVariables false
namespace Go.Proofs.Ytgacfihidpijeaa.MM
open Go.RowKit

/-! ### whole numbers -/
theorem infoInt : (Try.prog.info? 3).map (fun i => (i.zero, i.size, i.bytes)) = some (some (.int .i64 0), 1, 8) := by kernel_rfl
/-- A slice value that reads as these numbers. -/
def IRow (w : World) (v : Value) (zs : List Int) : Prop := Row w v (zs.map (Value.int .i64))
def OwnI (B : Nat) (w : World) (v : Value) (zs : List Int) : Prop := w.ownsRow B 3 1 v zs.length (zs.map (Value.int .i64))
theorem OwnI.irow {B : Nat} {w : World} {v : Value} {zs : List Int} (h : OwnI B w v zs) : IRow w v zs := Row.of_own h
theorem OwnI.keep {w w' : World} {B : Nat} {v : Value} {zs : List Int} (h : OwnI B w v zs) (hb : Below w.heap.size w w') : OwnI B w' v zs := own_keep (B := 0) h hb
theorem OwnI.nil_ (B : Nat) (w : World) : OwnI B w (.slice none 0 0) [] := World.ownsRow_nil _ _ _ _
theorem IRow.below {w w' : World} {v : Value} {zs : List Int} (h : IRow w v zs) (hb : Below w.heap.size w w') : IRow w' v zs := Row.below (B := 0) h hb
theorem IRow.nil_ (w : World) : IRow w (.slice none 0 0) [] := Row.nil_ w
theorem IRow.shape {w : World} {v : Value} {zs : List Int} (h : IRow w v zs) : ∃ p cap, v = .slice p zs.length cap ∧ zs.length ≤ cap ∧ cap ≤ maxLen := by
  obtain ⟨p, cap, hv, h1, h2, _, _⟩ := h
  rw [List.length_map] at hv h1
  exact ⟨p, cap, hv, h1, h2⟩
theorem IRow.at_ {w : World} {p : Option Addr} {n cap : Nat} {zs : List Int} (h : IRow w (.slice p n cap) zs) {k : Nat} (hk : k < zs.length) :
    ∃ b off, p = some ⟨b, off, none⟩ ∧ b < w.heap.size ∧ w.cell? ⟨b, off + k, none⟩ = some (.int .i64 (zs.getD k 0)) := by
  obtain ⟨p', cap', hv, _, _, _, h⟩ := h
  simp only [Value.slice.injEq] at hv
  obtain ⟨rfl, _, _⟩ := hv
  rcases h with h | ⟨b, off, hp, hlt, hc⟩
  · have : zs = [] := List.map_eq_nil_iff.1 h
    subst this
    simp at hk
  · exact ⟨b, off, hp, hlt, hc k _ (by simp [List.getD, hk])⟩
theorem IRow.take {w : World} {p : Option Addr} {n cap : Nat} {zs : List Int} (h : IRow w (.slice p n cap) zs) (k : Nat) (hk : k ≤ n) : IRow w (.slice p k cap) (zs.take k) := by
  have := RowIn.take h k hk
  rw [← List.map_take] at this
  exact this
/-- append(row, n). -/
theorem wpList_append_int {w : World} {ops : Array Oper} {rest : List Oper} {o : Oper} {a : Act} {Q : Exit → Act → World → Prop} (hgd : o.guard = none) (s x : Operand)
    (ho : o.op = .call { callee := .builtin .append, args := #[s, x], argTypes := #[60, 60] }) (B : Nat) (v : Value) (zs : List Int) (w0 : World) (z : Int) (hw : w = w0.alloc (.cells #[.int .i64 z] 3)) (hs : a.eval s = v) (hown : OwnI B w0 v zs)
    (hx : a.eval x = .slice (some ⟨w0.heap.size, 0, none⟩) 1 1) (hlen : zs.length ≤ 4398046511104) (hbase : B ≤ w0.heap.size)
    (h : ∀ v' w', OwnI B w' v' (zs ++ [z]) → Below B w0 w' → wpList Try.prog ops Q rest (a.put o.dst v') w') : wpList Try.prog ops Q (o :: rest) a w := by
  subst hw
  obtain ⟨i0, hi, hz0, hz1, hz2⟩ := info_parts infoInt
  have hlo : ∀ k, v.ownBlock = some k → B ≤ k := fun k hk => (World.ownsRow.lt hown k hk).1
  refine wpList_append_own _ hgd s x 60 ho B 3 i0 (.int .i64 0) 1 8 Try.underlying60 hi hz0 hz1 hz2 rfl (by decide) v zs.length _ hs (World.ownsRow.alloc hown _) ⟨w0.heap.size, 0, none⟩ 1 1 [.int .i64 z] hx rfl (cell_new1 _ _ _) (int_one _ _)
    (by unfold maxLen; omega) (by omega) (by simp; omega) (fun v' w' h1 hg _ => h v' w' ?_ (below_app (Below.refl B w0) hbase hlo hg))
  unfold OwnI
  rw [List.length_append, List.map_append]
  exact h1
end Go.Proofs.Ytgacfihidpijeaa.MM
set_option linter.unusedVariables false
namespace Go.Proofs.Ytgacfihidpijeaa.MM
open Go.RowKit

theorem infoStr : (Try.prog.info? 9).map (fun i => (i.zero, i.size, i.bytes)) = some (some (.string ⟨#[]⟩), 1, 16) := by kernel_rfl
def strV (l : List UInt8) : Value := .string ⟨l.toArray⟩
/-- A slice value that reads as these texts, which lie below block B. -/
def TIn (B : Nat) (w : World) (v : Value) (ss : List (List UInt8)) : Prop := RowIn B w v (ss.map strV)
def TRow (w : World) (v : Value) (ss : List (List UInt8)) : Prop := TIn w.heap.size w v ss
/-- .. of the call's own, from block B on. -/
def OwnT (B : Nat) (w : World) (v : Value) (ss : List (List UInt8)) : Prop := w.ownsRow B 9 1 v ss.length (ss.map strV)
theorem OwnT.trow {B : Nat} {w : World} {v : Value} {ss : List (List UInt8)} (h : OwnT B w v ss) : TRow w v ss := Row.of_own h
theorem OwnT.keep {w w' : World} {B : Nat} {v : Value} {ss : List (List UInt8)} (h : OwnT B w v ss) (hb : Below w.heap.size w w') : OwnT B w' v ss := own_keep (B := 0) h hb
theorem OwnT.weaken {w : World} {B B' : Nat} {v : Value} {ss : List (List UInt8)} (h : OwnT B w v ss) (hB : B' ≤ B) : OwnT B' w v ss := by
  refine ⟨h.1, ?_⟩
  rcases h.2 with h0 | ⟨g, cap, cur, hv, hg, rest⟩
  · exact .inl h0
  · exact .inr ⟨g, cap, cur, hv, Nat.le_trans hB hg, rest⟩
theorem OwnT.nil_ (B : Nat) (w : World) : OwnT B w (.slice none 0 0) [] := World.ownsRow_nil _ _ _ _
theorem OwnT.shape {w : World} {B : Nat} {v : Value} {ss : List (List UInt8)} (h : OwnT B w v ss) : ∃ p cap, v = .slice p ss.length cap ∧ ss.length ≤ cap ∧ cap ≤ maxLen := by
  obtain ⟨p, cap, hv, h1, h2, _, _⟩ := h.trow
  rw [List.length_map] at hv h1
  exact ⟨p, cap, hv, h1, h2⟩
theorem TRow.below {w w' : World} {v : Value} {ss : List (List UInt8)} (h : TRow w v ss) (hb : Below w.heap.size w w') : TRow w' v ss := Row.below (B := 0) h hb
theorem TIn.below {B : Nat} {w w' : World} {v : Value} {ss : List (List UInt8)} (h : TIn B w v ss) (hb : Below B w w') : TIn B w' v ss := RowIn.below h hb
theorem TIn.mono {B B' : Nat} {w : World} {v : Value} {ss : List (List UInt8)} (h : TIn B w v ss) (hB : B ≤ B') : TIn B' w v ss := RowIn.mono h hB
theorem TRow.nil_ (w : World) : TRow w (.slice none 0 0) [] := Row.nil_ w
theorem TIn.shape {B : Nat} {w : World} {v : Value} {ss : List (List UInt8)} (h : TIn B w v ss) : ∃ p cap, v = .slice p ss.length cap ∧ ss.length ≤ cap ∧ cap ≤ maxLen := by
  obtain ⟨p, cap, hv, h1, h2, _, _⟩ := h
  rw [List.length_map] at hv h1
  exact ⟨p, cap, hv, h1, h2⟩
theorem TIn.at_ {B : Nat} {w : World} {p : Option Addr} {n cap : Nat} {ss : List (List UInt8)} (h : TIn B w (.slice p n cap) ss) {k : Nat} (hk : k < ss.length) :
    ∃ b off, p = some ⟨b, off, none⟩ ∧ b < B ∧ w.cell? ⟨b, off + k, none⟩ = some (.string ⟨(ss[k]).toArray⟩) := by
  obtain ⟨p', cap', hv, _, _, _, h⟩ := h
  simp only [Value.slice.injEq] at hv
  obtain ⟨rfl, _, _⟩ := hv
  rcases h with h | ⟨b, off, hp, hlt, hc⟩
  · have : ss = [] := List.map_eq_nil_iff.1 h
    subst this
    simp at hk
  · exact ⟨b, off, hp, hlt, hc k _ (by simp [hk, strV])⟩
/-- append(row, s). -/
theorem wpList_append_str {w : World} {ops : Array Oper} {rest : List Oper} {o : Oper} {a : Act} {Q : Exit → Act → World → Prop} (hgd : o.guard = none) (s x : Operand)
    (ho : o.op = .call { callee := .builtin .append, args := #[s, x], argTypes := #[124, 124] }) (B : Nat) (v : Value) (ss : List (List UInt8)) (w0 : World) (z : List UInt8) (hw : w = w0.alloc (.cells #[.string ⟨z.toArray⟩] 9)) (hs : a.eval s = v) (hown : OwnT B w0 v ss)
    (hx : a.eval x = .slice (some ⟨w0.heap.size, 0, none⟩) 1 1) (hlen : ss.length ≤ 1000000000000) (hbase : B ≤ w0.heap.size)
    (h : ∀ v' w', OwnT B w' v' (ss ++ [z]) → Below B w0 w' → wpList Try.prog ops Q rest (a.put o.dst v') w') : wpList Try.prog ops Q (o :: rest) a w := by
  subst hw
  obtain ⟨i0, hi, hz0, hz1, hz2⟩ := info_parts infoStr
  have hlo : ∀ k, v.ownBlock = some k → B ≤ k := fun k hk => (World.ownsRow.lt hown k hk).1
  refine wpList_append_own _ hgd s x 124 ho B 9 i0 (.string ⟨#[]⟩) 1 16 Try.underlying124 hi hz0 hz1 hz2 rfl (by decide) v ss.length _ hs (World.ownsRow.alloc hown _) ⟨w0.heap.size, 0, none⟩ 1 1 [.string ⟨z.toArray⟩] hx rfl (cell_new1 _ _ _) (by intro u hu; simp at hu; subst hu; rfl)
    (by unfold maxLen; omega) (by omega) (by simp; omega) (fun v' w' h1 hg _ => h v' w' ?_ (below_app (Below.refl B w0) hbase hlo hg))
  unfold OwnT
  rw [List.length_append, List.map_append]
  exact h1
/-- A literal of one text. -/
theorem trow_one (w : World) (z : List UInt8) : TRow (w.alloc (.cells #[.string ⟨z.toArray⟩] 9)) (.slice (some ⟨w.heap.size, 0, none⟩) 1 1) [z] :=
  Row.of_own (own_lit w [.string ⟨z.toArray⟩] 9 0 (Nat.zero_le _) (by unfold maxLen; simp))
/-- Two texts held against each other, as the walk spells it. -/
theorem same_list (l m : List UInt8) : ((⟨l.toArray⟩ : ByteArray).toList == (⟨m.toArray⟩ : ByteArray).toList) = decide (l = m) := by
  rw [Lib.toList_data, Lib.toList_data]
  by_cases h : l = m
  · subst h; simp
  · simp [h]
end Go.Proofs.Ytgacfihidpijeaa.MM
set_option linter.unusedVariables false
namespace Go.Proofs.Ytgacfihidpijeaa.UM
open Go.RowKit

def lowNo (k : Nat) (r : Int) : Prop := (1 ≤ k → ¬ (65 ≤ r ∧ r ≤ 90)) ∧ (2 ≤ k → ¬ (192 ≤ r ∧ r ≤ 214)) ∧ (3 ≤ k → ¬ (216 ≤ r ∧ r ≤ 222)) ∧ (4 ≤ k → ¬ (913 ≤ r ∧ r ≤ 929)) ∧ (5 ≤ k → ¬ (931 ≤ r ∧ r ≤ 939)) ∧ (6 ≤ k → ¬ (1024 ≤ r ∧ r ≤ 1039)) ∧ (7 ≤ k → ¬ (1040 ≤ r ∧ r ≤ 1071))
theorem lowNo_zero (r : Int) : lowNo 0 r := by unfold lowNo; omega
theorem lowNo_1 (r : Int) (h : lowNo 0 r) (g : ¬ (65 ≤ r ∧ r ≤ 90)) : lowNo 1 r := by unfold lowNo at *; omega
theorem lowNo_2 (r : Int) (h : lowNo 1 r) (g : ¬ (192 ≤ r ∧ r ≤ 214)) : lowNo 2 r := by unfold lowNo at *; omega
theorem lowNo_3 (r : Int) (h : lowNo 2 r) (g : ¬ (216 ≤ r ∧ r ≤ 222)) : lowNo 3 r := by unfold lowNo at *; omega
theorem lowNo_4 (r : Int) (h : lowNo 3 r) (g : ¬ (913 ≤ r ∧ r ≤ 929)) : lowNo 4 r := by unfold lowNo at *; omega
theorem lowNo_5 (r : Int) (h : lowNo 4 r) (g : ¬ (931 ≤ r ∧ r ≤ 939)) : lowNo 5 r := by unfold lowNo at *; omega
theorem lowNo_6 (r : Int) (h : lowNo 5 r) (g : ¬ (1024 ≤ r ∧ r ≤ 1039)) : lowNo 6 r := by unfold lowNo at *; omega
theorem lowNo_7 (r : Int) (h : lowNo 6 r) (g : ¬ (1040 ≤ r ∧ r ≤ 1071)) : lowNo 7 r := by unfold lowNo at *; omega
theorem lowNo_end (r : Int) (h : lowNo 7 r) : lowerZ r = r := by unfold lowNo at h; unfold lowerZ; (repeat' split) <;> omega
theorem low_hit0 (r : Int) (g : 65 ≤ r ∧ r ≤ 90) : lowerZ r = r + 32 := by unfold lowerZ; (repeat' split) <;> omega
theorem low_hit1 (r : Int) (g : 192 ≤ r ∧ r ≤ 214) : lowerZ r = r + 32 := by unfold lowerZ; (repeat' split) <;> omega
theorem low_hit2 (r : Int) (g : 216 ≤ r ∧ r ≤ 222) : lowerZ r = r + 32 := by unfold lowerZ; (repeat' split) <;> omega
theorem low_hit3 (r : Int) (g : 913 ≤ r ∧ r ≤ 929) : lowerZ r = r + 32 := by unfold lowerZ; (repeat' split) <;> omega
theorem low_hit4 (r : Int) (g : 931 ≤ r ∧ r ≤ 939) : lowerZ r = r + 32 := by unfold lowerZ; (repeat' split) <;> omega
theorem low_hit5 (r : Int) (g : 1024 ≤ r ∧ r ≤ 1039) : lowerZ r = r + 80 := by unfold lowerZ; (repeat' split) <;> omega
theorem low_hit6 (r : Int) (g : 1040 ≤ r ∧ r ≤ 1071) : lowerZ r = r + 32 := by unfold lowerZ; (repeat' split) <;> omega
def wordNo (k : Nat) (r : Int) : Prop := (1 ≤ k → ¬ (48 ≤ r ∧ r ≤ 57)) ∧ (2 ≤ k → ¬ (65 ≤ r ∧ r ≤ 90)) ∧ (3 ≤ k → ¬ (97 ≤ r ∧ r ≤ 122)) ∧ (4 ≤ k → ¬ (192 ≤ r ∧ r ≤ 214)) ∧ (5 ≤ k → ¬ (216 ≤ r ∧ r ≤ 246)) ∧ (6 ≤ k → ¬ (248 ≤ r ∧ r ≤ 255)) ∧ (7 ≤ k → ¬ (913 ≤ r ∧ r ≤ 929)) ∧ (8 ≤ k → ¬ (931 ≤ r ∧ r ≤ 974)) ∧ (9 ≤ k → ¬ (1024 ≤ r ∧ r ≤ 1119))
theorem wordNo_zero (r : Int) : wordNo 0 r := by unfold wordNo; omega
theorem wordNo_1 (r : Int) (h : wordNo 0 r) (g : ¬ (48 ≤ r ∧ r ≤ 57)) : wordNo 1 r := by unfold wordNo at *; omega
theorem wordNo_2 (r : Int) (h : wordNo 1 r) (g : ¬ (65 ≤ r ∧ r ≤ 90)) : wordNo 2 r := by unfold wordNo at *; omega
theorem wordNo_3 (r : Int) (h : wordNo 2 r) (g : ¬ (97 ≤ r ∧ r ≤ 122)) : wordNo 3 r := by unfold wordNo at *; omega
theorem wordNo_4 (r : Int) (h : wordNo 3 r) (g : ¬ (192 ≤ r ∧ r ≤ 214)) : wordNo 4 r := by unfold wordNo at *; omega
theorem wordNo_5 (r : Int) (h : wordNo 4 r) (g : ¬ (216 ≤ r ∧ r ≤ 246)) : wordNo 5 r := by unfold wordNo at *; omega
theorem wordNo_6 (r : Int) (h : wordNo 5 r) (g : ¬ (248 ≤ r ∧ r ≤ 255)) : wordNo 6 r := by unfold wordNo at *; omega
theorem wordNo_7 (r : Int) (h : wordNo 6 r) (g : ¬ (913 ≤ r ∧ r ≤ 929)) : wordNo 7 r := by unfold wordNo at *; omega
theorem wordNo_8 (r : Int) (h : wordNo 7 r) (g : ¬ (931 ≤ r ∧ r ≤ 974)) : wordNo 8 r := by unfold wordNo at *; omega
theorem wordNo_9 (r : Int) (h : wordNo 8 r) (g : ¬ (1024 ≤ r ∧ r ≤ 1119)) : wordNo 9 r := by unfold wordNo at *; omega
theorem wordNo_end (r : Int) (h : wordNo 9 r) : wordZ r = false := by unfold wordNo at h; unfold wordZ; exact decide_eq_false (by omega)
theorem word_hit0 (r : Int) (g : 48 ≤ r ∧ r ≤ 57) : wordZ r = true := by unfold wordZ; exact decide_eq_true (by omega)
theorem word_hit1 (r : Int) (g : 65 ≤ r ∧ r ≤ 90) : wordZ r = true := by unfold wordZ; exact decide_eq_true (by omega)
theorem word_hit2 (r : Int) (g : 97 ≤ r ∧ r ≤ 122) : wordZ r = true := by unfold wordZ; exact decide_eq_true (by omega)
theorem word_hit3 (r : Int) (g : 192 ≤ r ∧ r ≤ 214) : wordZ r = true := by unfold wordZ; exact decide_eq_true (by omega)
theorem word_hit4 (r : Int) (g : 216 ≤ r ∧ r ≤ 246) : wordZ r = true := by unfold wordZ; exact decide_eq_true (by omega)
theorem word_hit5 (r : Int) (g : 248 ≤ r ∧ r ≤ 255) : wordZ r = true := by unfold wordZ; exact decide_eq_true (by omega)
theorem word_hit6 (r : Int) (g : 913 ≤ r ∧ r ≤ 929) : wordZ r = true := by unfold wordZ; exact decide_eq_true (by omega)
theorem word_hit7 (r : Int) (g : 931 ≤ r ∧ r ≤ 974) : wordZ r = true := by unfold wordZ; exact decide_eq_true (by omega)
theorem word_hit8 (r : Int) (g : 1024 ≤ r ∧ r ≤ 1119) : wordZ r = true := by unfold wordZ; exact decide_eq_true (by omega)
theorem ret_int {k : IntKind} {a b : Int} (h : a = b) : Ending.returned (.int k a) = .returned (.int k b) := by rw [h]
theorem ret_bool {a b : Bool} (h : a = b) : Ending.returned (.bool a) = .returned (.bool b) := by rw [h]
end Go.Proofs.Ytgacfihidpijeaa.UM
set_option linter.unusedVariables false
namespace Go.Proofs.Ytgacfihidpijeaa.MM
open Go.ChangeShapes Go.WideShapes Go.ChangeAt Go.RowKit Go.Proofs

theorem own : ownKnob Try.prog.godebug = none := by kernel_rfl
theorem laidOut : laidOutB Try.prog = true := by kernel_rfl

theorem cell_lt {w : World} {b o : Nat} {v : Value} (h : w.cell? ⟨b, o, none⟩ = some v) : b < w.heap.size := by
  by_cases hb : b < w.heap.size
  · exact hb
  · simp [World.cell?, Array.getElem?_eq_none (Nat.le_of_not_lt hb)] at h

/-- Cells behind an address read as a row. -/
theorem row_of_cells {W : World} {a : Addr} {len cap : Nat} {xs : List Value} (hl : xs.length = len) (hlc : len ≤ cap) (hcm : cap ≤ maxLen) (hc : ∀ i u, xs[i]? = some u → W.cell? (a.add i) = some u) : Row W (.slice (some a) len cap) xs := by
  subst hl
  refine ⟨some a, cap, rfl, hlc, hcm, (fun h => by cases h), ?_⟩
  cases xs with
  | nil => exact .inl rfl
  | cons x xs =>
    right
    obtain ⟨b, off, spot⟩ := a
    have hc0 := hc 0 x rfl
    have hspot : spot = none := by simpa [Addr.add] using World.cell?_spot hc0
    subst hspot
    refine ⟨b, off, rfl, cell_lt (o := off) (v := x) (by simpa [Addr.add] using hc0), fun i u hi => ?_⟩
    rw [← add_at]
    exact hc i u hi

theorem u64_of_wf {x : Int} (h : (Lit.int .u64 x).wf = true) : ∃ n : Nat, x = (n : Int) ∧ n < 18446744073709551616 := by
  simp only [Lit.wf, Bool.and_eq_true, decide_eq_true_eq] at h
  have h1 : IntKind.u64.min = 0 := by decide
  have h2 : IntKind.u64.max = 18446744073709551615 := by decide
  rw [h1, h2] at h
  exact ⟨x.toNat, by omega, by omega⟩
theorem u32_of_wf {x : Int} (h : (Lit.int .u32 x).wf = true) : ∃ n : Nat, x = (n : Int) ∧ n < 4294967296 := by
  simp only [Lit.wf, Bool.and_eq_true, decide_eq_true_eq] at h
  have h1 : IntKind.u32.min = 0 := by decide
  have h2 : IntKind.u32.max = 4294967295 := by decide
  rw [h1, h2] at h
  exact ⟨x.toNat, by omega, by omega⟩
theorem u16_of_wf {x : Int} (h : (Lit.int .u16 x).wf = true) : ∃ n : Nat, x = (n : Int) ∧ n < 65536 := by
  simp only [Lit.wf, Bool.and_eq_true, decide_eq_true_eq] at h
  have h1 : IntKind.u16.min = 0 := by decide
  have h2 : IntKind.u16.max = 65535 := by decide
  rw [h1, h2] at h
  exact ⟨x.toNat, by omega, by omega⟩
theorem u8nat_of_wf {x : Int} (h : (Lit.int .u8 x).wf = true) : ∃ n : Nat, x = (n : Int) ∧ n < 256 := by
  simp only [Lit.wf, Bool.and_eq_true, decide_eq_true_eq] at h
  have h1 : IntKind.u8.min = 0 := by decide
  have h2 : IntKind.u8.max = 255 := by decide
  rw [h1, h2] at h
  exact ⟨x.toNat, by omega, by omega⟩
theorem u8_of_wf {x : Int} (h : (Lit.int .u8 x).wf = true) : 0 ≤ x ∧ x < 256 := by
  simp only [Lit.wf, Bool.and_eq_true, decide_eq_true_eq] at h
  have h1 : IntKind.u8.min = 0 := by decide
  have h2 : IntKind.u8.max = 255 := by decide
  rw [h1, h2] at h
  omega
theorem i64_of_wf {x : Int} (h : (Lit.int .i64 x).wf = true) : -9223372036854775808 ≤ x ∧ x ≤ 9223372036854775807 := by
  simp only [Lit.wf, Bool.and_eq_true, decide_eq_true_eq] at h
  have h1 : IntKind.i64.min = -9223372036854775808 := by decide
  have h2 : IntKind.i64.max = 9223372036854775807 := by decide
  rw [h1, h2] at h
  exact h

/-- A slice of bytes that came in. -/
theorem argBytes {H : Type} {enc : TypeId × Value → H} {W : World} {base : Nat} {T e : TypeId} {a : Option Addr} {len cap : Nat} {d : DataW H} {p : List MemPlace}
    (ht : Try.prog.underlying T = some (.slice e)) (he : Try.prog.underlying e = some (.int .u8)) (hc : Try.prog.cellsOf e = 1)
    (h : ∃ fuel, DataW.trod enc Try.prog W base (fun _ => true) true fuel T (Value.slice a len cap).cells.toList = some (d, p)) : ∃ l, BRow W (.slice a len cap) l := by
  obtain ⟨fuel, hf⟩ := h
  rcases open_ints ht he hc hf with ⟨hcs, _⟩ | ⟨x, n, c, zs, hcs, _, hl, hm, hz, _, hcell, hwz⟩
  · simp [Value.cells] at hcs
    obtain ⟨rfl, rfl, rfl⟩ := hcs
    exact ⟨[], BRow.nil_ W⟩
  · simp [Value.cells] at hcs
    obtain ⟨rfl, rfl, rfl⟩ := hcs
    have hzl : zs.length = cap := by simpa using hz
    refine ⟨(zs.take len).map (fun z => UInt8.ofNat z.toNat), row_of_cells (by rw [byteCells_len, List.length_map, List.length_take]; omega) hl hm (fun i u hi => ?_)⟩
    have hi2 : i < len := by
      have := (List.getElem?_eq_some_iff.1 hi).1
      rw [byteCells_len, List.length_map, List.length_take] at this
      omega
    have hlt : i < zs.length := by omega
    have hb := u8_of_wf (hwz zs[i] (List.getElem_mem hlt))
    have hu : u = .int .u8 (zs[i]) := by
      have hg := hi
      simp only [Lib.byteCells, List.getElem?_map, List.getElem?_take, if_pos hi2, List.getElem?_eq_getElem hlt, Option.map_some, Option.some.injEq] at hg
      rw [← hg]
      refine congrArg (Value.int .u8) ?_
      rw [UInt8.toNat_ofNat']
      omega
    rw [hu, hcell i hlt]
    simp [List.getD, hlt]
end Go.Proofs.Ytgacfihidpijeaa.MM
