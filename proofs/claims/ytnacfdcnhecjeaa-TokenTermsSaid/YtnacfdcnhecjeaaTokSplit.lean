/-
  Terms: the code's Term and Split, the reference's. Condition: texts of at most a million bytes.
-/
import Derived.Test.YtnacfdcnhecjeaaTokTerm
import Derived.Lib.IndexLaws
import Derived.Lib.ValidAsc
import Derived.Test.YtnacfdcnhecjeaaReg
set_option linter.unusedVariables false
namespace Go.Proofs.Ytnacfdcnhecjeaa.TK
open Go.RowKit Go.Proofs.Ytnacfdcnhecjeaa.MM

/-! ### plain -/
def termL (a b : List UInt8) : List UInt8 × Int := if (nameL a && wordL b) = true then (a ++ 58 :: b, 0) else ([], 1)
def notColon (c : UInt8) : Bool := !(c == 58)
def headL (t : List UInt8) : List UInt8 := t.takeWhile notColon
def tailL (t : List UInt8) : List UInt8 := (t.dropWhile notColon).drop 1
def splitL (t : List UInt8) : (List UInt8 × List UInt8) × Bool := if (nameL (headL t) && wordL (tailL t)) = true then ((headL t, tailL t), true) else (([], []), false)
theorem wordL_nil : wordL [] = false := by decide
theorem colon_at : ∀ (t : List UInt8) (i : Nat), t[i]? = some 58 → (∀ (k : Nat), k < i → t[k]? ≠ some 58) → headL t = t.take i ∧ tailL t = t.drop (i + 1)
  | [], i, h, _ => by simp at h
  | c :: t, 0, h, _ => by
    simp at h
    subst h
    simp [headL, tailL, notColon]
  | c :: t, i + 1, h, hk => by
    have hc : notColon c = true := by
      have := hk 0 (by omega)
      simp at this
      simp [notColon, this]
    obtain ⟨h1, h2⟩ := colon_at t i (by simpa using h) (fun k hl => by have := hk (k + 1) (by omega); simpa using this)
    unfold headL tailL at *
    rw [List.takeWhile_cons_of_pos hc, List.dropWhile_cons_of_pos hc, h1, h2]
    simp
theorem colon_none : ∀ (t : List UInt8), (∀ (k : Nat), t[k]? ≠ some 58) → headL t = t ∧ tailL t = []
  | [], _ => by simp [headL, tailL]
  | c :: t, hk => by
    have hc : notColon c = true := by
      have := hk 0
      simp at this
      simp [notColon, this]
    obtain ⟨h1, h2⟩ := colon_none t (fun k => by have := hk (k + 1); simpa using this)
    unfold headL tailL at *
    rw [List.takeWhile_cons_of_pos hc, List.dropWhile_cons_of_pos hc, h1, h2]
    simp
theorem name_colon {a : List UInt8} (h : nameL a = true) (b : List UInt8) : headL (a ++ 58 :: b) = a ∧ tailL (a ++ 58 :: b) = b := by
  have hall : a.all nameByte = true := by unfold nameL at h; simp at h; simpa using h.2
  have := colon_at (a ++ 58 :: b) a.length (by simp) (fun k hk => by
    rw [List.getElem?_append_left hk]
    intro e
    have h1 := List.all_eq_true.1 hall 58 (List.mem_of_getElem? e)
    exact absurd h1 (by decide))
  rw [this.1, this.2]
  simp
theorem split_term {a b : List UInt8} (h : (nameL a && wordL b) = true) : splitL (a ++ 58 :: b) = ((a, b), true) := by
  obtain ⟨h1, h2⟩ := name_colon (Bool.and_eq_true_iff.1 h).1 b
  unfold splitL
  rw [h1, h2, if_pos h]
theorem split_back {t n w : List UInt8} (h : splitL t = ((n, w), true)) : n ++ 58 :: w = t := by
  unfold splitL at h
  split at h
  · rename_i hc
    simp at h
    obtain ⟨rfl, rfl⟩ := h
    have hw := (Bool.and_eq_true_iff.1 hc).2
    by_cases hn : ∀ (k : Nat), t[k]? ≠ some 58
    · rw [(colon_none t hn).2, wordL_nil] at hw
      cases hw
    · have h2 := List.takeWhile_append_dropWhile (p := notColon) (l := t)
      cases hd : t.dropWhile notColon with
      | nil =>
        unfold tailL at hw
        rw [hd, List.drop_nil, wordL_nil] at hw
        cases hw
      | cons c r =>
        have hc2 : notColon c = false := by
          have := List.head_dropWhile_not (p := notColon) (l := t) (by rw [hd]; simp)
          simpa [hd] using this
        have h58 : c = 58 := by simpa [notColon] using hc2
        unfold headL tailL
        rw [hd] at h2 ⊢
        subst h58
        simpa using h2
  · simp at h
/-- The lengths of what a term's bytes are parted into. -/
theorem head_len (t : List UInt8) : (headL t).length ≤ t.length := by
  unfold headL
  exact (List.takeWhile_sublist _).length_le
theorem tail_len (t : List UInt8) : (tailL t).length ≤ t.length := by
  unfold tailL
  rw [List.length_drop]
  have := (List.dropWhile_sublist (p := notColon) (l := t)).length_le
  omega

/-! ### Term -/
/-- A text and a number. -/
def TermLeft (p : List UInt8 × Int) (w : World) (e : Ending) (w' : World) : Prop := e = .returned (.tuple #[.string ⟨p.1.toArray⟩, .int .i64 p.2]) ∧ Below w.heap.size w w'
theorem cat_colon (a b : List UInt8) : (⟨a.toArray⟩ : ByteArray) ++ ⟨#[58]⟩ ++ ⟨b.toArray⟩ = ⟨(a ++ 58 :: b).toArray⟩ := by
  have e : (⟨#[58]⟩ : ByteArray) = ⟨([58] : List UInt8).toArray⟩ := rfl
  rw [e, bytes_cat, bytes_cat]
  simp
set_option maxRecDepth 100000 in
theorem term_any (a b : List UInt8) (w : World) (hb : b.length ≤ 1000000) : Calls Try.prog 14 #[.string ⟨a.toArray⟩, .string ⟨b.toArray⟩] w (TermLeft (termL a b) w) := by
  have HN := Lib.hid (fun W => isname_any ⟨a.toArray⟩ W)
  have HW := Lib.hid (fun W => isword_any ⟨b.toArray⟩ W (by rw [text_size]; exact hb))
  have HCC := Lib.hid (cat_colon a b)
  unfold termL
  have ea : (⟨a.toArray⟩ : ByteArray).data.toList = a := by simp
  have eb : (⟨b.toArray⟩ : ByteArray).data.toList = b := by simp
  rw [ea] at HN
  rw [eb] at HW
  obtain ⟨A, hA⟩ : ∃ A : ByteArray, A = ⟨a.toArray⟩ := ⟨_, rfl⟩
  obtain ⟨Bb, hBb⟩ : ∃ A : ByteArray, A = ⟨b.toArray⟩ := ⟨_, rfl⟩
  rw [← hA] at HN HCC ⊢
  rw [← hBb] at HW HCC ⊢
  have hAs : A.size = a.length := by rw [hA, text_size]
  have hBs : Bb.size = b.length := by rw [hBb, text_size]
  clear ea eb hA hBb
  cases hn : nameL a with
  | false =>
    rw [hn] at HN
    rw [Bool.false_and, if_neg (by simp)]
    clear hn HW HCC hAs hBs
    go_enter Try.func14, Try.ntmps14
    go_wp2_with fail
    refine (HN.out _).mono ?_
    rintro e w2 ⟨rfl, hb2⟩
    have HB := Lib.hid hb2
    clear hb2 HN
    go_wp2_with fail
    go_ret2
    exact ⟨rfl, HB.out⟩
  | true =>
    rw [hn] at HN
    rw [Bool.true_and]
    cases hw : wordL b with
    | false =>
      rw [hw] at HW
      rw [if_neg (by simp)]
      clear hn hw HCC hAs hBs
      go_enter Try.func14, Try.ntmps14
      go_wp2_with fail
      refine (HN.out _).mono ?_
      rintro e w2 ⟨rfl, hb2⟩
      have HB := Lib.hid hb2
      clear hb2 HN
      go_wp2_with fail
      refine (HW.out _).mono ?_
      rintro e w3 ⟨rfl, hb3⟩
      have HB3 := Lib.hid (grow HB.out hb3)
      clear hb3 HW
      go_wp2_with fail
      go_ret2
      exact ⟨rfl, HB3.out⟩
    | true =>
      rw [hw] at HW
      rw [if_pos rfl]
      have h1 : A.size ≤ 32 := by
        unfold nameL at hn
        simp at hn
        rw [hAs]; omega
      have h2 : Bb.size ≤ 32 := by rw [hBs]; exact wordL_le hw
      clear hn hw hAs hBs
      go_enter Try.func14, Try.ntmps14
      go_wp2_with fail
      refine (HN.out _).mono ?_
      rintro e w2 ⟨rfl, hb2⟩
      have HB := Lib.hid hb2
      clear hb2 HN
      go_wp2_with fail
      refine (HW.out _).mono ?_
      rintro e w3 ⟨rfl, hb3⟩
      have HB3 := Lib.hid (grow HB.out hb3)
      clear hb3 HW
      go_wp2_with fail
      go_ret2
      exact ⟨by rw [← HCC.out]; rfl, HB3.out⟩
set_option maxRecDepth 100000 in
theorem rterm_any (a b : List UInt8) (w : World) (ha : a.length ≤ 1000000) (hb : b.length ≤ 1000000) : Calls Try.prog 15 #[.string ⟨a.toArray⟩, .string ⟨b.toArray⟩] w (TermLeft (termL a b) w) := by
  have HN := Lib.hid (fun W => risname_any ⟨a.toArray⟩ W (by rw [text_size]; omega))
  have HW := Lib.hid (fun W => risword_any ⟨b.toArray⟩ W (by rw [text_size]; exact hb))
  have HCC := Lib.hid (cat_colon a b)
  unfold termL
  have ea : (⟨a.toArray⟩ : ByteArray).data.toList = a := by simp
  have eb : (⟨b.toArray⟩ : ByteArray).data.toList = b := by simp
  rw [ea] at HN
  rw [eb] at HW
  obtain ⟨A, hA⟩ : ∃ A : ByteArray, A = ⟨a.toArray⟩ := ⟨_, rfl⟩
  obtain ⟨Bb, hBb⟩ : ∃ A : ByteArray, A = ⟨b.toArray⟩ := ⟨_, rfl⟩
  rw [← hA] at HN HCC ⊢
  rw [← hBb] at HW HCC ⊢
  have hAs : A.size = a.length := by rw [hA, text_size]
  have hBs : Bb.size = b.length := by rw [hBb, text_size]
  clear ea eb hA hBb
  cases hn : nameL a with
  | false =>
    rw [hn] at HN
    rw [Bool.false_and, if_neg (by simp)]
    clear hn HW HCC hAs hBs
    go_enter Try.func15, Try.ntmps15
    go_wp2_with fail
    refine (HN.out _).mono ?_
    rintro e w2 ⟨rfl, hb2⟩
    have HB := Lib.hid hb2
    clear hb2 HN
    go_wp2_with fail
    go_ret2
    exact ⟨rfl, HB.out⟩
  | true =>
    rw [hn] at HN
    rw [Bool.true_and]
    cases hw : wordL b with
    | false =>
      rw [hw] at HW
      rw [if_neg (by simp)]
      clear hn hw HCC hAs hBs
      go_enter Try.func15, Try.ntmps15
      go_wp2_with fail
      refine (HN.out _).mono ?_
      rintro e w2 ⟨rfl, hb2⟩
      have HB := Lib.hid hb2
      clear hb2 HN
      go_wp2_with fail
      refine (HW.out _).mono ?_
      rintro e w3 ⟨rfl, hb3⟩
      have HB3 := Lib.hid (grow HB.out hb3)
      clear hb3 HW
      go_wp2_with fail
      go_ret2
      exact ⟨rfl, HB3.out⟩
    | true =>
      rw [hw] at HW
      rw [if_pos rfl]
      have h1 : A.size ≤ 32 := by
        unfold nameL at hn
        simp at hn
        rw [hAs]; omega
      have h2 : Bb.size ≤ 32 := by rw [hBs]; exact wordL_le hw
      clear hn hw hAs hBs
      go_enter Try.func15, Try.ntmps15
      go_wp2_with fail
      refine (HN.out _).mono ?_
      rintro e w2 ⟨rfl, hb2⟩
      have HB := Lib.hid hb2
      clear hb2 HN
      go_wp2_with fail
      refine (HW.out _).mono ?_
      rintro e w3 ⟨rfl, hb3⟩
      have HB3 := Lib.hid (grow HB.out hb3)
      clear hb3 HW
      go_wp2_with fail
      go_ret2
      exact ⟨by rw [← HCC.out]; rfl, HB3.out⟩
/-! ### the library's search for a colon -/
set_option maxRecDepth 100000 in
theorem index_any (s : ByteArray) (w : World) : Calls Try.prog 46 #[.string s, .string ⟨#[58]⟩] w fun e w' => e = .returned (.int .i64 (Lib.indexByte s.data.toList 58)) ∧ w' = w := by
  have HI := Lib.hid (Try.stringslite_IndexByte s 58 w)
  cases hq : (([58] : List UInt8) == s.toList) with
  | true =>
    have e : Lib.indexByte s.data.toList 58 = 0 := by
      rw [Lib.toList_data] at hq
      have : s.data.toList = [58] := (by simpa using hq : [58] = s.data.toList).symm
      rw [this]; rfl
    rw [e]
    clear e
    go_enter Try.func46, Try.ntmps46
    go_wp2_with fail
    go_ret
    exact ⟨rfl, rfl⟩
  | false =>
    go_enter Try.func46, Try.ntmps46
    go_wp2_with fail
    refine HI.out.mono ?_
    rintro e w2 ⟨rfl, rfl⟩
    go_wp2_with fail
    go_ret
    exact ⟨rfl, rfl⟩

/-- What a search for a colon tells. -/
theorem index_cases (t : List UInt8) : (Lib.indexByte t 58 = -1 ∧ headL t = t ∧ tailL t = []) ∨ (∃ i : Nat, i < t.length ∧ Lib.indexByte t 58 = (i : Int) ∧ headL t = t.take i ∧ tailL t = t.drop (i + 1) ∧ t[i]? = some 58 ∧ ∀ (k : Nat), k < i → t[k]? ≠ some 58) := by
  have hg := Lib.indexByte_ge t 58
  by_cases h : Lib.indexByte t 58 = -1
  · exact .inl ⟨h, (colon_none t (Lib.indexByte_none h)).1, (colon_none t (Lib.indexByte_none h)).2⟩
  · right
    obtain ⟨i, hi⟩ : ∃ i : Nat, Lib.indexByte t 58 = (i : Int) := ⟨(Lib.indexByte t 58).toNat, by omega⟩
    obtain ⟨h1, h2⟩ := Lib.indexByte_some hi
    exact ⟨i, (List.getElem?_eq_some_iff.1 h1).1, hi, (colon_at t i h1 h2).1, (colon_at t i h1 h2).2, h1, h2⟩
theorem ext_take (s : ByteArray) (i : Nat) : s.extract 0 i = ⟨(s.data.toList.take i).toArray⟩ := by
  apply ByteArray.ext
  apply Array.toList_inj.1
  rw [ByteArray.data_extract, Array.toList_extract]
  simp
theorem ext_drop (s : ByteArray) (i : Nat) : s.extract i s.size = ⟨(s.data.toList.drop i).toArray⟩ := by
  apply ByteArray.ext
  apply Array.toList_inj.1
  rw [Lib.ext_list]
set_option maxRecDepth 100000 in
theorem scut_any (s : ByteArray) (w : World) (hs : s.size ≤ 1000000) : Calls Try.prog 40 #[.string s, .string ⟨#[58]⟩] w fun e w' => (∃ b, e = .returned (.tuple #[.string ⟨(headL s.data.toList).toArray⟩, .string ⟨(tailL s.data.toList).toArray⟩, .bool b])) ∧ Below w.heap.size w w' := by
  have HI := Lib.hid (index_any s w)
  have hz := Lib.size_eq s
  rcases index_cases s.data.toList with ⟨h1, h2, h3⟩ | ⟨i, hi, h1, h2, h3, _, _⟩
  · rw [h2, h3]
    rw [h1] at HI
    have hsb : s = ⟨s.data.toList.toArray⟩ := by simp
    rw [← hsb]
    clear h1 h2 h3 hsb hz
    go_enter Try.func40, Try.ntmps40
    go_wp2_with fail
    refine HI.out.mono ?_
    rintro e w2 ⟨rfl, rfl⟩
    go_wp2_with fail
    go_ret3
    exact ⟨⟨_, rfl⟩, Below.refl _ _⟩
  · rw [h2, h3]
    rw [h1] at HI
    have q1 : decide ((i : Int) ≥ 0) = true := by rw [decide_eq_true_eq]; omega
    have q2 : (i : Int) ≤ (s.size : Int) := by omega
    have q3 : (i : Int) + 1 ≤ (s.size : Int) := by omega
    clear h1 h2 h3 hz
    go_enter Try.func40, Try.ntmps40
    go_wp2_with fail
    refine HI.out.mono ?_
    rintro e w2 ⟨rfl, rfl⟩
    go_wp2_with fail
    go_quiet (fail)
    go_wp2_with fail
    rw [ext_take, ext_drop]
    go_ret3
    exact ⟨⟨_, rfl⟩, MM.below_drewN (Below.refl _ _) _⟩
set_option maxRecDepth 100000 in
theorem cut_any (s : ByteArray) (w : World) (hs : s.size ≤ 1000000) : Calls Try.prog 29 #[.string s, .string ⟨#[58]⟩] w fun e w' => (∃ b, e = .returned (.tuple #[.string ⟨(headL s.data.toList).toArray⟩, .string ⟨(tailL s.data.toList).toArray⟩, .bool b])) ∧ Below w.heap.size w w' := by
  have HI := Lib.hid (scut_any s w hs)
  obtain ⟨X, hX⟩ : ∃ X : ByteArray, X = ⟨(headL s.data.toList).toArray⟩ := ⟨_, rfl⟩
  obtain ⟨Y, hY⟩ : ∃ X : ByteArray, X = ⟨(tailL s.data.toList).toArray⟩ := ⟨_, rfl⟩
  rw [← hX, ← hY] at HI ⊢
  clear hX hY
  go_enter Try.func29, Try.ntmps29
  go_wp2_with fail
  refine HI.out.mono ?_
  rintro e w2 ⟨⟨b, rfl⟩, hb⟩
  have HB := Lib.hid hb
  clear hb HI
  go_wp2_with fail
  go_ret3
  exact ⟨⟨_, rfl⟩, HB.out⟩

/-! ### Split -/
/-- Two texts and a truth. -/
def SplitLeft (p : (List UInt8 × List UInt8) × Bool) (w : World) (e : Ending) (w' : World) : Prop := e = .returned (.tuple #[.string ⟨p.1.1.toArray⟩, .string ⟨p.1.2.toArray⟩, .bool p.2]) ∧ Below w.heap.size w w'
set_option maxRecDepth 100000 in
theorem split_any (s : ByteArray) (w : World) (hs : s.size ≤ 1000000) : Calls Try.prog 16 #[.string s] w (SplitLeft (splitL s.data.toList) w) := by
  have HI := Lib.hid (cut_any s w hs)
  have hz := Lib.size_eq s
  obtain ⟨t, ht⟩ : ∃ t, s.data.toList = t := ⟨_, rfl⟩
  rw [ht] at HI hz ⊢
  have HT := Lib.hid (fun W => term_any (headL t) (tailL t) W (by have := tail_len t; omega))
  unfold splitL
  unfold termL at HT
  obtain ⟨X, hX⟩ : ∃ X, headL t = X := ⟨_, rfl⟩
  obtain ⟨Y, hY⟩ : ∃ Y, tailL t = Y := ⟨_, rfl⟩
  rw [hX, hY] at HI HT ⊢
  clear ht hz hX hY
  cases hc : (nameL X && wordL Y) with
  | true =>
    rw [hc] at HT
    rw [if_pos rfl]
    simp only [if_true] at HT
    clear hc
    go_enter Try.func16, Try.ntmps16
    go_wp2_with fail
    refine HI.out.mono ?_
    rintro e w2 ⟨⟨b, rfl⟩, hb⟩
    have HB := Lib.hid hb
    clear hb HI
    go_wp2_with fail
    refine (HT.out _).mono ?_
    rintro e w3 ⟨rfl, hb3⟩
    have HB3 := Lib.hid (grow HB.out hb3)
    clear hb3 HT
    go_wp2_with fail
    go_ret3
    exact ⟨rfl, HB3.out⟩
  | false =>
    rw [hc] at HT
    rw [if_neg (by simp)]
    simp only [Bool.false_eq_true, if_false] at HT
    clear hc
    go_enter Try.func16, Try.ntmps16
    go_wp2_with fail
    refine HI.out.mono ?_
    rintro e w2 ⟨⟨b, rfl⟩, hb⟩
    have HB := Lib.hid hb
    clear hb HI
    go_wp2_with fail
    refine (HT.out _).mono ?_
    rintro e w3 ⟨rfl, hb3⟩
    have HB3 := Lib.hid (grow HB.out hb3)
    clear hb3 HT
    go_wp2_with fail
    go_ret3
    exact ⟨rfl, HB3.out⟩
set_option maxRecDepth 100000 in
set_option maxHeartbeats 400000 in
theorem rsplit_any (s : ByteArray) (w : World) (hs : s.size ≤ 1000000) : Calls Try.prog 17 #[.string s] w (SplitLeft (splitL s.data.toList) w) := by
  have hz := Lib.size_eq s
  obtain ⟨t, ht⟩ : ∃ t, s.data.toList = t := ⟨_, rfl⟩
  have HTT := Lib.hid ht
  rw [ht] at hz ⊢
  have HZ := Lib.hid hz
  have H0 : Hid (∀ (k : Nat), k < 0 → t[k]? ≠ some 58) := Lib.hid (fun k hk => by omega)
  have htl : t.length ≤ 1000000 := by omega
  clear ht hz
  go_enter Try.func17, Try.ntmps17
  go_wp2_with fail
  go_loopw [5] (fun iv wr => ∃ i : Nat, i ≤ t.length ∧ iv = .int .i64 i ∧ Hid (∀ (k : Nat), k < i → t[k]? ≠ some 58) ∧ Hid (Below w.heap.size w wr)) (fun iv _ => t.length - (intOf iv).toNat)
  case atStart => exact ⟨0, by omega, rfl, H0, Lib.hid (Below.refl _ _)⟩
  case round =>
    obtain ⟨i, hi, rfl, HC, HB⟩ := hrel
    clear H0
    have hsz := HZ.out
    by_cases hlt : i < t.length
    · have q1 : decide ((i : Int) < (s.size : Int)) = true := by rw [decide_eq_true_eq]; omega
      have q1b : decide (i < s.size) = true := by rw [decide_eq_true_eq]; omega
      have hix := str_index HTT.out (List.getElem?_eq_getElem hlt)
      by_cases h58 : t[i] = 58
      · have q2 : (((t[i]).toNat : Int) == 58) = true := by rw [h58]; rfl
        obtain ⟨h1, h2⟩ := colon_at t i (by rw [List.getElem?_eq_getElem hlt, h58]) HC.out
        obtain ⟨m, hm⟩ : ∃ m : Nat, i + 1 = m := ⟨_, rfl⟩
        rw [hm] at h2
        have hT := fun W => rterm_any (t.take i) (t.drop m) W (by rw [List.length_take]; omega) (by rw [List.length_drop]; omega)
        have e1 := ext_take s i
        have e2 := ext_drop s m
        rw [HTT.out] at e1 e2
        rw [← e1, ← e2] at hT
        have E1 := Lib.hid e1
        have E2 := Lib.hid e2
        have q3 : (i : Int) ≤ (s.size : Int) := by omega
        have q4 : (m : Int) ≤ (s.size : Int) := by omega
        have q5 : i ≤ s.size := by omega
        have q6 : m ≤ s.size := by omega
        have hw0 : (i : Int) + 1 = (m : Int) := by omega
        have hw1 : IntKind.i64.wrap (m : Int) = (m : Int) := by rw [IntKind.wrap_i64]; omega
        have hsp : splitL t = splitL t := rfl
        conv at hsp => rhs; unfold splitL
        unfold termL at hT
        rw [h1, h2] at hsp
        obtain ⟨X, hX⟩ : ∃ X, t.take i = X := ⟨_, rfl⟩
        obtain ⟨Y, hY⟩ : ∃ Y, t.drop m = Y := ⟨_, rfl⟩
        rw [hX] at hT E1 hsp
        rw [hY] at hT E2 hsp
        have HT := Lib.hid hT
        generalize (t[i]).toNat = c at *
        cases hc : (nameL X && wordL Y) with
        | true =>
          rw [hc] at HT hsp
          rw [if_pos rfl] at hsp
          have HSP := Lib.hid hsp
          simp only [if_true] at HT
          clear hsp h1 h2 e1 e2 hT hsz hc hX hY
          go_wp2_with fail
          refine RG.begin_ [(0, true), (1, true), (2, true), (3, true), (4, true), (5, true), (6, true), (7, false), (8, true), (9, true), (11, true), (10, true), (12, true)] (by kernel_rfl) (by kernel_rfl) rfl (by kernel_rfl) (fun _ _ d _ _ h => by cases d <;> exact h) ?_
          simp only [RG.ordered, List.map_cons, List.map_nil, List.getElem?_toArray, List.getElem?_cons_succ, List.getElem?_cons_zero]
          repeat (refine RG.take (by rfl) (by intro W hW; go_simp; with_reducible rfl) ?_; simp only [Act.put, List.setIfInBounds_toArray, List.set_cons_zero, List.set_cons_succ])
          refine RG.alone (by rfl) (fun K hK => ?_)
          go_simp
          refine (HT.out _).mono ?_
          rintro e w3 ⟨rfl, hb3⟩
          go_simp
          refine hK.out _ _ hb3 ?_
          clear hK K
          have HB3 := Lib.hid (HB.out.drew.trans (hb3.mono HB.out.drew.size))
          repeat (refine RG.take (by rfl) (by intro W hW; go_simp; with_reducible rfl) ?_; simp only [Act.put, List.setIfInBounds_toArray, List.set_cons_zero, List.set_cons_succ])
          refine RG.done ?_
          clear hb3 HT
          go_wp2_with fail
          go_quiet (fail)
          go_wp2_with fail
          go_ret3
          exact ⟨by rw [HSP.out, ← E1.out, ← E2.out]; rfl, MM.below_drewN HB3.out _⟩
        | false =>
          rw [hc] at HT hsp
          rw [if_neg (by simp)] at hsp
          have HSP := Lib.hid hsp
          simp only [Bool.false_eq_true, if_false] at HT
          clear hsp h1 h2 e1 e2 hT hsz hc hX hY
          go_wp2_with fail
          refine RG.begin_ [(0, true), (1, true), (2, true), (3, true), (4, true), (5, true), (6, true), (7, false), (8, true), (9, true), (11, true), (10, true), (12, true)] (by kernel_rfl) (by kernel_rfl) rfl (by kernel_rfl) (fun _ _ d _ _ h => by cases d <;> exact h) ?_
          simp only [RG.ordered, List.map_cons, List.map_nil, List.getElem?_toArray, List.getElem?_cons_succ, List.getElem?_cons_zero]
          repeat (refine RG.take (by rfl) (by intro W hW; go_simp; with_reducible rfl) ?_; simp only [Act.put, List.setIfInBounds_toArray, List.set_cons_zero, List.set_cons_succ])
          refine RG.alone (by rfl) (fun K hK => ?_)
          go_simp
          refine (HT.out _).mono ?_
          rintro e w3 ⟨rfl, hb3⟩
          go_simp
          refine hK.out _ _ hb3 ?_
          clear hK K
          have HB3 := Lib.hid (HB.out.drew.trans (hb3.mono HB.out.drew.size))
          repeat (refine RG.take (by rfl) (by intro W hW; go_simp; with_reducible rfl) ?_; simp only [Act.put, List.setIfInBounds_toArray, List.set_cons_zero, List.set_cons_succ])
          refine RG.done ?_
          clear hb3 HT
          go_wp2_with fail
          go_ret3
          exact ⟨by rw [HSP.out]; rfl, HB3.out⟩
      · have q2 : (((t[i]).toNat : Int) == 58) = false := by
          rw [beq_eq_false_iff_ne]
          intro h
          exact h58 (UInt8.toNat_inj.1 (by have h2 : (58 : UInt8).toNat = 58 := rfl; omega))
        have hnx : Hid (∀ (k : Nat), k < i + 1 → t[k]? ≠ some 58) := Lib.hid (fun k hk => by
          by_cases e : k = i
          · subst e; rw [List.getElem?_eq_getElem hlt]; simpa using h58
          · exact HC.out k (by omega))
        generalize (t[i]).toNat = c at *
        clear HC h58 hsz
        go_wp2_with fail
        go_roundw
        case rel => exact ⟨i + 1, by omega, by go_num, hnx, HB⟩
        case measure => simp [intOf]; omega
    · obtain rfl : i = t.length := by omega
      have q1 : decide ((t.length : Int) < (s.size : Int)) = false := by rw [decide_eq_false_iff_not]; omega
      have q1b : decide (t.length < s.size) = false := by rw [decide_eq_false_iff_not]; omega
      obtain ⟨h1, h2⟩ := colon_none t (fun k => by
        by_cases hk : k < t.length
        · exact HC.out k hk
        · rw [List.getElem?_eq_none (by omega)]; simp)
      have hsp : splitL t = (([], []), false) := by
        unfold splitL
        rw [h1, h2, wordL_nil, Bool.and_false, if_neg (by simp)]
      have HSP := Lib.hid hsp
      clear hsz HC hsp
      go_wp2_with fail
      go_ret3
      exact ⟨by rw [HSP.out]; rfl, HB.out⟩
end Go.Proofs.Ytnacfdcnhecjeaa.TK
