/-
  Is it a word: the code's and the reference's. Condition: texts of at most a million bytes.
-/
import Derived.Test.YtnacfdcnhecjeaaTokSame
import Derived.Test.YtnacfdcnhecjeaaTokName
set_option linter.unusedVariables false
namespace Go.Proofs.Ytnacfdcnhecjeaa.TK
open Go.RowKit Go.Proofs.Ytnacfdcnhecjeaa.MM
open Go.Proofs.Ytnacfdcnhecjeaa.UM (lowerZ wordZ encL runesL)

/-- A row of texts is it a row of just this one? -/
theorem equal_one (u : Value) (ss : List (List UInt8)) (x : List UInt8) (w : World) (b : Nat) (hu : TRow w u ss) (hb : TRow w (.slice (some ⟨b, 0, none⟩) 1 1) [x]) :
    Calls Try.prog 30 #[u, .slice (some ⟨b, 0, none⟩) 1 1] w (TruthLeft (decide (ss = [x])) w) := by
  obtain ⟨p, cap, rfl, h1, h2⟩ := hu.shape
  unfold maxLen at h2
  obtain ⟨b2, off2, hp2, hlt2, hc2⟩ := TIn.at_ hb (k := 0) (by simp)
  simp only [Option.some.injEq, Addr.mk.injEq] at hp2
  obtain ⟨rfl, rfl, _⟩ := hp2
  by_cases h0 : ss = []
  · subst h0
    refine (Try.slices_Equal_string_empty p _ cap 1 1 w (by omega)).mono ?_
    rintro e w' ⟨rfl, rfl⟩
    exact ⟨by simp, Below.refl _ _⟩
  · have hlp := List.length_pos_iff.2 h0
    obtain ⟨b1, off1, rfl, hlt1, _⟩ := TIn.at_ hu (k := 0) hlp
    have hcs : ∀ j, j < (ss.map fun l => (⟨l.toArray⟩ : ByteArray)).length → w.cell? ⟨b1, off1 + j, none⟩ = some (.string ((ss.map fun l => (⟨l.toArray⟩ : ByteArray)).getD j ByteArray.empty)) := fun j hj => by
      rw [List.length_map] at hj
      obtain ⟨b', off', hp, _, hc⟩ := TIn.at_ hu hj
      simp only [Option.some.injEq, Addr.mk.injEq] at hp
      obtain ⟨rfl, rfl, _⟩ := hp
      rw [hc]
      simp [List.getD, hj]
    refine (Try.slices_Equal_string b1 off1 ss.length cap b 0 1 1 (ss.map fun l => (⟨l.toArray⟩ : ByteArray)) [⟨x.toArray⟩] w (by simp) (by simp) (by omega) (by omega) hcs (fun j hj => by
      have : j = 0 := by simp at hj; omega
      subst this
      exact hc2)).mono ?_
    rintro e w' ⟨rfl, q, rfl⟩
    refine ⟨?_, MM.below_drewN (Below.refl _ _) _⟩
    congr 2
    rw [decide_eq_decide]
    rw [show ss.length = (ss.map fun l => (⟨l.toArray⟩ : ByteArray)).length by simp, List.take_length]
    constructor
    · intro h
      have := congrArg (List.map fun s : ByteArray => s.data.toList) h
      simpa [Function.comp_def] using this
    · intro h; subst h; rfl

set_option maxRecDepth 100000 in
theorem isword_any (s : ByteArray) (w : World) (hs : s.size ≤ 1000000) : Calls Try.prog 18 #[.string s] w (TruthLeft (wordL s.data.toList) w) := by
  have hz := Lib.size_eq s
  by_cases h1 : s.size ≤ 32
  · have t1 : decide ((s.size : Int) ≤ 32) = true := by rw [decide_eq_true_eq]; omega
    have HWd := Lib.hid (words_any s w hs)
    have hsb : s = ⟨s.data.toList.toArray⟩ := by simp
    unfold wordL
    obtain ⟨x, hx⟩ : ∃ x, s.data.toList = x := ⟨_, rfl⟩
    rw [hx] at hsb HWd ⊢
    have t2 : decide ((x.length : Int) ≤ 32) = true := by rw [decide_eq_true_eq, ← hx, ← hz]; omega
    subst hsb
    clear hz h1 hx t1
    go_enter Try.func18, Try.ntmps18
    go_wp2_with fail
    refine HWd.out.mono ?_
    rintro e w2 ⟨v, rfl, hown, hb⟩
    have hb0 : Below w2.heap.size w2 (w2.alloc (.cells #[.string ⟨x.toArray⟩] 9)) := (Below.refl _ _).alloc (Nat.le_refl _) _
    have HE := Lib.hid (equal_one v _ x _ _ (hown.trow.below hb0) (trow_one w2 x))
    have HB := Lib.hid (grow hb hb0)
    clear hown hb hb0 HWd
    go_wp2_with fail
    refine HE.out.mono ?_
    rintro e w3 ⟨rfl, hb3⟩
    have HB3 := Lib.hid (grow HB.out hb3)
    clear hb3 HE
    go_wp2_with fail
    go_ret
    exact ⟨rfl, HB3.out⟩
  · have t1 : decide ((s.size : Int) ≤ 32) = false := by rw [decide_eq_false_iff_not]; omega
    have hn : wordL s.data.toList = false := by
      cases h : wordL s.data.toList with
      | false => rfl
      | true => have := wordL_le h; omega
    rw [hn]
    clear hz h1 hn
    go_enter Try.func18, Try.ntmps18
    go_wp2_with fail
    go_ret
    exact ⟨rfl, Below.refl _ _⟩

set_option maxRecDepth 100000 in
theorem risword_any (s : ByteArray) (w : World) (hs : s.size ≤ 1000000) : Calls Try.prog 19 #[.string s] w (TruthLeft (wordL s.data.toList) w) := by
  have hsb : s = ⟨s.data.toList.toArray⟩ := by simp
  have HWd := Lib.hid (rtokens_any s w hs)
  have hc := wordsB_count s.data.toList
  rw [← Lib.size_eq] at hc
  unfold wordL
  obtain ⟨x, hx⟩ : ∃ x, s.data.toList = x := ⟨_, rfl⟩
  rw [hx] at hsb HWd hc ⊢
  obtain ⟨ws, hws⟩ : ∃ ws, wordsB x = ws := ⟨_, rfl⟩
  rw [hws] at HWd hc ⊢
  subst hsb
  clear hx hws
  by_cases h1 : ws.length = 1
  · obtain ⟨y, rfl⟩ : ∃ y, ws = [y] := List.length_eq_one_iff.1 h1
    have e : decide ([y] = [x]) = (y == x) := by rw [Bool.eq_iff_iff]; simp
    rw [e]
    clear e h1 hc
    go_enter Try.func19, Try.ntmps19
    go_wp2_with fail
    refine HWd.out.mono ?_
    rintro e w2 ⟨v, rfl, hk, hb⟩
    obtain ⟨p, cap, rfl, _, hcm⟩ := hk.shape
    obtain ⟨b, off, rfl, hbl, hcell, _⟩ := KIn.at_ hk (k := 0) (by simp [numT])
    have hcell2 : w2.cell? ⟨b, off, none⟩ = some (.string ⟨y.toArray⟩) := hcell
    have hl1 : (numT [y]).length = 1 := rfl
    rw [hl1]
    have HB := Lib.hid hb
    clear hk hb hcell HWd hl1
    go_wp2_with fail
    go_ret
    exact ⟨rfl, HB.out⟩
  · have e : decide (ws = [x]) = false := by
      rw [decide_eq_false_iff_not]
      intro h; subst h; exact h1 rfl
    rw [e]
    have t1 : ((ws.length : Int) == 1) = false := by rw [beq_eq_false_iff_ne]; omega
    clear e
    go_enter Try.func19, Try.ntmps19
    go_wp2_with fail
    refine HWd.out.mono ?_
    rintro e w2 ⟨v, rfl, hk, hb⟩
    obtain ⟨p, cap, rfl, _, hcm⟩ := hk.shape
    rw [numT_len]
    have HB := Lib.hid hb
    clear hk hb HWd
    go_wp2_with fail
    go_ret
    exact ⟨rfl, HB.out⟩
end Go.Proofs.Ytnacfdcnhecjeaa.TK
