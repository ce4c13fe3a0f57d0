/-
  The page's example of layer 9. No condition.
-/
import Derived.Test.YtjogjmkfkmbjdaaBlmRead
set_option linter.unusedVariables false
namespace Go.Proofs.Ytjogjmkfkmbjdaa.BL
open Go.RowKit Go.Proofs.Ytjogjmkfkmbjdaa.MM Go.Proofs.Ytjogjmkfkmbjdaa.BM

theorem trow_lit (w : World) (z : List UInt8) (b : Nat) (hb : b ≠ w.heap.size) : ∀ w', Kep (fun i => i ≠ b) (w.alloc (.cells #[.string ⟨z.toArray⟩] 9)) w' → TRow w' (.slice (some ⟨w.heap.size, 0, none⟩) 1 1) [z] := fun w' hk => by
  have hlt : w.heap.size < (w.alloc (.cells #[.string ⟨z.toArray⟩] 9)).heap.size := by simp
  have hc := hk.cell hlt (fun e => hb e.symm) 0
  have hc0 : (w.alloc (.cells #[.string ⟨z.toArray⟩] 9)).cell? ⟨w.heap.size, 0, none⟩ = some (.string ⟨z.toArray⟩) := by rw [cell_of_row _ _ 0 _ _ _ (heap_alloc_new _ _)]; rfl
  refine ⟨some ⟨w.heap.size, 0, none⟩, 1, rfl, by simp, by unfold maxLen; omega, (fun h => by cases h), .inr ⟨w.heap.size, 0, rfl, Nat.lt_of_lt_of_le hlt hk.size, fun i u hi => ?_⟩⟩
  match i, hi with
  | 0, hi =>
    simp [strV] at hi
    subst hi
    exact hc.trans hc0
  | i + 1, hi => simp at hi
theorem ex_len : (newL 0).length = 8 := by decide +kernel
theorem ex_may : mayL (newL 0) [97] = false := by decide +kernel
theorem ex_add : addA (newL 0) [[97]] = ((addA (newL 0) [[97]]).1, 4) := by decide +kernel
theorem ex_may2 : mayL (addA (newL 0) [[97]]).1 [97] = true := by decide +kernel
theorem ex_count : countL (addA (newL 0) [[97]]).1 = 4 := by decide +kernel
set_option maxRecDepth 100000 in
set_option maxHeartbeats 1000000 in
theorem awake_any (w : World) : Calls Try.prog 10 #[] w fun e w' => e = .returned (.bool true) ∧ Below w.heap.size w w' := by
  have HN := Lib.hid (new_any 0 w (by omega))
  have HNO := Lib.hid (fun W => new_no (-1) W (.inl (by decide)))
  have h1 := ex_len
  have h2 := ex_may
  have h3 := ex_add
  have h4 := ex_may2
  have h5 := ex_count
  generalize (addA (newL 0) [[97]]).1 = M at h3 h4 h5
  obtain ⟨N, hN⟩ : ∃ N, newL 0 = N := ⟨_, rfl⟩
  rw [hN] at HN h1 h2 h3
  have H1 := Lib.hid h1
  have H2 := Lib.hid h2
  have H3 := Lib.hid h3
  have H4 := Lib.hid h4
  have H5 := Lib.hid h5
  clear hN h1 h2 h3 h4 h5
  go_enter Try.func10, Try.ntmps10
  go_wp2_with fail
  refine HN.out.mono ?_
  rintro e w1 ⟨g, b, cap, rfl, hf, hg, hb, hbl⟩
  have HF := Lib.hid hf
  have HB := Lib.hid hbl
  have hbi := bits_any g b cap N w1 hf
  have hma := may_any g b cap N [97] w1 hf (by simp)
  rw [H1.out] at hbi
  rw [H2.out] at hma
  have HBI := Lib.hid hbi
  have HMA := Lib.hid hma
  clear hf hbl hbi hma
  go_wp2_with fail
  refine (HNO.out _).mono ?_
  rintro e w2 ⟨rfl, rfl⟩
  go_wp2_with fail
  refine HBI.out.mono ?_
  rintro e w2 ⟨rfl, rfl⟩
  go_wp2_with fail
  refine HMA.out.mono ?_
  rintro e w2 ⟨rfl, hb2⟩
  have hf2 := HF.out.below hb2
  have hba : Below w2.heap.size w2 (w2.alloc (.cells #[.string ⟨#[97]⟩] 9)) := (Below.refl _ _).alloc (Nat.le_refl _) _
  have hf3 := hf2.below hba
  have hbl2 := hf2.blt
  have hadd := add_any g b cap N (.slice (some ⟨w2.heap.size, 0, none⟩) 1 1) [[97]] _ hf3 (trow_lit w2 [97] b (by omega)) (by simp) (by simp)
  rw [H3.out] at hadd
  have HADD := Lib.hid hadd
  have HB2 := Lib.hid (HB.out.trans ((hb2.alloc hb2.size (.cells #[.string ⟨#[97]⟩] 9)).mono HB.out.size))
  clear hf2 hf3 hba hb2 hbl2 hadd HBI HMA HF HB HN
  go_wp2_with fail
  refine HADD.out.mono ?_
  rintro e w3 ⟨rfl, hf3, hk3⟩
  have hma := may_any g b cap M [97] w3 hf3 (by simp)
  rw [H4.out] at hma
  have HMA := Lib.hid hma
  have HF3 := Lib.hid hf3
  have HB3 := Lib.hid (HB2.out.trans (hk3.below HB2.out.size (fun k hk => by omega)))
  clear hf3 hk3 hma HADD HB2
  go_wp2_with fail
  refine HMA.out.mono ?_
  rintro e w4 ⟨rfl, hb4⟩
  have hco := count_any g b cap M w4 (HF3.out.below hb4)
  rw [H5.out] at hco
  have HCO := Lib.hid hco
  have HB4 := Lib.hid (HB3.out.trans (hb4.mono HB3.out.size))
  clear hb4 hco HMA
  go_wp2_with fail
  refine HCO.out.mono ?_
  rintro e w5 ⟨rfl, rfl⟩
  go_wp2_with fail
  go_ret
  exact ⟨rfl, HB4.out⟩
end Go.Proofs.Ytjogjmkfkmbjdaa.BL
