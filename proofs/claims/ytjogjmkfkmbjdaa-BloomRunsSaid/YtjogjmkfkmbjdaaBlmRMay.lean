/-
  The reference's May, Count, New, Read. Condition: a text has at most a million bytes.
-/
import Derived.Test.YtjogjmkfkmbjdaaBlmRAdd
import Derived.Test.YtjogjmkfkmbjdaaReg
set_option linter.unusedVariables false
namespace Go.Proofs.Ytjogjmkfkmbjdaa.BL
open Go.RowKit Go.Proofs.Ytjogjmkfkmbjdaa.MM Go.Proofs.Ytjogjmkfkmbjdaa.BM

/-! ### May -/
set_option maxRecDepth 100000 in
set_option maxHeartbeats 1000000 in
theorem rmay_any (v : Value) (L s : List UInt8) (w : World) (h : BRow w v L) (hs : s.length ≤ 1000000) (hlo : 8 ≤ L.length) (hhi : L.length ≤ 131072) :
    Calls Try.prog 14 #[.agg #[v], .string ⟨s.toArray⟩] w fun e w' => e = .returned (.bool (mayL L s)) ∧ Below w.heap.size w w' := by
  obtain ⟨p, cap, rfl, hlc, hcm⟩ := h.shape
  have HBIT := Lib.hid (fun i (hi : i < 4) W => rbit_any p L.length cap s i W (by omega) hlo hhi hi)
  have HH := Lib.hid (fun k W (hr : BRow W (.slice p L.length cap) L) (hk : k < 8 * L.length) => rhas_any _ L k W hr hhi hk)
  have HPL : Hid (∀ i, placeL (8 * L.length) s i < 8 * L.length) := Lib.hid (fun i => placeL_lt s i (by omega))
  have HN := Lib.hid (mayI_next L s)
  have HX := Lib.hid (fun i (hi : i < 4) hh => mayI_false (L := L) (s := s) hi hh)
  have HE : Hid (mayI L s 4 = mayL L s) := Lib.hid rfl
  obtain ⟨R, hR⟩ : ∃ R, mayL L s = R := ⟨_, rfl⟩
  rw [hR] at HX HE ⊢
  have HB0 := Lib.hid ((Below.refl w.heap.size w).alloc (Nat.le_refl _) (.cells #[.slice p L.length cap] 30))
  have HG0 := Lib.hid (heap_alloc_new w (.cells #[.slice p L.length cap] 30))
  have HSZ := Lib.hid (show (w.alloc (.cells #[.slice p L.length cap] 30)).heap.size = w.heap.size + 1 by simp)
  have HR := Lib.hid h
  have H0 : Hid (mayI L s 0 = true) := Lib.hid rfl
  obtain ⟨W1, hW1⟩ : ∃ W1, w.alloc (.cells #[.slice p L.length cap] 30) = W1 := ⟨_, rfl⟩
  rw [hW1] at HB0 HG0 HSZ
  have HW1 := Lib.hid hW1
  clear h hR hW1
  go_enter Try.func14, Try.ntmps14
  go_wp2_with fail
  rw [HW1.out]
  go_loopw [5] (fun iv wr => ∃ i : Nat, i ≤ 4 ∧ iv = .int .i64 i ∧ Hid (mayI L s i = true) ∧ Hid (Below W1.heap.size W1 wr)) (fun iv _ => 4 - (intOf iv).toNat)
  case atStart => exact ⟨0, by omega, rfl, H0, Lib.hid (Below.refl _ _)⟩
  case round =>
    obtain ⟨i, hi, rfl, HI, HB⟩ := hrel
    clear H0
    by_cases hlt : i < 4
    · have t1 : decide ((i : Int) < 4) = true := by simp; omega
      have HBI := Lib.hid (HBIT.out i hlt)
      have hn := HN.out i
      rw [HI.out, Bool.true_and] at hn
      have hx := HX.out i hlt
      have hpl := HPL.out i
      obtain ⟨X, hX⟩ : ∃ X, placeL (8 * L.length) s i = X := ⟨_, rfl⟩
      rw [hX] at hn hx hpl
      have HB2 := Lib.hid (HBI.out)
      simp only [hX] at HB2
      have HPX := Lib.hid hpl
      clear hX HBI hpl
      obtain ⟨wd, hwd⟩ : ∃ wd, wr.drew = wd := ⟨_, rfl⟩
      have hbd : Below W1.heap.size W1 wd := by rw [← hwd]; exact HB.out.drew
      have HBD := Lib.hid hbd
      have HBW := Lib.hid (HB0.out.trans (hbd.mono HB0.out.size))
      have hc : ∀ W, RG.Grew wd W → W.cell? ⟨w.heap.size, 0, none⟩ = some (.slice p L.length cap) := fun W hW => by
        have h1 : W.heap[w.heap.size]? = W1.heap[w.heap.size]? := (hW.block _ (by have := hbd.size; have := HSZ.out; omega)).trans (hbd.block _ (by have := HSZ.out; omega))
        rw [cell_of_row W w.heap.size 0 _ _ _ (h1.trans HG0.out)]; rfl
      cases hb : hasL L X with
      | true =>
        rw [hb] at hn
        have HN2 := Lib.hid hn
        clear hn hx
        go_wp2_with fail
        refine RG.begin_ [(0, true), (1, true), (2, true), (3, true), (4, false), (5, false), (6, true)] (by kernel_rfl) (by kernel_rfl) rfl (by kernel_rfl) (fun _ _ d _ _ h => by cases d <;> exact h) ?_
        simp only [RG.ordered, List.map_cons, List.map_nil, List.getElem?_toArray, List.getElem?_cons_succ, List.getElem?_cons_zero]
        rw [hwd]
        repeat (refine RG.take (by rfl) (by intro W hW; have hcw := hc W hW; go_simp; with_reducible rfl) ?_; simp only [Act.put, List.setIfInBounds_toArray, List.set_cons_zero, List.set_cons_succ])
        refine RG.alone (by rfl) (fun K hK => ?_)
        go_simp
        refine (HB2.out _).mono ?_
        rintro e w6 ⟨rfl, b6⟩
        go_simp
        refine hK.out _ _ b6 ?_
        clear hK K
        refine RG.alone (by rfl) (fun K hK => ?_)
        go_simp
        have hh := HH.out X w6 (HR.out.below (HBW.out.trans (b6.mono HBW.out.size))) HPX.out
        rw [hb] at hh
        refine hh.mono ?_
        rintro e w7 ⟨rfl, b7⟩
        go_simp
        refine hK.out _ _ b7 ?_
        clear hK K hh
        have HB7 := Lib.hid (HBD.out.trans ((grow b6 b7).mono HBD.out.size))
        clear b6 b7 hc hb
        repeat (refine RG.take (by rfl) (by intro W hW; go_simp; with_reducible rfl) ?_; simp only [Act.put, List.setIfInBounds_toArray, List.set_cons_zero, List.set_cons_succ])
        refine RG.done ?_
        go_wp2_with fail
        go_roundw
        case rel => exact ⟨i + 1, by omega, by go_num, HN2, HB7⟩
        case measure => simp [intOf]; omega
      | false =>
        have HRE := Lib.hid (hx hb)
        clear hn hx
        go_wp2_with fail
        refine RG.begin_ [(0, true), (1, true), (2, true), (3, true), (4, false), (5, false), (6, true)] (by kernel_rfl) (by kernel_rfl) rfl (by kernel_rfl) (fun _ _ d _ _ h => by cases d <;> exact h) ?_
        simp only [RG.ordered, List.map_cons, List.map_nil, List.getElem?_toArray, List.getElem?_cons_succ, List.getElem?_cons_zero]
        rw [hwd]
        repeat (refine RG.take (by rfl) (by intro W hW; have hcw := hc W hW; go_simp; with_reducible rfl) ?_; simp only [Act.put, List.setIfInBounds_toArray, List.set_cons_zero, List.set_cons_succ])
        refine RG.alone (by rfl) (fun K hK => ?_)
        go_simp
        refine (HB2.out _).mono ?_
        rintro e w6 ⟨rfl, b6⟩
        go_simp
        refine hK.out _ _ b6 ?_
        clear hK K
        refine RG.alone (by rfl) (fun K hK => ?_)
        go_simp
        have hh := HH.out X w6 (HR.out.below (HBW.out.trans (b6.mono HBW.out.size))) HPX.out
        rw [hb] at hh
        refine hh.mono ?_
        rintro e w7 ⟨rfl, b7⟩
        go_simp
        refine hK.out _ _ b7 ?_
        clear hK K hh
        have HB7 := Lib.hid (HBW.out.trans ((grow b6 b7).mono HBW.out.size))
        clear b6 b7 hc hb
        repeat (refine RG.take (by rfl) (by intro W hW; go_simp; with_reducible rfl) ?_; simp only [Act.put, List.setIfInBounds_toArray, List.set_cons_zero, List.set_cons_succ])
        refine RG.done ?_
        go_wp2_with fail
        go_ret
        rw [HRE.out.symm]
        exact ⟨rfl, HB7.out⟩
    · obtain rfl : i = 4 := by omega
      have t1 : decide ((4 : Int) < 4) = false := by simp
      have hr := HE.out
      rw [HI.out] at hr
      have HRE := Lib.hid hr
      have HBW := Lib.hid (HB0.out.trans (HB.out.mono HB0.out.size))
      clear hr
      go_wp2_with fail
      go_ret
      rw [HRE.out.symm]
      exact ⟨rfl, HBW.out⟩
end Go.Proofs.Ytjogjmkfkmbjdaa.BL
