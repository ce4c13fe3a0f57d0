/-
  The law FrameBack returns true. Condition: the arguments read as data.
-/
import Derived.Test.YtfnohcmoaooghaaFrmAwake
import Derived.Test.YtfnohcmoaooghaaFrmSplit
import Derived.Test.YtfnohcmoaooghaaFrmRows
import Derived.Test.YtfnohcmoaooghaaReg
set_option linter.unusedVariables false
namespace Go.Proofs.Ytfnohcmoaooghaa.FG
open Go.RowKit Go.Proofs.Ytfnohcmoaooghaa.MM Go.Proofs.Ytfnohcmoaooghaa.VM Go.Proofs.Ytfnohcmoaooghaa.CM Go.Proofs.Ytfnohcmoaooghaa.FM Go.Proofs.Ytfnohcmoaooghaa.VP Go.Proofs.Ytfnohcmoaooghaa.CR Go.Proofs.Ytfnohcmoaooghaa.FP Go.Proofs.Ytfnohcmoaooghaa.VG

set_option maxRecDepth 100000 in
set_option maxHeartbeats 4000000 in
theorem back_walk (v0 v1 : Value) (ls : List (List UInt8)) (l : List UInt8) (w : World) (h0 : PRow w v0 ls) (h1 : BRow w v1 l) :
    Calls Try.prog 5 #[v0, v1] w fun e w' => e = .returned (.bool true) ∧ Below w.heap.size w w' := by
  have k0 := Lib.hid (few_any v0 ls w h0)
  have hfl := fewL_len ls
  have hfe := fun p (h : p ∈ fewL ls) => fewL_each h
  generalize fewL ls = fs at *
  have hall : ∀ p ∈ fs, p.length ≤ 16777216 := fun p h => by have := hfe p h; omega
  have hfm : (framesL fs).length ≤ 2000 := by
    have : ∀ gs : List (List UInt8), (∀ p ∈ gs, p.length ≤ 200) → (framesL gs).length ≤ 214 * gs.length := fun gs => by
      induction gs with
      | nil => intro _; simp [framesL]
      | cons p gs ih =>
        intro h
        have h1 := ih (fun q hq => h q (by simp [hq]))
        have h2 := (frameL_bounds p).2
        have h3 := h p (by simp)
        rw [framesL_cons, List.length_append, List.length_cons]
        omega
    have := this fs hfe
    omega
  have k1 := Lib.hid (fun W (a : BRow W v1 l) => cut_any v1 l W a)
  unfold CutLeft at k1
  have hcl : (l.take 400).length ≤ 400 := by rw [List.length_take]; omega
  generalize l.take 400 = c at *
  have K2 := Lib.hid (fun u W (a : PRow W u fs) => join_fr u fs W a hall (by omega))
  have hsj := splits_join fs hall
  generalize framesL fs = X at *
  have K3 := Lib.hid (fun u W (a : BRow W u X) => split_any u X W a fs X.length 0 hsj (by omega))
  obtain ⟨ps, k, er, hs⟩ := splits_ex c.length c (Nat.le_refl _)
  obtain ⟨ht1, ht2, ht3, ht4, _, _⟩ := hs.told
  have K4 := Lib.hid (fun u W (a : BRow W u c) => split_any u c W a ps k er hs (by omega))
  have k5 := fun u W (a : PRow W u ps) => join_fr u ps W a ht4 (by omega)
  rw [ht1] at k5
  have K5 := Lib.hid k5
  have HV1 := Lib.hid h1
  have t1 : decide ((k : Int) ≥ 0) = true := by simp
  have t2 : decide ((k : Int) ≤ (c.length : Int)) = true := by simp; omega
  clear h0 h1 hs hsj hfe hall hfl ht1 ht3 ht4 k5
  go_enter Try.func5, Try.ntmps5
  go_wp2_with fail
  refine k0.out.mono ?_
  rintro e w1 ⟨u0, rfl, hu0, b1⟩
  have HU0 := Lib.hid hu0
  clear hu0 k0
  go_wp2_with fail
  refine (k1.out _ (HV1.out.below b1)).mono ?_
  rintro e w2 ⟨u1, rfl, hu1, rfl⟩
  have HU1 := Lib.hid hu1
  clear hu1 k1 HV1
  go_wp2_with fail
  refine (K2.out _ _ HU0.out).mono ?_
  rintro e w2 ⟨x1, rfl, hx1, b2⟩
  have HX1 := Lib.hid hx1.brow
  have HU0a := Lib.hid (HU0.out.below b2)
  have HU1a := Lib.hid (HU1.out.below b2)
  have c2 := grow b1 b2
  clear hx1 K2 HU0 HU1
  go_wp2_with fail
  refine (K3.out _ _ HX1.out).mono ?_
  rintro e w3 ⟨x2, rfl, hx2, b3⟩
  have HX2 := Lib.hid hx2
  have HX1b := Lib.hid (HX1.out.below b3)
  have HU0b := Lib.hid (HU0a.out.below b3)
  have HU1b := Lib.hid (HU1a.out.below b3)
  have c3 := grow c2 b3
  clear hx2 K3 HU0a HU1a HX1
  go_wp2_with fail
  refine (K4.out _ _ HU1b.out).mono ?_
  rintro e w4 ⟨x3, rfl, hx3, b4⟩
  have HX3 := Lib.hid hx3
  have HX1c := Lib.hid (HX1b.out.below b4)
  have HX2c := Lib.hid (HX2.out.below b4)
  have HU0c := Lib.hid (HU0b.out.below b4)
  have HU1c := Lib.hid (HU1b.out.below b4)
  have c4 := grow c3 b4
  clear hx3 K4 HU0b HU1b HX1b HX2
  go_wp2_with fail
  refine (K5.out _ _ HX3.out).mono ?_
  rintro e w5 ⟨x5, rfl, hx5, b5⟩
  have hU5 := hx5.brow
  have hX1 := HX1c.out.below b5
  have hX2 := HX2c.out.below b5
  have hU0 := HU0c.out.below b5
  have hU1 := HU1c.out.below b5
  have c5 := grow c4 b5
  clear hx5 K5 HU0c HU1c HX1c HX2c HX3
  obtain ⟨q1, cap1, rfl, _, _⟩ := hX1.shape
  obtain ⟨qc, capc, rfl, hcc, hcm⟩ := hU1.shape
  go_wp2_with fail
  refine RG.begin_ [(0, true), (1, true), (2, true), (3, true), (4, true), (5, true), (6, true), (7, true), (8, true), (9, true), (10, true), (11, true), (12, true), (13, true), (14, true), (15, false), (16, true), (17, true), (18, true), (19, true), (20, true), (21, true), (22, true), (23, true), (24, true), (25, true), (26, true), (27, true), (28, true), (29, true), (30, true), (31, true), (32, true), (33, true), (34, true), (35, true), (36, true), (37, true), (38, true), (39, true), (40, true), (41, false), (42, true), (43, true)] (by kernel_rfl) (by kernel_rfl) rfl (by kernel_rfl) (fun _ _ d _ _ h => by cases d <;> exact h) ?_
  simp only [RG.ordered, List.map_cons, List.map_nil, List.getElem?_toArray, List.getElem?_cons_succ, List.getElem?_cons_zero]
  obtain ⟨wd, hwd⟩ : ∃ wd, w5.drew = wd := ⟨_, rfl⟩
  have hbd : Below w5.heap.size w5 wd := by rw [← hwd]; exact (Below.refl _ _).drew
  have cd := grow c5 hbd
  have HU5d := Lib.hid (hU5.below hbd)
  have HX2d := Lib.hid (hX2.below hbd)
  have HU0d := Lib.hid (hU0.below hbd)
  have HU1d := Lib.hid (hU1.below hbd)
  rw [hwd]
  clear hwd hbd c5 hU5 hX1 hX2 hU0 hU1
  repeat (refine RG.take (by rfl) (by intro W hW; go_simp; with_reducible rfl) ?_; simp only [Act.put, List.setIfInBounds_toArray, List.set_cons_zero, List.set_cons_succ])
  refine RG.alone (by rfl) (fun K hK => ?_)
  go_simp
  refine (same_any _ _ _ _ HX2d.out HU0d.out).mono ?_
  rintro e w6 ⟨rfl, b6⟩
  go_simp
  refine hK.out _ _ b6 ?_
  clear hK K
  have c6 := grow cd b6
  have e1 := fun W (hW : RG.Grew w6 W) => (BRow.below (HU5d.out.below b6) hW).conv
  have hU6 : BRow w6 (.slice qc k capc) (c.take k) := BRow.below (BIn.take HU1d.out k ht2) b6
  have e2 := fun W (hW : RG.Grew w6 W) => (BRow.below hU6 hW).conv
  have i1 : (k : Int) ≤ (capc : Int) := by omega
  repeat (refine RG.take (by rfl) (by intro W hW; go_simp; with_reducible rfl) ?_; simp only [Act.put, List.setIfInBounds_toArray, List.set_cons_zero, List.set_cons_succ])
  clear e1 e2
  refine RG.alone (by rfl) (fun K hK => ?_)
  go_simp
  refine (awake_any _).mono ?_
  rintro e w7 ⟨rfl, b7⟩
  go_simp
  refine hK.out _ _ b7 ?_
  clear hK K
  repeat (refine RG.take (by rfl) (by intro W hW; go_simp; with_reducible rfl) ?_; simp only [Act.put, List.setIfInBounds_toArray, List.set_cons_zero, List.set_cons_succ])
  refine RG.done ?_
  go_wp2_with fail
  go_ret
  exact ⟨rfl, grow c6 b7⟩
end Go.Proofs.Ytfnohcmoaooghaa.FG
