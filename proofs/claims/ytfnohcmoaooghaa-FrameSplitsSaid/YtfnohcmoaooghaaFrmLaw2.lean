/-
  The law FrameSplits returns true. Condition: the arguments read as data.
-/
import Derived.Test.YtfnohcmoaooghaaFrmAwake
import Derived.Test.YtfnohcmoaooghaaFrmSplit
import Derived.Test.YtfnohcmoaooghaaFrmRSplit
set_option linter.unusedVariables false
namespace Go.Proofs.Ytfnohcmoaooghaa.FG
open Go.RowKit Go.Proofs.Ytfnohcmoaooghaa.MM Go.Proofs.Ytfnohcmoaooghaa.VM Go.Proofs.Ytfnohcmoaooghaa.CM Go.Proofs.Ytfnohcmoaooghaa.FM Go.Proofs.Ytfnohcmoaooghaa.VP Go.Proofs.Ytfnohcmoaooghaa.CR Go.Proofs.Ytfnohcmoaooghaa.FP Go.Proofs.Ytfnohcmoaooghaa.VG

set_option maxRecDepth 100000 in
set_option maxHeartbeats 4000000 in
theorem splits_walk (v0 v1 : Value) (l : List UInt8) (ls : List (List UInt8)) (w : World) (h0 : BRow w v0 l) (h1 : PRow w v1 ls) :
    Calls Try.prog 4 #[v0, v1] w fun e w' => e = .returned (.bool true) ∧ Below w.heap.size w w' := by
  have k0 := Lib.hid (cut_any v0 l w h0)
  unfold CutLeft at k0
  have hcl : (l.take 400).length ≤ 400 := by rw [List.length_take]; omega
  generalize l.take 400 = c at *
  have k1 := Lib.hid (few_any v1 ls w h1)
  have hfl := fewL_len ls
  have hfe := fun p (h : p ∈ fewL ls) => fewL_each h
  generalize fewL ls = fs at *
  have hfm := frames_most fs (fun p h => by have := hfe p h; omega)
  obtain ⟨ps, k, er, hs⟩ := splits_ex c.length c (Nat.le_refl _)
  have K2 := Lib.hid (fun u W (a : BRow W u c) => split_any u c W a ps k er hs (by omega))
  have K3 := Lib.hid (fun u W (a : BRow W u c) => rsplit_any u c W a ps k er hs (by omega))
  have K4 := Lib.hid (fun u W (a : PRow W u fs) => join_fr u fs W a (fun p h => by have := hfe p h; omega) (by omega))
  have K5 := Lib.hid (fun u W (a : PRow W u fs) => rjoin_fr u fs W a (fun p h => by have := hfe p h; omega) (by omega))
  generalize framesL fs = X at *
  clear h0 h1 hs hfe hfm hfl
  go_enter Try.func4, Try.ntmps4
  go_wp2_with fail
  refine k0.out.mono ?_
  rintro e w0 ⟨u0, rfl, hu0, rfl⟩
  have HU0 := Lib.hid hu0
  clear hu0 k0
  go_wp2_with fail
  refine k1.out.mono ?_
  rintro e w1 ⟨u1, rfl, hu1, b1⟩
  have HU1 := Lib.hid hu1
  have HU0a := Lib.hid (HU0.out.below b1)
  clear hu1 k1 HU0
  go_wp2_with fail
  refine (K2.out _ _ HU0a.out).mono ?_
  rintro e w2 ⟨x1, rfl, hx1, b2⟩
  have HX1 := Lib.hid hx1
  have HU0b := Lib.hid (HU0a.out.below b2)
  have HU1b := Lib.hid (HU1.out.below b2)
  have c2 := grow b1 b2
  clear hx1 K2
  go_wp2_with fail
  refine (K3.out _ _ HU0b.out).mono ?_
  rintro e w3 ⟨x2, rfl, hx2, b3⟩
  have HX2 := Lib.hid hx2
  have HX1c := Lib.hid (HX1.out.below b3)
  have HU1c := Lib.hid (HU1b.out.below b3)
  have c3 := grow c2 b3
  clear hx2 K3
  go_wp2_with fail
  refine (K4.out _ _ HU1c.out).mono ?_
  rintro e w4 ⟨y1, rfl, hy1, b4⟩
  have HY1 := Lib.hid hy1.brow
  have HX1d := Lib.hid (HX1c.out.below b4)
  have HX2d := Lib.hid (HX2.out.below b4)
  have HU1d := Lib.hid (HU1c.out.below b4)
  have c4 := grow c3 b4
  clear hy1 K4
  go_wp2_with fail
  refine (K5.out _ _ HU1d.out).mono ?_
  rintro e w5 ⟨y2, rfl, hy2, b5⟩
  have HY2 := Lib.hid hy2.brow
  have HX1e := Lib.hid (HX1d.out.below b5)
  have HX2e := Lib.hid (HX2d.out.below b5)
  have HY1e := Lib.hid (HY1.out.below b5)
  have c5 := grow c4 b5
  clear hy2 K5
  go_wp2_with fail
  refine (same_any _ _ _ _ HX1e.out HX2e.out).mono ?_
  rintro e w6 ⟨rfl, b6⟩
  have c6 := grow c5 b6
  have e1 := (HY1e.out.below b6).conv
  have e2 := (HY2.out.below b6).conv
  go_wp2_with fail
  refine (awake_any _).mono ?_
  rintro e w7 ⟨rfl, b7⟩
  clear e1 e2
  go_wp2_with fail
  go_ret
  exact ⟨rfl, grow c6 b7⟩
end Go.Proofs.Ytfnohcmoaooghaa.FG
