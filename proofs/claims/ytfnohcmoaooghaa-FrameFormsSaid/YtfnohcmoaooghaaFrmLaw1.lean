/-
  The law FrameForms returns true. Condition: the arguments read as data.
-/
import Derived.Test.YtfnohcmoaooghaaFrmAwake
set_option linter.unusedVariables false
namespace Go.Proofs.Ytfnohcmoaooghaa.FG
open Go.RowKit Go.Proofs.Ytfnohcmoaooghaa.MM Go.Proofs.Ytfnohcmoaooghaa.VM Go.Proofs.Ytfnohcmoaooghaa.CM Go.Proofs.Ytfnohcmoaooghaa.FM Go.Proofs.Ytfnohcmoaooghaa.VP Go.Proofs.Ytfnohcmoaooghaa.CR Go.Proofs.Ytfnohcmoaooghaa.FP Go.Proofs.Ytfnohcmoaooghaa.VG

set_option maxRecDepth 100000 in
set_option maxHeartbeats 4000000 in
theorem forms_walk (v0 v1 : Value) (l m : List UInt8) (n : Int) (w : World) (h0 : BRow w v0 l) (h1 : BRow w v1 m) (lo : -9223372036854775808 ≤ n) (hi : n ≤ 9223372036854775807) :
    Calls Try.prog 3 #[v0, v1, .int .i64 n] w fun e w' => e = .returned (.bool true) ∧ Below w.heap.size w w' := by
  have k0 := Lib.hid (cut_any v0 l w h0)
  have k1 := Lib.hid (cut_any v1 m w h1)
  unfold CutLeft at k0 k1
  have hcl : (l.take 400).length ≤ 400 := by rw [List.length_take]; omega
  have hdl : (m.take 400).length ≤ 400 := by rw [List.length_take]; omega
  generalize l.take 400 = c at *
  generalize m.take 400 = d at *
  have hfb := frameL_bounds d
  have hsd := sizeL_frame (p := d) (by omega)
  have K2 := Lib.hid (fun u0 u1 W (a : BRow W u0 c) (b : BRow W u1 d) => put_fr u0 u1 c d W a b (by omega) (by omega))
  have K3 := Lib.hid (fun u0 u1 W (a : BRow W u0 c) (b : BRow W u1 d) => rput_fr u0 u1 c d W a b (by omega) (by omega))
  have K4 := Lib.hid (fun u0 W (a : BRow W u0 c) => get_fr W.heap.size u0 c W a (Nat.le_refl _))
  have K5 := Lib.hid (fun u0 W (a : BRow W u0 c) => rget_fr W.heap.size u0 c W a (Nat.le_refl _))
  have K6 := Lib.hid (fun W => size_fr n W lo hi)
  have K7 := Lib.hid (fun W => rsize_fr n W lo hi)
  have k8 := fun W => size_fr (d.length : Int) W (by omega) (by omega)
  rw [hsd] at k8
  have K8 := Lib.hid k8
  obtain ⟨X, hX⟩ : ∃ X, c ++ frameL d = X := ⟨_, rfl⟩
  have hxl : X.length = c.length + (frameL d).length := by rw [← hX, List.length_append]
  rw [hX] at K2 K3
  generalize (getR c).1 = P at *
  generalize (getR c).2.2 = E at *
  generalize restR c = R at *
  generalize (frameL d).length = F at *
  generalize sizeL n = Z at *
  have hxc : (X.length : Int) - (c.length : Int) = (F : Int) := by omega
  clear h0 h1 hX hsd k8 hxl
  go_enter Try.func3, Try.ntmps3
  go_wp2_with fail
  refine k0.out.mono ?_
  rintro e w0 ⟨u0, rfl, hu0, rfl⟩
  go_wp2_with fail
  refine k1.out.mono ?_
  rintro e w0 ⟨u1, rfl, hu1, rfl⟩
  obtain ⟨p0, cap0, rfl, _, _⟩ := hu0.shape
  obtain ⟨p1, cap1, rfl, _, _⟩ := hu1.shape
  have HU0 := Lib.hid hu0
  have HU1 := Lib.hid hu1
  clear hu0 hu1 k0 k1
  go_wp2_with fail
  refine (K2.out _ _ _ HU0.out HU1.out).mono ?_
  rintro e w1 ⟨x1, rfl, hx1, b1⟩
  have HX1 := Lib.hid hx1.brow
  have HU0a := Lib.hid (HU0.out.below b1)
  have HU1a := Lib.hid (HU1.out.below b1)
  clear hx1 K2
  go_wp2_with fail
  refine (K3.out _ _ _ HU0a.out HU1a.out).mono ?_
  rintro e w2 ⟨x2, rfl, hx2, b2⟩
  have HX2 := Lib.hid hx2.brow
  have HU0b := Lib.hid (HU0a.out.below b2)
  have c2 := grow b1 b2
  clear hx2 K3
  go_wp2_with fail
  refine (K4.out _ _ HU0b.out).mono ?_
  rintro e w3 ⟨vp, vr, rfl, hp, hr, b3⟩
  have HP := Lib.hid hp
  have HR := Lib.hid (hr.row b3.size)
  have HU0c := Lib.hid (HU0b.out.below b3)
  have c3 := grow c2 b3
  clear hp hr K4
  go_wp2_with fail
  refine (K5.out _ _ HU0c.out).mono ?_
  rintro e w4 ⟨vq, vs, rfl, hq, hs, b4⟩
  have c4 := grow c3 b4
  have e1 := (HX1.out.below (grow (grow b2 b3) b4)).conv
  have e2 := (HX2.out.below (grow b3 b4)).conv
  have e3 := (HP.out.below b4).conv
  have e4 := (HR.out.below b4).conv
  have e5 := hq.conv
  have e6 := (hs.row b4.size).conv
  obtain ⟨px, capx, rfl, _, _⟩ := HX1.out.shape
  clear hq hs K5
  go_wp2_with fail
  refine (K6.out _).mono ?_
  rintro e w5 ⟨rfl, rfl⟩
  go_wp2_with fail
  refine (K7.out _).mono ?_
  rintro e w5 ⟨rfl, b5⟩
  have c5 := grow c4 b5
  clear e1 e2 e3 e4 e5 e6
  go_wp2_with fail
  refine (K8.out _).mono ?_
  rintro e w6 ⟨rfl, rfl⟩
  go_wp2_with fail
  refine (awake_any _).mono ?_
  rintro e w7 ⟨rfl, b7⟩
  go_wp2_with fail
  go_ret
  exact ⟨rfl, grow c5 b7⟩
end Go.Proofs.Ytfnohcmoaooghaa.FG
