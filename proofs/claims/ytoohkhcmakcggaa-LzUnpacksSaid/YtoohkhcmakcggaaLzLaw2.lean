/-
  The law LzUnpacks returns true. Condition: the arguments read as data.
-/
import Derived.Test.YtoohkhcmakcggaaLzAwake
set_option linter.unusedVariables false
namespace Go.Proofs.Ytoohkhcmakcggaa.LZ
open Go.RowKit Go.Proofs.Ytoohkhcmakcggaa.MM
set_option maxRecDepth 100000 in
set_option maxHeartbeats 2000000 in
theorem unpacks_walk (v0 : Value) (l : List UInt8) (w : World) (h0 : BRow w v0 l) :
    Calls Try.prog 4 #[v0] w fun e w' => e = .returned (.bool true) ∧ Below w.heap.size w w' := by
  have k0 := Lib.hid (cut_any v0 l w h0)
  unfold CutLeft at k0
  have hdl : (l.take 1200).length ≤ 1200 := by rw [List.length_take]; omega
  generalize l.take 1200 = d at *
  have k1 := fun v W (h : BRow W v d) => unpack_any v d W h (by omega)
  have k2 := fun v W (h : BRow W v d) => runpack_any v d W h (by omega)
  have k3 := fun v W (h : BRow W v d) => size_any v d W h
  have k4 := fun v W (h : BRow W v d) => rsize_any v d W h
  obtain ⟨M, hM⟩ : ∃ M, unpackL d = M := ⟨_, rfl⟩
  obtain ⟨N, hN⟩ : ∃ N, lzSize d = N := ⟨_, rfl⟩
  rw [hM] at k1 k2
  rw [hN] at k3 k4
  obtain ⟨out, er⟩ := M
  obtain ⟨n, es⟩ := N
  have K1 := Lib.hid k1
  have K2 := Lib.hid k2
  have K3 := Lib.hid k3
  have K4 := Lib.hid k4
  clear h0 k1 k2 k3 k4 hM hN
  go_enter Try.func4, Try.ntmps4
  go_wp2_with fail
  refine k0.out.mono ?_
  rintro e w0 ⟨u1, rfl, hu1, rfl⟩
  obtain ⟨p1, cap1, rfl, _, _⟩ := hu1.shape
  have HU1 := Lib.hid hu1
  clear hu1 k0
  go_wp2_with fail
  refine (K1.out _ _ HU1.out).mono ?_
  rintro e w1 ⟨x1, rfl, hx1, b1⟩
  obtain ⟨px, capx, rfl, _, _⟩ := hx1.brow.shape
  have HX1 := Lib.hid hx1.brow
  clear hx1 K1
  go_wp2_with fail
  refine (K2.out _ _ (HU1.out.below b1)).mono ?_
  rintro e w2 ⟨x2, rfl, hx2, b2⟩
  obtain ⟨py, capy, rfl, _, _⟩ := hx2.brow.shape
  have HX2 := Lib.hid hx2.brow
  have B2 := Lib.hid (grow b1 b2)
  have HX1b := Lib.hid (HX1.out.below b2)
  clear hx2 K2 b1 b2 HX1
  go_wp2_with fail
  refine (K3.out _ _ (HU1.out.below B2.out)).mono ?_
  rintro e w3 ⟨rfl, b3⟩
  have B3 := Lib.hid (grow B2.out b3)
  go_wp2_with fail
  refine (K4.out _ _ (HU1.out.below B3.out)).mono ?_
  rintro e w4 ⟨rfl, b4⟩
  have B4 := Lib.hid (grow B3.out b4)
  have hc1 := (HX1b.out.below (grow b3 b4)).conv
  have hc2 := (HX2.out.below (grow b3 b4)).conv
  clear b3 b4
  go_wp2_with fail
  refine (awake_any _).mono ?_
  rintro e w7 ⟨rfl, b7⟩
  go_wp2_with fail
  go_ret
  exact ⟨rfl, grow B4.out b7⟩
end Go.Proofs.Ytoohkhcmakcggaa.LZ
