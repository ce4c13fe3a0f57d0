/-
  The law LzPacks returns true. Condition: the arguments read as data.
-/
import Derived.Test.YtoohkhcmakcggaaLzAwake
set_option linter.unusedVariables false
namespace Go.Proofs.Ytoohkhcmakcggaa.LZ
open Go.RowKit Go.Proofs.Ytoohkhcmakcggaa.MM
set_option maxRecDepth 100000 in
set_option maxHeartbeats 2000000 in
theorem packs_walk (v0 : Value) (l : List UInt8) (n : Int) (w : World) (h0 : BRow w v0 l) (hn0 : -9223372036854775808 ≤ n) (hn1 : n ≤ 9223372036854775807) :
    Calls Try.prog 3 #[v0, .int .i64 n] w fun e w' => e = .returned (.bool true) ∧ Below w.heap.size w w' := by
  have k0 := Lib.hid (cut_any v0 l w h0)
  unfold CutLeft at k0
  have hdl : (l.take 1200).length ≤ 1200 := by rw [List.length_take]; omega
  generalize l.take 1200 = d at *
  have hpb := pack_bound d
  have hbd : boundL (d.length : Int) = (d.length : Int) + 4 + ((d.length : Int) + 127) / 128 := by unfold boundL; rw [if_neg (by omega)]
  have K1 := Lib.hid (fun v W (h : BRow W v d) => pack_any v d W h (by omega))
  have K2 := Lib.hid (fun v W (h : BRow W v d) => rpack_any v d W h (by omega))
  have K3 := Lib.hid (fun W => bound_any n W hn0 hn1)
  have K4 := Lib.hid (fun W => rbound_any n W hn0 hn1)
  have k5 := fun W => bound_any (d.length : Int) W (by omega) (by omega)
  generalize packL d = P at *
  generalize boundL n = bn at *
  have hle : (P.length : Int) ≤ boundL (d.length : Int) := by rw [hbd]; omega
  generalize boundL (d.length : Int) = bd at *
  have K5 := Lib.hid k5
  clear h0 hbd hpb k5
  go_enter Try.func3, Try.ntmps3
  go_wp2_with fail
  refine k0.out.mono ?_
  rintro e w0 ⟨u1, rfl, hu1, rfl⟩
  obtain ⟨p1, cap1, rfl, _, _⟩ := hu1.shape
  have HU1 := Lib.hid hu1
  clear hu1 k0
  go_wp2_with fail
  refine (K1.out _ _ HU1.out).mono ?_
  rintro e w1 ⟨x1, rfl, hx1, b1⟩
  obtain ⟨px, capx, rfl, _, _⟩ := hx1.brow.shape
  have HX1 := Lib.hid hx1.brow
  clear hx1 K1
  go_wp2_with fail
  refine (K2.out _ _ (HU1.out.below b1)).mono ?_
  rintro e w2 ⟨x2, rfl, hx2, b2⟩
  obtain ⟨py, capy, rfl, _, _⟩ := hx2.brow.shape
  have hc1 := (HX1.out.below b2).conv
  have hc2 := hx2.brow.conv
  have B2 := Lib.hid (grow b1 b2)
  clear hx2 K2 b1 b2
  go_wp2_with fail
  refine (K3.out _).mono ?_
  rintro e w3 ⟨rfl, b3⟩
  have B3 := Lib.hid (grow B2.out b3)
  clear b3 hc1 hc2
  go_wp2_with fail
  refine (K4.out _).mono ?_
  rintro e w4 ⟨rfl, rfl⟩
  go_wp2_with fail
  refine (K5.out _).mono ?_
  rintro e w5 ⟨rfl, b5⟩
  have B5 := Lib.hid (grow B3.out b5)
  have t1 : decide ((P.length : Int) ≤ bd) = true := by simp; omega
  clear b5
  go_wp2_with fail
  refine (awake_any _).mono ?_
  rintro e w7 ⟨rfl, b7⟩
  go_wp2_with fail
  go_ret
  exact ⟨rfl, grow B5.out b7⟩
end Go.Proofs.Ytoohkhcmakcggaa.LZ
