/-
  The law LzBack returns true. Condition: the arguments read as data.
-/
import Derived.Test.YtoohkhcmakcggaaLzAwake
set_option linter.unusedVariables false
namespace Go.Proofs.Ytoohkhcmakcggaa.LZ
open Go.RowKit Go.Proofs.Ytoohkhcmakcggaa.MM
set_option maxRecDepth 100000 in
set_option maxHeartbeats 4000000 in
theorem back_walk (v0 : Value) (l : List UInt8) (z : Nat) (w : World) (h0 : BRow w v0 l) (hz : z < 256) :
    Calls Try.prog 5 #[v0, .int .u8 z] w fun e w' => e = .returned (.bool true) ∧ Below w.heap.size w w' := by
  have k0 := Lib.hid (cut_any v0 l w h0)
  unfold CutLeft at k0
  have hdl : (l.take 1200).length ≤ 1200 := by rw [List.length_take]; omega
  generalize l.take 1200 = d at *
  obtain ⟨r, hr⟩ : ∃ r : Nat, z % 4 = r := ⟨_, rfl⟩
  have hr3 : r < 4 := by omega
  have hri : (z : Int) % 4 = (r : Int) := by rw [← hr]; rfl
  clear h0 hr
  go_enter Try.func5, Try.ntmps5
  go_wp2_with fail
  refine k0.out.mono ?_
  rintro e w0 ⟨u1, rfl, hu1, rfl⟩
  obtain ⟨p1, cap1, rfl, _, _⟩ := hu1.shape
  have HU1 := Lib.hid hu1
  have HO0 : Hid (OwnB w.heap.size w (.slice none 0 0) []) := Lib.hid (own_nil_ _ _)
  have HB0 := Lib.hid (Below.refl w.heap.size w)
  clear hu1 k0
  go_wp2_with fail
  go_loopw [5, 6] (fun o iv wr => ∃ (i : Nat) (X : List UInt8), i ≤ r + 1 ∧ Hid (X.length ≤ i * 1200) ∧ iv = .int .i64 i ∧ Hid (OwnB w.heap.size wr o X) ∧ Hid (Below w.heap.size w wr)) (fun _ iv _ => r + 1 - (intOf iv).toNat)
  case atStart => exact ⟨0, [], by omega, Lib.hid (by simp), by go_num, HO0, HB0⟩
  case round =>
    obtain ⟨i, X, hi, HX, rfl, HO, HB⟩ := hrel
    clear HO0 HB0
    have hxl := HX.out
    have hx9 : X.length ≤ 4800 := by omega
    clear hxl
    have hsz := HB.out.size
    obtain ⟨po, capo, rfl, _, _⟩ := HO.out.brow.shape
    by_cases hlt : i ≤ r
    · have t1 : decide ((i : Int) ≤ (r : Int)) = true := by simp; omega
      have t2 : decide (i ≤ r) = true := by simp; omega
      have HU2 := Lib.hid (HU1.out.below HB.out)
      have hl1 : X.length + d.length ≤ 140737488355328 := by omega
      go_wp2_with (at_builtin; refine wpList_append_bytes rfl _ _ rfl w.heap.size _ X rfl HO.out _ d rfl HU2.out hl1 hsz ?_)
      intro v3 w3 hown3 hb3
      have HO3 := Lib.hid hown3
      have HB3 := Lib.hid (HB.out.trans hb3)
      clear hown3 hb3
      go_wp2_with fail
      go_roundw
      case rel =>
        have hx := HX.out
        exact ⟨i + 1, X ++ d, by omega, Lib.hid (by rw [List.length_append]; omega), by go_num, HO3, HB3⟩
      case measure => simp [intOf]; omega
    · have t1 : decide ((i : Int) ≤ (r : Int)) = false := by simp; omega
      have t2 : decide (i ≤ r) = false := by simp; omega
      have HK := Lib.hid (pack_any _ X wr HO.out.brow (by omega))
      obtain ⟨hback, hsiz⟩ := lz_back (b := X) (by omega)
      have hpb := pack_bound X
      have hPl : (packL X).length ≤ 1000000000000 := by omega
      have ku := fun v W (h : BRow W v (packL X)) => unpack_any v (packL X) W h hPl
      have ks := fun v W (h : BRow W v (packL X)) => size_any v (packL X) W h
      rw [hback] at ku
      rw [hsiz] at ks
      have KU := Lib.hid ku
      have KS := Lib.hid ks
      generalize packL X = P at *
      have HXB := Lib.hid HO.out.brow
      clear ku ks hback hsiz hpb HO HX
      go_wp2_with fail
      refine HK.out.mono ?_
      rintro e w1 ⟨x1, rfl, hx1, b1⟩
      obtain ⟨px, capx, rfl, _, _⟩ := hx1.brow.shape
      have HX1 := Lib.hid hx1.brow
      clear hx1 HK
      go_wp2_with fail
      refine (KU.out _ _ HX1.out).mono ?_
      rintro e w2 ⟨x2, rfl, hx2, b2⟩
      obtain ⟨py, capy, rfl, _, _⟩ := hx2.brow.shape
      have HX2 := Lib.hid hx2.brow
      clear hx2 KU
      go_wp2_with fail
      refine (KS.out _ _ (HX1.out.below b2)).mono ?_
      rintro e w3 ⟨rfl, b3⟩
      have hc1 := (HX2.out.below b3).conv
      have hc2 := (HXB.out.below (grow b1 (grow b2 b3))).conv
      have B3 := Lib.hid (grow HB.out (grow b1 (grow b2 b3)))
      clear b1 b2 b3
      go_wp2_with fail
      refine (awake_any _).mono ?_
      rintro e w7 ⟨rfl, b7⟩
      go_wp2_with fail
      go_ret
      exact ⟨rfl, grow B3.out b7⟩
end Go.Proofs.Ytoohkhcmakcggaa.LZ
