/-
  The law of P8.2 walked: it returns true at any row, any bytes. No condition.
-/
import Derived.Test.YtdgjbhejokmeoaaPstAwake
import Derived.Test.YtdgjbhejokmeoaaPstRDec
set_option linter.unusedVariables false
namespace Go.Proofs.Ytdgjbhejokmeoaa.PW
open Go.RowKit Go.Proofs.Ytdgjbhejokmeoaa.MM Go.Proofs.Ytdgjbhejokmeoaa.PM Go.Proofs.Ytdgjbhejokmeoaa.VM

set_option maxRecDepth 100000 in
set_option maxHeartbeats 4000000 in
theorem bytes_walk (u v : Value) (A0 : List Post) (B0 : List UInt8) (w : World) (hu : PRow w u A0) (hv : BRow w v B0) : Calls Try.prog 4 #[u, v] w fun e w' => e = .returned (.bool true) ∧ Below w.heap.size w w' := by
  have HF1 := Lib.hid (few_any u A0 w hu)
  have HF2 := Lib.hid (fun W (h : Below w.heap.size w W) => cut_any v B0 W (hv.below h))
  have hl1 := fewL_len A0
  have hs1 := fewL_sum A0
  have hl2 : (B0.take 600).length ≤ 600 := by rw [List.length_take]; omega
  obtain ⟨a, ha⟩ : ∃ a, fewL A0 = a := ⟨_, rfl⟩
  obtain ⟨b, hb⟩ : ∃ b, B0.take 600 = b := ⟨_, rfl⟩
  rw [ha] at HF1 hl1 hs1
  rw [hb] at HF2 hl2
  obtain ⟨pu, cu, rfl, _⟩ := hu.shape
  obtain ⟨pv, cv, rfl, _⟩ := BIn.shape hv
  clear ha hb hu hv
  go_enter Try.func4, Try.ntmps4
  go_wp2_with fail
  refine HF1.out.mono ?_
  rintro e w1 ⟨x, rfl, hx, b1⟩
  have HF2' := Lib.hid (HF2.out w1 b1)
  have HX1 := Lib.hid hx
  have HB1 := Lib.hid b1
  clear HF1 HF2 hx b1
  go_wp2_with fail
  refine HF2'.out.mono ?_
  rintro e w2 ⟨y, rfl, rfl, hy⟩
  have HY1 := Lib.hid hy
  clear hy HF2'
  have K1 := Lib.hid (enc_any x a w1 HX1.out (by omega) (by omega))
  have K2 := Lib.hid (fun W (h : Below w1.heap.size w1 W) => renc_any x a W (HX1.out.below h) (by omega) (by omega))
  obtain ⟨⟨X, E⟩, hR⟩ : ∃ R, encR a = R := ⟨_, rfl⟩
  rw [hR] at K1
  simp only [hR] at K2
  unfold EncLeft at K1 K2
  dsimp only at K1 K2
  have K3 := Lib.hid (fun W (h : Below w1.heap.size w1 W) => decode_any y b W (HY1.out.below h) (by omega))
  have K4 := Lib.hid (fun W (h : Below w1.heap.size w1 W) => rdecode_any y b W (HY1.out.below h) (by omega))
  have K5 := Lib.hid (fun W (h : Below w1.heap.size w1 W) => count_any y b W (HY1.out.below h) (by omega))
  obtain ⟨⟨P, F⟩, hP⟩ : ∃ R, decR (decO b) = R := ⟨_, rfl⟩
  simp only [hP] at K3 K4 K5
  unfold DecLeft at K3 K4
  dsimp only at K3 K4
  clear hR hP HX1 HY1
  go_wp2_with fail
  refine K1.out.mono ?_
  rintro e w2 ⟨v2, rfl, ho2, b2⟩
  have HB2 := Lib.hid b2
  have HO2 := Lib.hid ho2
  have K2' := Lib.hid (K2.out w2 b2)
  clear b2 ho2 K1 K2
  go_wp2_with fail
  refine K2'.out.mono ?_
  rintro e w3 ⟨v3, rfl, ho3, b3⟩
  have HB3 := Lib.hid (grow HB2.out b3)
  have HO3 := Lib.hid ho3
  have HO2b := Lib.hid (OwnB.keep HO2.out b3)
  have K3' := Lib.hid (K3.out w3 HB3.out)
  clear b3 ho3 K2' K3 HO2
  go_wp2_with fail
  refine K3'.out.mono ?_
  rintro e w4 ⟨v4, rfl, hp4, b4⟩
  have HB4 := Lib.hid (grow HB3.out b4)
  have HP4 := Lib.hid hp4
  have HO3b := Lib.hid (OwnB.keep HO3.out b4)
  have HO2c := Lib.hid (OwnB.keep HO2b.out b4)
  have K4' := Lib.hid (K4.out w4 HB4.out)
  clear b4 hp4 K3' K4 HO3 HO2b
  go_wp2_with fail
  refine K4'.out.mono ?_
  rintro e w5 ⟨v5, rfl, hp5, b5⟩
  have HB5 := Lib.hid (grow HB4.out b5)
  have HP5 := Lib.hid hp5
  have HP4b := Lib.hid (HP4.out.below b5)
  have HO3c := Lib.hid (OwnB.keep HO3b.out b5)
  have HO2d := Lib.hid (OwnB.keep HO2c.out b5)
  have K5' := Lib.hid (K5.out w5 HB5.out)
  clear b5 hp5 K4' K5 HO3b HO2c HP4
  go_wp2_with fail
  refine K5'.out.mono ?_
  rintro e w6 ⟨rfl, b6⟩
  have HB6 := Lib.hid (grow HB5.out b6)
  have HP5b := Lib.hid (HP5.out.below b6)
  have HP4c := Lib.hid (HP4b.out.below b6)
  have c1 := BIn.conv (OwnB.brow (OwnB.keep HO2d.out b6))
  have c2 := BIn.conv (OwnB.brow (OwnB.keep HO3c.out b6))
  have hk := rsame_any v4 v5 P P w6 HP4c.out HP5b.out
  rw [decide_eq_true rfl] at hk
  have K6 := Lib.hid hk
  obtain ⟨S1, hS1⟩ : ∃ S : ByteArray, (⟨X.toArray⟩ : ByteArray) = S := ⟨_, rfl⟩
  rw [hS1] at c1 c2
  obtain ⟨p5, c5, rfl, _⟩ := HP5b.out.shape
  clear b6 hk K5' hS1
  go_wp2_with fail
  refine K6.out.mono ?_
  rintro e w7 ⟨rfl, b7⟩
  have HB7 := Lib.hid (grow HB6.out b7)
  clear b7 K6
  go_wp2_with fail
  refine (awake_any w7).mono ?_
  rintro e w8 ⟨rfl, b8⟩
  have HB8 := Lib.hid (grow HB1.out (grow HB7.out b8))
  clear b8
  go_wp2_with fail
  go_ret
  exact ⟨rfl, HB8.out⟩
end Go.Proofs.Ytdgjbhejokmeoaa.PW
