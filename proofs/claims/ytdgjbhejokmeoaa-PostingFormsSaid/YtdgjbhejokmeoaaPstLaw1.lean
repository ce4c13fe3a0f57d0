/-
  The law of P8.1 walked: it returns true at any two rows. No condition.
-/
import Derived.Test.YtdgjbhejokmeoaaPstAwake
set_option linter.unusedVariables false
namespace Go.Proofs.Ytdgjbhejokmeoaa.PW
open Go.RowKit Go.Proofs.Ytdgjbhejokmeoaa.MM Go.Proofs.Ytdgjbhejokmeoaa.PM Go.Proofs.Ytdgjbhejokmeoaa.VM

set_option maxRecDepth 100000 in
set_option maxHeartbeats 4000000 in
theorem forms_walk (u v : Value) (A0 B0 : List Post) (w : World) (hu : PRow w u A0) (hv : PRow w v B0) : Calls Try.prog 3 #[u, v] w fun e w' => e = .returned (.bool true) ∧ Below w.heap.size w w' := by
  have HF1 := Lib.hid (few_any u A0 w hu)
  have HF2 := Lib.hid (fun W (h : Below w.heap.size w W) => few_any v B0 W (hv.below h))
  have hl1 := fewL_len A0
  obtain ⟨a, ha⟩ : ∃ a, fewL A0 = a := ⟨_, rfl⟩
  obtain ⟨b, hb⟩ : ∃ b, fewL B0 = b := ⟨_, rfl⟩
  rw [ha] at HF1 hl1
  rw [hb] at HF2
  obtain ⟨pu, cu, rfl, _⟩ := hu.shape
  obtain ⟨pv, cv, rfl, _⟩ := hv.shape
  clear ha hb hu hv
  go_enter Try.func3, Try.ntmps3
  go_wp2_with fail
  refine HF1.out.mono ?_
  rintro e w1 ⟨x, rfl, hx, b1⟩
  have HF2' := Lib.hid (HF2.out w1 b1)
  clear HF1 HF2
  go_wp2_with fail
  refine HF2'.out.mono ?_
  rintro e w2 ⟨y, rfl, hy, b2⟩
  have HX2 := Lib.hid (hx.below b2)
  have HY2 := Lib.hid hy
  have HB2 := Lib.hid (grow b1 b2)
  clear hx hy b1 b2 HF2'
  have K1 := Lib.hid (check_any x a w2 HX2.out (by omega))
  go_wp2_with fail
  refine K1.out.mono ?_
  rintro e w3 ⟨rfl, b3⟩
  have HX3 := Lib.hid (HX2.out.below b3)
  have HY3 := Lib.hid (HY2.out.below b3)
  have HB3 := Lib.hid (grow HB2.out b3)
  have K2 := Lib.hid (rcheck_any x a w3 HX3.out)
  clear b3 K1 HX2 HY2
  obtain ⟨E, hE⟩ : ∃ E : Int, (if isL a = true then (0 : Int) else 80) = E := ⟨_, rfl⟩
  rw [hE] at K2 ⊢
  clear hE
  go_wp2_with fail
  refine K2.out.mono ?_
  rintro e w4 ⟨rfl, b4⟩
  have HX4 := Lib.hid (HX3.out.below b4)
  have HY4 := Lib.hid (HY3.out.below b4)
  have HB4 := Lib.hid (grow HB3.out b4)
  have K3 := Lib.hid (docs_any x a w4 HX4.out (by omega))
  clear b4 K2 HX3 HY3
  go_wp2_with fail
  refine K3.out.mono ?_
  rintro e w5 ⟨v5, rfl, ho5, b5⟩
  have HX5 := Lib.hid (HX4.out.below b5)
  have HY5 := Lib.hid (HY4.out.below b5)
  have HB5 := Lib.hid (grow HB4.out b5)
  have HO5 := Lib.hid ho5
  have K4 := Lib.hid (rdocs_any x a w5 HX5.out (by omega))
  clear b5 ho5 K3 HX4 HY4
  go_wp2_with fail
  refine K4.out.mono ?_
  rintro e w6 ⟨v6, rfl, ho6, b6⟩
  have HX6 := Lib.hid (HX5.out.below b6)
  have HY6 := Lib.hid (HY5.out.below b6)
  have HB6 := Lib.hid (grow HB5.out b6)
  have hs := sameints_any v5 v6 (docsL a) (docsL a) w6 (OwnI.ion (OwnI.keep HO5.out b6)) (OwnI.ion ho6)
  rw [decide_eq_true rfl] at hs
  have K5 := Lib.hid hs
  clear b6 ho6 hs K4 HX5 HY5 HO5
  go_wp2_with fail
  refine K5.out.mono ?_
  rintro e w7 ⟨rfl, b7⟩
  have HX7 := Lib.hid (HX6.out.below b7)
  have HY7 := Lib.hid (HY6.out.below b7)
  have HB7 := Lib.hid (grow HB6.out b7)
  have K6 := Lib.hid (same_any x y a b w7 HX7.out HY7.out)
  clear b7 K5 HX6 HY6
  obtain ⟨S, hS⟩ : ∃ S, decide (a = b) = S := ⟨_, rfl⟩
  rw [hS] at K6
  have HSS := Lib.hid hS
  clear hS
  go_wp2_with fail
  refine K6.out.mono ?_
  rintro e w8 ⟨rfl, b8⟩
  have HX8 := Lib.hid (HX7.out.below b8)
  have HY8 := Lib.hid (HY7.out.below b8)
  have HB8 := Lib.hid (grow HB7.out b8)
  have hk7 := rsame_any x y a b w8 HX8.out HY8.out
  rw [HSS.out] at hk7
  have K7 := Lib.hid hk7
  clear b8 K6 HX7 HY7 hk7
  go_wp2_with fail
  refine K7.out.mono ?_
  rintro e w9 ⟨rfl, b9⟩
  have HX9 := Lib.hid (HX8.out.below b9)
  have HB9 := Lib.hid (grow HB8.out b9)
  have hk8 := same_any x x a a w9 HX9.out HX9.out
  rw [decide_eq_true rfl] at hk8
  have K8 := Lib.hid hk8
  clear b9 K7 HX8 HY8 hk8
  go_wp2_with fail
  refine K8.out.mono ?_
  rintro e w10 ⟨rfl, b10⟩
  have HB10 := Lib.hid (grow HB9.out b10)
  clear b10 K8 HX9
  go_wp2_with fail
  refine (awake_any w10).mono ?_
  rintro e w11 ⟨rfl, b11⟩
  have HB11 := Lib.hid (grow HB10.out b11)
  clear b11
  go_wp2_with fail
  go_ret
  exact ⟨rfl, HB11.out⟩
end Go.Proofs.Ytdgjbhejokmeoaa.PW
