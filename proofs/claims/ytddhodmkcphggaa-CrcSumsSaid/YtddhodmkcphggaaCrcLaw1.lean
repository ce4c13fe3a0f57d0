/-
  The law CrcSums returns true. Condition: the arguments read as data.
-/
import Derived.Test.YtddhodmkcphggaaCrcAwake
set_option linter.unusedVariables false
namespace Go.Proofs.Ytddhodmkcphggaa.CR
open Go.RowKit Go.Proofs.Ytddhodmkcphggaa.MM Go.Proofs.Ytddhodmkcphggaa.CM

/-- A literal row of three slices of bytes. -/
theorem prow_three {w : World} {u v x : Value} {a b c : List UInt8} (ha : BRow w u a) (hb : BRow w v b) (hc : BRow w x c) :
    PRow (w.alloc (.cells #[u, v, x] 22)) (.slice (some ⟨w.heap.size, 0, none⟩) 3 3) [a, b, c] :=
  prow_lit [u, v, x] [a, b, c] rfl (by unfold maxLen; simp) (fun i hi => by
    match i, hi with
    | 0, _ => exact ⟨_, rfl, ha⟩
    | 1, _ => exact ⟨_, rfl, hb⟩
    | 2, _ => exact ⟨_, rfl, hc⟩)
theorem sumL_nil : sumL ([] : List (List UInt8)).flatten = 0 := by
  rw [List.flatten_nil]
  exact nextL_nil (by omega)

set_option maxRecDepth 100000 in
set_option maxHeartbeats 1000000 in
theorem sums_walk (v0 v1 v2 : Value) (a b c : List UInt8) (n : Nat) (w : World) (h0 : BRow w v0 a) (h1 : BRow w v1 b) (h2 : BRow w v2 c) (hn : n < 4294967296) :
    Calls Try.prog 3 #[v0, v1, v2, .int .u32 n] w fun e w' => e = .returned (.bool true) ∧ Below w.heap.size w w' := by
  have k0 := Lib.hid (cut_any v0 a w h0)
  have k1 := Lib.hid (cut_any v1 b w h1)
  have k2 := Lib.hid (cut_any v2 c w h2)
  unfold CutLeft at k0 k1 k2
  generalize a.take 3000 = a at *
  generalize b.take 3000 = b at *
  generalize c.take 3000 = c at *
  clear h0 h1 h2
  go_enter Try.func3, Try.ntmps3
  go_wp2_with fail
  refine k0.out.mono ?_
  rintro e w0 ⟨u0, rfl, hu0, rfl⟩
  go_wp2_with fail
  refine k1.out.mono ?_
  rintro e w0 ⟨u1, rfl, hu1, rfl⟩
  go_wp2_with fail
  refine k2.out.mono ?_
  rintro e w0 ⟨u2, rfl, hu2, rfl⟩
  obtain ⟨p0, cap0, rfl, hc0, hm0⟩ := hu0.shape
  obtain ⟨p1, cap1, rfl, hc1, hm1⟩ := hu1.shape
  obtain ⟨p2, cap2, rfl, hc2, hm2⟩ := hu2.shape
  have K1 := Lib.hid (sum_any _ _ _ (prow_three hu0 hu1 hu2))
  have K2 := Lib.hid (fun W (h : Below w.heap.size w W) => rsum_any _ _ _ (prow_three (hu0.below h) (hu1.below h) (hu2.below h)))
  have K3 := Lib.hid (fun W (h : Below w.heap.size w W) => next_any n _ _ _ hn (hu0.below h))
  have K4 := Lib.hid (fun W (h : Below w.heap.size w W) => rnext_any n _ _ _ hn (hu0.below h))
  have K5 := Lib.hid (fun W => sumL_nil ▸ sum_any _ _ W (PRow.nil_ W))
  generalize sumL [a, b, c].flatten = F at *
  generalize nextL n a = G at *
  have HB0 := Lib.hid ((Below.refl w.heap.size w).alloc (Nat.le_refl _) (.cells #[.slice p0 a.length cap0, .slice p1 b.length cap1, .slice p2 c.length cap2] 22))
  clear hu0 hu1 hu2 k0 k1 k2
  go_wp2_with fail
  refine K1.out.mono ?_
  rintro e w1 ⟨rfl, b1⟩
  have HB1 := Lib.hid (grow HB0.out b1)
  have HB1' := Lib.hid (HB1.out.alloc HB1.out.size (.cells #[.slice p0 a.length cap0, .slice p1 b.length cap1, .slice p2 c.length cap2] 22))
  clear b1
  go_wp2_with fail
  refine (K2.out _ HB1.out).mono ?_
  rintro e w2 ⟨rfl, rfl⟩
  go_wp2_with fail
  refine (K3.out _ HB1'.out).mono ?_
  rintro e w3 ⟨rfl, b3⟩
  have HB3 := Lib.hid (grow HB1'.out b3)
  go_wp2_with fail
  refine (K4.out _ HB3.out).mono ?_
  rintro e w4 ⟨rfl, rfl⟩
  go_wp2_with fail
  refine (K5.out _).mono ?_
  rintro e w5 ⟨rfl, b5⟩
  have HB5 := Lib.hid (grow HB3.out b5)
  go_wp2_with fail
  refine (awake_any _).mono ?_
  rintro e w6 ⟨rfl, b6⟩
  have HB6 := Lib.hid (grow HB5.out b6)
  go_wp2_with fail
  go_ret
  exact ⟨rfl, HB6.out⟩
end Go.Proofs.Ytddhodmkcphggaa.CR
