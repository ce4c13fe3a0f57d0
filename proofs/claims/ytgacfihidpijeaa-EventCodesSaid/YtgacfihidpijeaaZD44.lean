/-
  Whether a batch is light: some answer. No condition.
-/
import Derived.Test.YtgacfihidpijeaaZD35
import Derived.Test.YtgacfihidpijeaaZD40
set_option linter.unusedVariables false
namespace Go.Proofs.Ytgacfihidpijeaa.EV
open Go Go.RowKit Go.Proofs.Ytgacfihidpijeaa.MM Go.Proofs.Ytgacfihidpijeaa.EM

set_option maxRecDepth 100000 in
set_option maxHeartbeats 1000000 in
theorem lightb_any (seq : Int) (v : Value) (es : List Ev) (w : World) (hr : RAny evC w v es) : Calls Try.prog 30 #[.agg #[.int .i64 seq, v]] w (SomeBool w) := by
  have hbx := btbox_below w seq v
  obtain ⟨p, cap, rfl, hlc, hcm, _⟩ := hr.shape
  unfold maxLen at hcm
  have HR := Lib.hid hr
  have HB0 := Lib.hid (Below.refl (btBox w seq (.slice p es.length cap)).heap.size (btBox w seq (.slice p es.length cap)))
  clear hr hbx
  go_enter Try.func30, Try.ntmps30
  go_wp2_with fail
  go_loopw [3] (fun iv wr => ∃ i : Nat, i ≤ es.length ∧ iv = .int .i64 i ∧ Hid (Below (btBox w seq (.slice p es.length cap)).heap.size (btBox w seq (.slice p es.length cap)) wr)) (fun iv _ => es.length - (intOf iv).toNat)
  case atStart => exact ⟨0, by omega, rfl, HB0⟩
  case round =>
    obtain ⟨i, hi, rfl, HB⟩ := hrel
    clear HB0
    obtain ⟨d0, d1, hbw⟩ := btbox_in HB.out
    by_cases hlt : i < es.length
    · have q1 : decide ((i : Int) < (es.length : Int)) = true := by rw [decide_eq_true_eq]; omega
      by_cases h70 : i < 70
      · have q2 : decide ((i : Int) < 70) = true := by rw [decide_eq_true_eq]; omega
        have q3 : decide (i < es.length) = true := by rw [decide_eq_true_eq]; omega
        have q4 : (i : Int) < (es.length : Int) := by omega
        obtain ⟨b, off, vf, rfl, hbl, _, k1, k2, hfr⟩ := ev_at (HR.out.below hbw) hlt
        obtain ⟨pf, cf, rfl, _⟩ := hfr.shape
        have HL := Lib.hid (light_any es[i].1 _ es[i].2 wr hfr.any)
        generalize es[i].1 = z at *
        generalize es[i].2 = fs at *
        have HLT := Lib.hid hlt
        clear hbw hfr hlt
        go_wp2_with fail
        refine HL.out.mono ?_
        rintro e w6 ⟨c, rfl, hb6⟩
        have HB6 := Lib.hid (HB.out.trans (hb6.mono HB.out.size))
        clear hb6 HL d0 d1 k1 k2
        cases c with
        | true =>
          go_wp2_with fail
          have hlt := HLT.out
          go_roundw
          case rel => exact ⟨i + 1, by omega, by go_num, HB6⟩
          case measure => simp [intOf]; omega
        | false =>
          go_wp2_with fail
          go_ret
          exact ⟨_, rfl, (btbox_in HB6.out).2.2⟩
      · have q2 : decide ((i : Int) < 70) = false := by rw [decide_eq_false_iff_not]; omega
        have q3 : decide (i < es.length) = true := by rw [decide_eq_true_eq]; omega
        have q4 : decide (i < 70) = false := by rw [decide_eq_false_iff_not]; omega
        have HE := Lib.hid hbw
        clear hbw hlt
        go_wp2_with fail
        go_ret
        exact ⟨_, rfl, HE.out⟩
    · have q1 : decide ((i : Int) < (es.length : Int)) = false := by rw [decide_eq_false_iff_not]; omega
      have q3 : decide (i < es.length) = false := by rw [decide_eq_false_iff_not]; omega
      have HE := Lib.hid hbw
      clear hbw hlt
      go_wp2_with fail
      go_ret
      exact ⟨_, rfl, HE.out⟩
end Go.Proofs.Ytgacfihidpijeaa.EV
