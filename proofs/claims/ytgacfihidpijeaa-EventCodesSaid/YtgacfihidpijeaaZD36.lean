/-
  How great an event is: the code's Size and the reference's. No condition.
-/
import Derived.Test.YtgacfihidpijeaaZD32
set_option linter.unusedVariables false
namespace Go.Proofs.Ytgacfihidpijeaa.EV
open Go Go.RowKit Go.Proofs.Ytgacfihidpijeaa.MM Go.Proofs.Ytgacfihidpijeaa.EM

set_option maxRecDepth 100000 in
set_option maxHeartbeats 2000000 in
theorem size_any (z : Int) (v : Value) (fs : List Fld) (w : World) (hr : RAny fldC w v fs) : Calls Try.prog 12 #[.agg #[.int .i64 z, v]] w (IntLeft (sizeW fs) w) := by
  obtain ⟨p, cap, rfl, hlc, hcm, _⟩ := hr.shape
  unfold maxLen at hcm
  have HB := Lib.hid (box_below w z (.slice p fs.length cap))
  have HR := Lib.hid hr
  have H0 : Hid (sizeW (fs.take 0) = 16) := Lib.hid (by simp [sizeW, sizeF, wrap64])
  clear hr
  go_enter Try.func12, Try.ntmps12
  go_wp2_with fail
  go_loopw [3, 9] (fun sv iv wr => ∃ (i : Nat) (s : Int), i ≤ fs.length ∧ iv = .int .i64 i ∧ sv = .int .i64 s ∧ Hid (sizeW (fs.take i) = s) ∧ Hid (Below w.heap.size w wr)) (fun _ iv _ => fs.length - (intOf iv).toNat)
  case atStart => exact ⟨0, 16, by omega, rfl, rfl, H0, HB⟩
  case round =>
    obtain ⟨i, s, hi, rfl, rfl, HI, HB1⟩ := hrel
    clear H0 HB
    by_cases hlt : i < fs.length
    · have q1 : decide ((i : Int) < (fs.length : Int)) = true := by rw [decide_eq_true_eq]; omega
      have q2 : decide (i < fs.length) = true := by rw [decide_eq_true_eq]; omega
      obtain ⟨b, off, rfl, hbl, _, c1, c2⟩ := fld_at (HR.out.below HB1.out) hlt
      have hnext := sizeW_next hlt
      rw [HI.out, ← wrap_add2] at hnext
      generalize fs[i].1 = n at *
      generalize fs[i].2 = x at *
      have HN := Lib.hid hnext
      have HLT := Lib.hid hlt
      have hb3 : Below wr.heap.size wr (wr.alloc (.cells #[.string ⟨n.toArray⟩, .string ⟨x.toArray⟩] 68)) := (Below.refl _ wr).alloc (Nat.le_refl _) _
      have HB2 := Lib.hid (HB1.out.trans (hb3.mono HB1.out.size))
      clear hnext HI hlt hb3
      go_wp2_with fail
      have hlt := HLT.out
      go_roundw
      case rel => exact ⟨i + 1, _, by omega, by go_num, rfl, Lib.hid HN.out.symm, HB2⟩
      case measure => simp [intOf]; omega
    · obtain rfl : i = fs.length := by omega
      have q1 : decide ((fs.length : Int) < (fs.length : Int)) = false := by simp
      have q2 : decide (fs.length < fs.length) = false := by simp
      have hn := HI.out
      rw [List.take_length] at hn
      subst hn
      clear HI
      go_wp2_with fail
      go_ret
      exact ⟨rfl, HB1.out⟩

set_option maxRecDepth 100000 in
set_option maxHeartbeats 2000000 in
theorem rsize_any (z : Int) (v : Value) (fs : List Fld) (w : World) (hr : RAny fldC w v fs) : Calls Try.prog 13 #[.agg #[.int .i64 z, v]] w (IntLeft (sizeW fs) w) := by
  obtain ⟨p, cap, rfl, hlc, hcm, _⟩ := hr.shape
  unfold maxLen at hcm
  have HB := Lib.hid (Below.refl (evBox w z (.slice p fs.length cap)).heap.size (evBox w z (.slice p fs.length cap)))
  have HR := Lib.hid hr
  have H0 : Hid (sizeW (fs.take 0) = 16) := Lib.hid (by simp [sizeW, sizeF, wrap64])
  clear hr
  go_enter Try.func13, Try.ntmps13
  go_wp2_with fail
  go_loopw [3, 4] (fun sv iv wr => ∃ (i : Nat) (s : Int), i ≤ fs.length ∧ iv = .int .i64 i ∧ sv = .int .i64 s ∧ Hid (sizeW (fs.take i) = s) ∧ Hid (Below (evBox w z (.slice p fs.length cap)).heap.size (evBox w z (.slice p fs.length cap)) wr)) (fun _ iv _ => fs.length - (intOf iv).toNat)
  case atStart => exact ⟨0, 16, by omega, rfl, rfl, H0, HB⟩
  case round =>
    obtain ⟨i, s, hi, rfl, rfl, HI, HB1⟩ := hrel
    clear H0 HB
    obtain ⟨_, cb, hbw⟩ := box_in HB1.out
    by_cases hlt : i < fs.length
    · have q1 : decide ((i : Int) < (fs.length : Int)) = true := by rw [decide_eq_true_eq]; omega
      have q2 : decide (i < fs.length) = true := by rw [decide_eq_true_eq]; omega
      have q3 : (i : Int) < cap := by omega
      have q4 : (i : Int) < fs.length := by omega
      obtain ⟨b, off, rfl, hbl, _, c1, c2⟩ := fld_at (HR.out.below hbw) hlt
      have hnext := sizeW_next hlt
      rw [HI.out] at hnext
      generalize fs[i].1 = n at *
      generalize fs[i].2 = x at *
      have hn2 : wrap64 (wrap64 (s + (n.length : Int)) + (x.length : Int)) = sizeW (fs.take (i + 1)) := by rw [wrap_add, ← hnext]; congr 1; omega
      have HN := Lib.hid hn2
      have HLT := Lib.hid hlt
      clear hnext HI hbw hn2
      go_wp2_with fail
      go_quiet (fail)
      go_wp2_with fail
      have hlt := HLT.out
      go_roundw
      case rel => exact ⟨i + 1, _, by omega, by go_num, rfl, Lib.hid HN.out.symm, Lib.hid (MM.below_drewN HB1.out _)⟩
      case measure => simp [intOf]; omega
    · obtain rfl : i = fs.length := by omega
      have q1 : decide ((fs.length : Int) < (fs.length : Int)) = false := by simp
      have q2 : decide (fs.length < fs.length) = false := by simp
      have hn := HI.out
      rw [List.take_length] at hn
      subst hn
      have HBW := Lib.hid hbw
      clear HI hbw
      go_wp2_with fail
      go_ret
      exact ⟨rfl, HBW.out⟩
end Go.Proofs.Ytgacfihidpijeaa.EV
