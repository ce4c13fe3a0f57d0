/-
  A text's number and its places, by the code and by the reference. Condition: a text is no longer than memory bears.
-/
import Derived.Test.YtjogjmkfkmbjdaaMem
import Derived.Test.YtjogjmkfkmbjdaaBlmMath
import Derived.Laws.Bits64b
set_option linter.unusedVariables false
namespace Go.Proofs.Ytjogjmkfkmbjdaa.BL
open Go.RowKit Go.Proofs.Ytjogjmkfkmbjdaa.MM Go.Proofs.Ytjogjmkfkmbjdaa.BM

theorem step_same (h : Int) (c : UInt8) : IntKind.u64.wrap (bits .xor .u64 h (IntKind.u64.wrap (c.toNat : Int)) * 1099511628211) = stepN h c := by
  have := c.toNat_lt
  unfold stepN
  rw [show IntKind.u64.wrap (c.toNat : Int) = (c.toNat : Int) by rw [wrap_u64]; omega]
set_option maxRecDepth 100000 in
set_option maxHeartbeats 1000000 in
theorem rnum_any (s : List UInt8) (w : World) (hs : s.length ≤ 1000000000000) : Calls Try.prog 35 #[.string ⟨s.toArray⟩] w fun e w' => e = .returned (.int .u64 (numL s)) ∧ w = w' := by
  obtain ⟨R, hR⟩ : ∃ R, numL s = R := ⟨_, rfl⟩
  rw [hR]
  have HR := Lib.hid hR
  clear hR
  go_enter Try.func35, Try.ntmps35
  go_wp2_with fail
  go_loopw [3, 4] (fun h i wr => ∃ k : Nat, k ≤ s.length ∧ h = .int .u64 (numL (s.take k)) ∧ i = .int .i64 k ∧ wr = w) (fun _ i _ => s.length - (intOf i).toNat)
  case atStart => exact ⟨0, by omega, rfl, rfl, rfl⟩
  case round =>
    obtain ⟨k, hk, rfl, rfl, rfl⟩ := hrel
    by_cases hlt : k < s.length
    · have t1 : decide ((k : Int) < (s.length : Int)) = true := by simp; omega
      have HN := Lib.hid (numL_next hlt)
      obtain ⟨h, hh⟩ : ∃ h, numL (s.take k) = h := ⟨_, rfl⟩
      rw [hh] at HN ⊢
      clear hh
      go_wp2_with fail
      go_roundw
      case rel => exact ⟨k + 1, by omega, by rw [HN.out]; exact congrArg (Value.int .u64) (step_same h s[k]), by go_num, trivial⟩
      case measure => simp [intOf]; omega
    · obtain rfl : k = s.length := by omega
      rw [List.take_length, HR.out]
      have t1 : decide ((s.length : Int) < (s.length : Int)) = false := by simp
      go_wp2_with fail
      go_ret
      exact ⟨rfl, rfl⟩
set_option maxRecDepth 100000 in
set_option maxHeartbeats 1000000 in
theorem cnum_any (s : List UInt8) (w : World) (hs : s.length ≤ 1000000000000) : Calls Try.prog 36 #[.string ⟨s.toArray⟩] w fun e w' => e = .returned (.int .u64 (numL s)) ∧ w = w' := by
  obtain ⟨R, hR⟩ : ∃ R, numL s = R := ⟨_, rfl⟩
  rw [hR]
  have HR := Lib.hid hR
  clear hR
  go_enter Try.func36, Try.ntmps36
  go_wp2_with fail
  go_loopw [3, 7] (fun h i wr => ∃ k : Nat, k ≤ s.length ∧ h = .int .u64 (numL (s.take k)) ∧ i = .int .i64 k ∧ wr = w) (fun _ i _ => s.length - (intOf i).toNat)
  case atStart => exact ⟨0, by omega, rfl, rfl, rfl⟩
  case round =>
    obtain ⟨k, hk, rfl, rfl, rfl⟩ := hrel
    by_cases hlt : k < s.length
    · have t1 : decide ((k : Int) < (s.length : Int)) = true := by simp; omega
      have HN := Lib.hid (numL_next hlt)
      obtain ⟨h, hh⟩ : ∃ h, numL (s.take k) = h := ⟨_, rfl⟩
      rw [hh] at HN ⊢
      clear hh
      go_wp2_with fail
      go_roundw
      case rel => exact ⟨k + 1, by omega, by rw [HN.out]; exact congrArg (Value.int .u64) (step_same h s[k]), by go_num, trivial⟩
      case measure => simp [intOf]; omega
    · obtain rfl : k = s.length := by omega
      rw [List.take_length, HR.out]
      have t1 : decide ((s.length : Int) < (s.length : Int)) = false := by simp
      go_wp2_with fail
      go_ret
      exact ⟨rfl, rfl⟩
end Go.Proofs.Ytjogjmkfkmbjdaa.BL
