/-
  eightTurns and the reference's on: what the plain numbers say. No condition but the kinds'.
-/
import Derived.Test.YtfnohcmoaooghaaMem
import Derived.Test.YtfnohcmoaooghaaCrcMath
import Derived.Laws.BitsAllLaws
set_option linter.unusedVariables false
namespace Go.Proofs.Ytfnohcmoaooghaa.CR
open Go.RowKit Go.Proofs.Ytfnohcmoaooghaa.MM Go.Proofs.Ytfnohcmoaooghaa.CM

theorem low_code {m : Nat} (hm : m < 4294967296) : bits .and .u32 (m : Int) 1 = ((m % 2 : Nat) : Int) := by
  have h := u32_and_nat m 1 hm (by omega)
  rw [nat_mask1] at h
  exact h

theorem step_code {m : Nat} (hm : m < 4294967296) : bits .xor .u32 ((m : Int) / 2) ((m : Int) % 2 * 3988292384) = ((CM.step m : Nat) : Int) := by
  unfold CM.step
  by_cases h : m % 2 = 1
  · rw [if_pos h, show (m : Int) % 2 * 3988292384 = ((3988292384 : Nat) : Int) by omega, show (m : Int) / 2 = ((m / 2 : Nat) : Int) by omega]
    exact u32_xor_nat _ _ (by omega) (by omega)
  · rw [if_neg h, show (m : Int) % 2 * 3988292384 = ((0 : Nat) : Int) by omega, show (m : Int) / 2 = ((m / 2 : Nat) : Int) by omega, u32_xor_nat _ _ (by omega) (by omega), Nat.xor_zero]
theorem step_odd {m : Nat} (h : m % 2 = 1) (hm : m < 4294967296) : bits .xor .u32 ((m : Int) / 2) 3988292384 = ((CM.step m : Nat) : Int) := by
  have h1 := step_code hm
  rw [show (m : Int) % 2 * 3988292384 = 3988292384 by omega] at h1
  exact h1
theorem step_half {m : Nat} (h : ¬ m % 2 = 1) : (m : Int) / 2 = ((CM.step m : Nat) : Int) := by
  unfold CM.step
  rw [if_neg h]
  omega
theorem steps_more {k m r : Nat} (hk : k < 8) (h : steps (8 - k) m = r) : steps (8 - (k + 1)) (CM.step m) = r := by
  rw [show 8 - k = (8 - (k + 1)) + 1 by omega] at h
  exact h

set_option maxRecDepth 100000 in
theorem turns_any (n : Nat) (w : World) (hn : n < 4294967296) : Calls Try.prog 44 #[.int .u32 n] w fun e w' => e = .returned (.int .u32 (steps 8 n)) ∧ w = w' := by
  obtain ⟨r, hr⟩ : ∃ r, steps 8 n = r := ⟨_, rfl⟩
  rw [hr]
  have HR : Hid (steps (8 - 0) n = r) := Lib.hid hr
  clear hr
  go_enter Try.func44, Try.ntmps44
  go_wp2_with fail
  go_loop [0, 4] (fun s i => ∃ k m : Nat, k ≤ 8 ∧ i = .int .i64 k ∧ s = .int .u32 m ∧ m < 4294967296 ∧ Hid (steps (8 - k) m = r)) (fun _ i => 8 - (intOf i).toNat)
  case atStart => exact ⟨0, n, by omega, rfl, rfl, hn, HR⟩
  case round =>
    obtain ⟨k, m, hk, rfl, rfl, hm, H⟩ := hrel
    clear HR
    have hl := low_code hm
    have hx := step_code hm
    have hs := step_lt hm
    go_wp2_with fail
    · have hlt : (k : Int) < 8 := by assumption
      go_round
      case rel => exact ⟨k + 1, CM.step m, by omega, by go_num, rfl, hs, Lib.hid (steps_more (by omega) H.out)⟩
      case measure => simp [intOf]; omega
    · have hge : (8 : Int) ≤ k := by assumption
      obtain rfl : k = 8 := by omega
      have h : m = r := H.out
      subst h
      go_ret
      exact ⟨rfl, rfl⟩

set_option maxRecDepth 100000 in
theorem on_any (n : Nat) (c : UInt8) (w : World) (hn : n < 4294967296) : Calls Try.prog 41 #[.int .u32 n, .int .u8 (c.toNat : Int)] w fun e w' => e = .returned (.int .u32 (onB n c.toNat)) ∧ w = w' := by
  have hc := c.toNat_lt
  generalize c.toNat = b at *
  obtain ⟨r, hr⟩ : ∃ r, onB n b = r := ⟨_, rfl⟩
  rw [hr]
  have HR : Hid (steps (8 - 0) (n ^^^ b) = r) := Lib.hid hr
  have hx0 := u32_xor_nat n b hn (by omega)
  have hlt0 : n ^^^ b < 4294967296 := Nat.xor_lt_two_pow (n := 32) hn (by omega)
  generalize n ^^^ b = x at *
  clear hr
  go_enter Try.func41, Try.ntmps41
  go_wp2_with fail
  go_loop [0, 5] (fun s i => ∃ k m : Nat, k ≤ 8 ∧ i = .int .i64 k ∧ s = .int .u32 m ∧ m < 4294967296 ∧ Hid (steps (8 - k) m = r)) (fun _ i => 8 - (intOf i).toNat)
  case atStart => exact ⟨0, x, by omega, rfl, rfl, hlt0, HR⟩
  case round =>
    obtain ⟨k, m, hk, rfl, rfl, hm, H⟩ := hrel
    clear HR hx0
    by_cases hlt : k < 8
    · have hs := step_lt hm
      have H2 := Lib.hid (steps_more hlt H.out)
      by_cases ho : m % 2 = 1
      · have hx := step_odd ho hm
        have ht : ((m : Int) % 2 == 1) = true := by simp; omega
        go_wp2_with fail
        go_round
        case rel => exact ⟨k + 1, CM.step m, by omega, by go_num, rfl, hs, H2⟩
        case measure => simp [intOf]; omega
      · have hx := step_half ho
        have ht : ((m : Int) % 2 == 1) = false := by simp; omega
        go_wp2_with fail
        go_round
        case rel => exact ⟨k + 1, CM.step m, by omega, by go_num, by go_num, hs, H2⟩
        case measure => simp [intOf]; omega
    · obtain rfl : k = 8 := by omega
      have h : m = r := H.out
      subst h
      go_wp2_with fail
      go_ret
      exact ⟨rfl, rfl⟩
end Go.Proofs.Ytfnohcmoaooghaa.CR
