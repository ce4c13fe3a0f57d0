/-
  The reference: Lower and IsWord return what the plain functions say. No condition.
-/
import Derived.Test.YtgacfihidpijeaaZE23
set_option linter.unusedVariables false
namespace Go.Proofs.Ytgacfihidpijeaa.UM
open Go.RowKit
set_option maxRecDepth 100000 in
set_option maxHeartbeats 1000000 in
theorem rlower_0 (r : Int) (w : World) (g1 : r ≤ 64) : Calls Try.prog 85 #[.int .i64 r] w fun e w' => e = .returned (.int .i64 (r)) ∧ w = w' := by
  have q215 : (r == 215) = false := by simp; omega
  have n215 : (r != 215) = true := by simp; omega
  have q930 : (r == 930) = false := by simp; omega
  have n930 : (r != 930) = true := by simp; omega
  have a65 : decide ((65 : Int) ≤ r) = false := by simp; omega
  have a192 : decide ((192 : Int) ≤ r) = false := by simp; omega
  have a913 : decide ((913 : Int) ≤ r) = false := by simp; omega
  have a1040 : decide ((1040 : Int) ≤ r) = false := by simp; omega
  have a1024 : decide ((1024 : Int) ≤ r) = false := by simp; omega
  have b90 : decide (r ≤ (90 : Int)) = true := by simp; omega
  have b222 : decide (r ≤ (222 : Int)) = true := by simp; omega
  have b939 : decide (r ≤ (939 : Int)) = true := by simp; omega
  have b1071 : decide (r ≤ (1071 : Int)) = true := by simp; omega
  have b1039 : decide (r ≤ (1039 : Int)) = true := by simp; omega
  clear g1
  go_enter Try.func85, Try.ntmps85
  go_wp2
  go_ret
  exact ⟨rfl, rfl⟩
set_option maxRecDepth 100000 in
set_option maxHeartbeats 1000000 in
theorem rlower_1 (r : Int) (w : World) (g0 : 65 ≤ r) (g1 : r ≤ 90) : Calls Try.prog 85 #[.int .i64 r] w fun e w' => e = .returned (.int .i64 (r + 32)) ∧ w = w' := by
  have q215 : (r == 215) = false := by simp; omega
  have n215 : (r != 215) = true := by simp; omega
  have q930 : (r == 930) = false := by simp; omega
  have n930 : (r != 930) = true := by simp; omega
  have a65 : decide ((65 : Int) ≤ r) = true := by simp; omega
  have a192 : decide ((192 : Int) ≤ r) = false := by simp; omega
  have a913 : decide ((913 : Int) ≤ r) = false := by simp; omega
  have a1040 : decide ((1040 : Int) ≤ r) = false := by simp; omega
  have a1024 : decide ((1024 : Int) ≤ r) = false := by simp; omega
  have b90 : decide (r ≤ (90 : Int)) = true := by simp; omega
  have b222 : decide (r ≤ (222 : Int)) = true := by simp; omega
  have b939 : decide (r ≤ (939 : Int)) = true := by simp; omega
  have b1071 : decide (r ≤ (1071 : Int)) = true := by simp; omega
  have b1039 : decide (r ≤ (1039 : Int)) = true := by simp; omega
  have z0 : 0 ≤ r := by omega
  have z1 : r ≤ 2000 := by omega
  clear g0 g1
  go_enter Try.func85, Try.ntmps85
  go_wp2
  go_ret
  exact ⟨rfl, rfl⟩
set_option maxRecDepth 100000 in
set_option maxHeartbeats 1000000 in
theorem rlower_2 (r : Int) (w : World) (g0 : 91 ≤ r) (g1 : r ≤ 191) : Calls Try.prog 85 #[.int .i64 r] w fun e w' => e = .returned (.int .i64 (r)) ∧ w = w' := by
  have q215 : (r == 215) = false := by simp; omega
  have n215 : (r != 215) = true := by simp; omega
  have q930 : (r == 930) = false := by simp; omega
  have n930 : (r != 930) = true := by simp; omega
  have a65 : decide ((65 : Int) ≤ r) = true := by simp; omega
  have a192 : decide ((192 : Int) ≤ r) = false := by simp; omega
  have a913 : decide ((913 : Int) ≤ r) = false := by simp; omega
  have a1040 : decide ((1040 : Int) ≤ r) = false := by simp; omega
  have a1024 : decide ((1024 : Int) ≤ r) = false := by simp; omega
  have b90 : decide (r ≤ (90 : Int)) = false := by simp; omega
  have b222 : decide (r ≤ (222 : Int)) = true := by simp; omega
  have b939 : decide (r ≤ (939 : Int)) = true := by simp; omega
  have b1071 : decide (r ≤ (1071 : Int)) = true := by simp; omega
  have b1039 : decide (r ≤ (1039 : Int)) = true := by simp; omega
  clear g0 g1
  go_enter Try.func85, Try.ntmps85
  go_wp2
  go_ret
  exact ⟨rfl, rfl⟩
set_option maxRecDepth 100000 in
set_option maxHeartbeats 1000000 in
theorem rlower_3 (r : Int) (w : World) (g0 : 192 ≤ r) (g1 : r ≤ 214) : Calls Try.prog 85 #[.int .i64 r] w fun e w' => e = .returned (.int .i64 (r + 32)) ∧ w = w' := by
  have q215 : (r == 215) = false := by simp; omega
  have n215 : (r != 215) = true := by simp; omega
  have q930 : (r == 930) = false := by simp; omega
  have n930 : (r != 930) = true := by simp; omega
  have a65 : decide ((65 : Int) ≤ r) = true := by simp; omega
  have a192 : decide ((192 : Int) ≤ r) = true := by simp; omega
  have a913 : decide ((913 : Int) ≤ r) = false := by simp; omega
  have a1040 : decide ((1040 : Int) ≤ r) = false := by simp; omega
  have a1024 : decide ((1024 : Int) ≤ r) = false := by simp; omega
  have b90 : decide (r ≤ (90 : Int)) = false := by simp; omega
  have b222 : decide (r ≤ (222 : Int)) = true := by simp; omega
  have b939 : decide (r ≤ (939 : Int)) = true := by simp; omega
  have b1071 : decide (r ≤ (1071 : Int)) = true := by simp; omega
  have b1039 : decide (r ≤ (1039 : Int)) = true := by simp; omega
  have z0 : 0 ≤ r := by omega
  have z1 : r ≤ 2000 := by omega
  clear g0 g1
  go_enter Try.func85, Try.ntmps85
  go_wp2
  go_ret
  exact ⟨rfl, rfl⟩
set_option maxRecDepth 100000 in
set_option maxHeartbeats 1000000 in
theorem rlower_4 (r : Int) (w : World) (g0 : 215 ≤ r) (g1 : r ≤ 215) : Calls Try.prog 85 #[.int .i64 r] w fun e w' => e = .returned (.int .i64 (r)) ∧ w = w' := by
  have q215 : (r == 215) = true := by simp; omega
  have n215 : (r != 215) = false := by simp; omega
  have q930 : (r == 930) = false := by simp; omega
  have n930 : (r != 930) = true := by simp; omega
  have a65 : decide ((65 : Int) ≤ r) = true := by simp; omega
  have a192 : decide ((192 : Int) ≤ r) = true := by simp; omega
  have a913 : decide ((913 : Int) ≤ r) = false := by simp; omega
  have a1040 : decide ((1040 : Int) ≤ r) = false := by simp; omega
  have a1024 : decide ((1024 : Int) ≤ r) = false := by simp; omega
  have b90 : decide (r ≤ (90 : Int)) = false := by simp; omega
  have b222 : decide (r ≤ (222 : Int)) = true := by simp; omega
  have b939 : decide (r ≤ (939 : Int)) = true := by simp; omega
  have b1071 : decide (r ≤ (1071 : Int)) = true := by simp; omega
  have b1039 : decide (r ≤ (1039 : Int)) = true := by simp; omega
  clear g0 g1
  go_enter Try.func85, Try.ntmps85
  go_wp2
  go_ret
  exact ⟨rfl, rfl⟩
set_option maxRecDepth 100000 in
set_option maxHeartbeats 1000000 in
theorem rlower_5 (r : Int) (w : World) (g0 : 216 ≤ r) (g1 : r ≤ 222) : Calls Try.prog 85 #[.int .i64 r] w fun e w' => e = .returned (.int .i64 (r + 32)) ∧ w = w' := by
  have q215 : (r == 215) = false := by simp; omega
  have n215 : (r != 215) = true := by simp; omega
  have q930 : (r == 930) = false := by simp; omega
  have n930 : (r != 930) = true := by simp; omega
  have a65 : decide ((65 : Int) ≤ r) = true := by simp; omega
  have a192 : decide ((192 : Int) ≤ r) = true := by simp; omega
  have a913 : decide ((913 : Int) ≤ r) = false := by simp; omega
  have a1040 : decide ((1040 : Int) ≤ r) = false := by simp; omega
  have a1024 : decide ((1024 : Int) ≤ r) = false := by simp; omega
  have b90 : decide (r ≤ (90 : Int)) = false := by simp; omega
  have b222 : decide (r ≤ (222 : Int)) = true := by simp; omega
  have b939 : decide (r ≤ (939 : Int)) = true := by simp; omega
  have b1071 : decide (r ≤ (1071 : Int)) = true := by simp; omega
  have b1039 : decide (r ≤ (1039 : Int)) = true := by simp; omega
  have z0 : 0 ≤ r := by omega
  have z1 : r ≤ 2000 := by omega
  clear g0 g1
  go_enter Try.func85, Try.ntmps85
  go_wp2
  go_ret
  exact ⟨rfl, rfl⟩
set_option maxRecDepth 100000 in
set_option maxHeartbeats 1000000 in
theorem rlower_6 (r : Int) (w : World) (g0 : 223 ≤ r) (g1 : r ≤ 912) : Calls Try.prog 85 #[.int .i64 r] w fun e w' => e = .returned (.int .i64 (r)) ∧ w = w' := by
  have q215 : (r == 215) = false := by simp; omega
  have n215 : (r != 215) = true := by simp; omega
  have q930 : (r == 930) = false := by simp; omega
  have n930 : (r != 930) = true := by simp; omega
  have a65 : decide ((65 : Int) ≤ r) = true := by simp; omega
  have a192 : decide ((192 : Int) ≤ r) = true := by simp; omega
  have a913 : decide ((913 : Int) ≤ r) = false := by simp; omega
  have a1040 : decide ((1040 : Int) ≤ r) = false := by simp; omega
  have a1024 : decide ((1024 : Int) ≤ r) = false := by simp; omega
  have b90 : decide (r ≤ (90 : Int)) = false := by simp; omega
  have b222 : decide (r ≤ (222 : Int)) = false := by simp; omega
  have b939 : decide (r ≤ (939 : Int)) = true := by simp; omega
  have b1071 : decide (r ≤ (1071 : Int)) = true := by simp; omega
  have b1039 : decide (r ≤ (1039 : Int)) = true := by simp; omega
  clear g0 g1
  go_enter Try.func85, Try.ntmps85
  go_wp2
  go_ret
  exact ⟨rfl, rfl⟩
set_option maxRecDepth 100000 in
set_option maxHeartbeats 1000000 in
theorem rlower_7 (r : Int) (w : World) (g0 : 913 ≤ r) (g1 : r ≤ 929) : Calls Try.prog 85 #[.int .i64 r] w fun e w' => e = .returned (.int .i64 (r + 32)) ∧ w = w' := by
  have q215 : (r == 215) = false := by simp; omega
  have n215 : (r != 215) = true := by simp; omega
  have q930 : (r == 930) = false := by simp; omega
  have n930 : (r != 930) = true := by simp; omega
  have a65 : decide ((65 : Int) ≤ r) = true := by simp; omega
  have a192 : decide ((192 : Int) ≤ r) = true := by simp; omega
  have a913 : decide ((913 : Int) ≤ r) = true := by simp; omega
  have a1040 : decide ((1040 : Int) ≤ r) = false := by simp; omega
  have a1024 : decide ((1024 : Int) ≤ r) = false := by simp; omega
  have b90 : decide (r ≤ (90 : Int)) = false := by simp; omega
  have b222 : decide (r ≤ (222 : Int)) = false := by simp; omega
  have b939 : decide (r ≤ (939 : Int)) = true := by simp; omega
  have b1071 : decide (r ≤ (1071 : Int)) = true := by simp; omega
  have b1039 : decide (r ≤ (1039 : Int)) = true := by simp; omega
  have z0 : 0 ≤ r := by omega
  have z1 : r ≤ 2000 := by omega
  clear g0 g1
  go_enter Try.func85, Try.ntmps85
  go_wp2
  go_ret
  exact ⟨rfl, rfl⟩
set_option maxRecDepth 100000 in
set_option maxHeartbeats 1000000 in
theorem rlower_8 (r : Int) (w : World) (g0 : 930 ≤ r) (g1 : r ≤ 930) : Calls Try.prog 85 #[.int .i64 r] w fun e w' => e = .returned (.int .i64 (r)) ∧ w = w' := by
  have q215 : (r == 215) = false := by simp; omega
  have n215 : (r != 215) = true := by simp; omega
  have q930 : (r == 930) = true := by simp; omega
  have n930 : (r != 930) = false := by simp; omega
  have a65 : decide ((65 : Int) ≤ r) = true := by simp; omega
  have a192 : decide ((192 : Int) ≤ r) = true := by simp; omega
  have a913 : decide ((913 : Int) ≤ r) = true := by simp; omega
  have a1040 : decide ((1040 : Int) ≤ r) = false := by simp; omega
  have a1024 : decide ((1024 : Int) ≤ r) = false := by simp; omega
  have b90 : decide (r ≤ (90 : Int)) = false := by simp; omega
  have b222 : decide (r ≤ (222 : Int)) = false := by simp; omega
  have b939 : decide (r ≤ (939 : Int)) = true := by simp; omega
  have b1071 : decide (r ≤ (1071 : Int)) = true := by simp; omega
  have b1039 : decide (r ≤ (1039 : Int)) = true := by simp; omega
  clear g0 g1
  go_enter Try.func85, Try.ntmps85
  go_wp2
  go_ret
  exact ⟨rfl, rfl⟩
set_option maxRecDepth 100000 in
set_option maxHeartbeats 1000000 in
theorem rlower_9 (r : Int) (w : World) (g0 : 931 ≤ r) (g1 : r ≤ 939) : Calls Try.prog 85 #[.int .i64 r] w fun e w' => e = .returned (.int .i64 (r + 32)) ∧ w = w' := by
  have q215 : (r == 215) = false := by simp; omega
  have n215 : (r != 215) = true := by simp; omega
  have q930 : (r == 930) = false := by simp; omega
  have n930 : (r != 930) = true := by simp; omega
  have a65 : decide ((65 : Int) ≤ r) = true := by simp; omega
  have a192 : decide ((192 : Int) ≤ r) = true := by simp; omega
  have a913 : decide ((913 : Int) ≤ r) = true := by simp; omega
  have a1040 : decide ((1040 : Int) ≤ r) = false := by simp; omega
  have a1024 : decide ((1024 : Int) ≤ r) = false := by simp; omega
  have b90 : decide (r ≤ (90 : Int)) = false := by simp; omega
  have b222 : decide (r ≤ (222 : Int)) = false := by simp; omega
  have b939 : decide (r ≤ (939 : Int)) = true := by simp; omega
  have b1071 : decide (r ≤ (1071 : Int)) = true := by simp; omega
  have b1039 : decide (r ≤ (1039 : Int)) = true := by simp; omega
  have z0 : 0 ≤ r := by omega
  have z1 : r ≤ 2000 := by omega
  clear g0 g1
  go_enter Try.func85, Try.ntmps85
  go_wp2
  go_ret
  exact ⟨rfl, rfl⟩
set_option maxRecDepth 100000 in
set_option maxHeartbeats 1000000 in
theorem rlower_10 (r : Int) (w : World) (g0 : 940 ≤ r) (g1 : r ≤ 1023) : Calls Try.prog 85 #[.int .i64 r] w fun e w' => e = .returned (.int .i64 (r)) ∧ w = w' := by
  have q215 : (r == 215) = false := by simp; omega
  have n215 : (r != 215) = true := by simp; omega
  have q930 : (r == 930) = false := by simp; omega
  have n930 : (r != 930) = true := by simp; omega
  have a65 : decide ((65 : Int) ≤ r) = true := by simp; omega
  have a192 : decide ((192 : Int) ≤ r) = true := by simp; omega
  have a913 : decide ((913 : Int) ≤ r) = true := by simp; omega
  have a1040 : decide ((1040 : Int) ≤ r) = false := by simp; omega
  have a1024 : decide ((1024 : Int) ≤ r) = false := by simp; omega
  have b90 : decide (r ≤ (90 : Int)) = false := by simp; omega
  have b222 : decide (r ≤ (222 : Int)) = false := by simp; omega
  have b939 : decide (r ≤ (939 : Int)) = false := by simp; omega
  have b1071 : decide (r ≤ (1071 : Int)) = true := by simp; omega
  have b1039 : decide (r ≤ (1039 : Int)) = true := by simp; omega
  clear g0 g1
  go_enter Try.func85, Try.ntmps85
  go_wp2
  go_ret
  exact ⟨rfl, rfl⟩
set_option maxRecDepth 100000 in
set_option maxHeartbeats 1000000 in
theorem rlower_11 (r : Int) (w : World) (g0 : 1024 ≤ r) (g1 : r ≤ 1039) : Calls Try.prog 85 #[.int .i64 r] w fun e w' => e = .returned (.int .i64 (r + 80)) ∧ w = w' := by
  have q215 : (r == 215) = false := by simp; omega
  have n215 : (r != 215) = true := by simp; omega
  have q930 : (r == 930) = false := by simp; omega
  have n930 : (r != 930) = true := by simp; omega
  have a65 : decide ((65 : Int) ≤ r) = true := by simp; omega
  have a192 : decide ((192 : Int) ≤ r) = true := by simp; omega
  have a913 : decide ((913 : Int) ≤ r) = true := by simp; omega
  have a1040 : decide ((1040 : Int) ≤ r) = false := by simp; omega
  have a1024 : decide ((1024 : Int) ≤ r) = true := by simp; omega
  have b90 : decide (r ≤ (90 : Int)) = false := by simp; omega
  have b222 : decide (r ≤ (222 : Int)) = false := by simp; omega
  have b939 : decide (r ≤ (939 : Int)) = false := by simp; omega
  have b1071 : decide (r ≤ (1071 : Int)) = true := by simp; omega
  have b1039 : decide (r ≤ (1039 : Int)) = true := by simp; omega
  have z0 : 0 ≤ r := by omega
  have z1 : r ≤ 2000 := by omega
  clear g0 g1
  go_enter Try.func85, Try.ntmps85
  go_wp2
  go_ret
  exact ⟨rfl, rfl⟩
set_option maxRecDepth 100000 in
set_option maxHeartbeats 1000000 in
theorem rlower_12 (r : Int) (w : World) (g0 : 1040 ≤ r) (g1 : r ≤ 1071) : Calls Try.prog 85 #[.int .i64 r] w fun e w' => e = .returned (.int .i64 (r + 32)) ∧ w = w' := by
  have q215 : (r == 215) = false := by simp; omega
  have n215 : (r != 215) = true := by simp; omega
  have q930 : (r == 930) = false := by simp; omega
  have n930 : (r != 930) = true := by simp; omega
  have a65 : decide ((65 : Int) ≤ r) = true := by simp; omega
  have a192 : decide ((192 : Int) ≤ r) = true := by simp; omega
  have a913 : decide ((913 : Int) ≤ r) = true := by simp; omega
  have a1040 : decide ((1040 : Int) ≤ r) = true := by simp; omega
  have a1024 : decide ((1024 : Int) ≤ r) = true := by simp; omega
  have b90 : decide (r ≤ (90 : Int)) = false := by simp; omega
  have b222 : decide (r ≤ (222 : Int)) = false := by simp; omega
  have b939 : decide (r ≤ (939 : Int)) = false := by simp; omega
  have b1071 : decide (r ≤ (1071 : Int)) = true := by simp; omega
  have b1039 : decide (r ≤ (1039 : Int)) = false := by simp; omega
  have z0 : 0 ≤ r := by omega
  have z1 : r ≤ 2000 := by omega
  clear g0 g1
  go_enter Try.func85, Try.ntmps85
  go_wp2
  go_ret
  exact ⟨rfl, rfl⟩
set_option maxRecDepth 100000 in
set_option maxHeartbeats 1000000 in
theorem rlower_13 (r : Int) (w : World) (g0 : 1072 ≤ r) : Calls Try.prog 85 #[.int .i64 r] w fun e w' => e = .returned (.int .i64 (r)) ∧ w = w' := by
  have q215 : (r == 215) = false := by simp; omega
  have n215 : (r != 215) = true := by simp; omega
  have q930 : (r == 930) = false := by simp; omega
  have n930 : (r != 930) = true := by simp; omega
  have a65 : decide ((65 : Int) ≤ r) = true := by simp; omega
  have a192 : decide ((192 : Int) ≤ r) = true := by simp; omega
  have a913 : decide ((913 : Int) ≤ r) = true := by simp; omega
  have a1040 : decide ((1040 : Int) ≤ r) = true := by simp; omega
  have a1024 : decide ((1024 : Int) ≤ r) = true := by simp; omega
  have b90 : decide (r ≤ (90 : Int)) = false := by simp; omega
  have b222 : decide (r ≤ (222 : Int)) = false := by simp; omega
  have b939 : decide (r ≤ (939 : Int)) = false := by simp; omega
  have b1071 : decide (r ≤ (1071 : Int)) = false := by simp; omega
  have b1039 : decide (r ≤ (1039 : Int)) = false := by simp; omega
  clear g0
  go_enter Try.func85, Try.ntmps85
  go_wp2
  go_ret
  exact ⟨rfl, rfl⟩
theorem rlower_any (r : Int) (w : World) : Calls Try.prog 85 #[.int .i64 r] w fun e w' => e = .returned (.int .i64 (lowerZ r)) ∧ w = w' := by
  by_cases g0 : r ≤ 64
  · have e : lowerZ r = r := by unfold lowerZ; (repeat' split) <;> omega
    rw [e]
    exact rlower_0 r w (by omega)
  by_cases g1 : 65 ≤ r ∧ r ≤ 90
  · have e : lowerZ r = r + 32 := by unfold lowerZ; (repeat' split) <;> omega
    rw [e]
    exact rlower_1 r w (by omega) (by omega)
  by_cases g2 : 91 ≤ r ∧ r ≤ 191
  · have e : lowerZ r = r := by unfold lowerZ; (repeat' split) <;> omega
    rw [e]
    exact rlower_2 r w (by omega) (by omega)
  by_cases g3 : 192 ≤ r ∧ r ≤ 214
  · have e : lowerZ r = r + 32 := by unfold lowerZ; (repeat' split) <;> omega
    rw [e]
    exact rlower_3 r w (by omega) (by omega)
  by_cases g4 : 215 ≤ r ∧ r ≤ 215
  · have e : lowerZ r = r := by unfold lowerZ; (repeat' split) <;> omega
    rw [e]
    exact rlower_4 r w (by omega) (by omega)
  by_cases g5 : 216 ≤ r ∧ r ≤ 222
  · have e : lowerZ r = r + 32 := by unfold lowerZ; (repeat' split) <;> omega
    rw [e]
    exact rlower_5 r w (by omega) (by omega)
  by_cases g6 : 223 ≤ r ∧ r ≤ 912
  · have e : lowerZ r = r := by unfold lowerZ; (repeat' split) <;> omega
    rw [e]
    exact rlower_6 r w (by omega) (by omega)
  by_cases g7 : 913 ≤ r ∧ r ≤ 929
  · have e : lowerZ r = r + 32 := by unfold lowerZ; (repeat' split) <;> omega
    rw [e]
    exact rlower_7 r w (by omega) (by omega)
  by_cases g8 : 930 ≤ r ∧ r ≤ 930
  · have e : lowerZ r = r := by unfold lowerZ; (repeat' split) <;> omega
    rw [e]
    exact rlower_8 r w (by omega) (by omega)
  by_cases g9 : 931 ≤ r ∧ r ≤ 939
  · have e : lowerZ r = r + 32 := by unfold lowerZ; (repeat' split) <;> omega
    rw [e]
    exact rlower_9 r w (by omega) (by omega)
  by_cases g10 : 940 ≤ r ∧ r ≤ 1023
  · have e : lowerZ r = r := by unfold lowerZ; (repeat' split) <;> omega
    rw [e]
    exact rlower_10 r w (by omega) (by omega)
  by_cases g11 : 1024 ≤ r ∧ r ≤ 1039
  · have e : lowerZ r = r + 80 := by unfold lowerZ; (repeat' split) <;> omega
    rw [e]
    exact rlower_11 r w (by omega) (by omega)
  by_cases g12 : 1040 ≤ r ∧ r ≤ 1071
  · have e : lowerZ r = r + 32 := by unfold lowerZ; (repeat' split) <;> omega
    rw [e]
    exact rlower_12 r w (by omega) (by omega)
  by_cases g13 : 1072 ≤ r
  · have e : lowerZ r = r := by unfold lowerZ; (repeat' split) <;> omega
    rw [e]
    exact rlower_13 r w (by omega)
  exfalso
  omega

set_option maxRecDepth 100000 in
set_option maxHeartbeats 1000000 in
theorem rword_0 (r : Int) (w : World) (g1 : r ≤ 47) : Calls Try.prog 61 #[.int .i64 r] w fun e w' => e = .returned (.bool false) ∧ w = w' := by
  have q215 : (r == 215) = false := by simp; omega
  have n215 : (r != 215) = true := by simp; omega
  have q247 : (r == 247) = false := by simp; omega
  have n247 : (r != 247) = true := by simp; omega
  have q930 : (r == 930) = false := by simp; omega
  have n930 : (r != 930) = true := by simp; omega
  have a48 : decide ((48 : Int) ≤ r) = false := by simp; omega
  have a65 : decide ((65 : Int) ≤ r) = false := by simp; omega
  have a97 : decide ((97 : Int) ≤ r) = false := by simp; omega
  have a192 : decide ((192 : Int) ≤ r) = false := by simp; omega
  have a913 : decide ((913 : Int) ≤ r) = false := by simp; omega
  have a1024 : decide ((1024 : Int) ≤ r) = false := by simp; omega
  have b57 : decide (r ≤ (57 : Int)) = true := by simp; omega
  have b90 : decide (r ≤ (90 : Int)) = true := by simp; omega
  have b122 : decide (r ≤ (122 : Int)) = true := by simp; omega
  have b255 : decide (r ≤ (255 : Int)) = true := by simp; omega
  have b974 : decide (r ≤ (974 : Int)) = true := by simp; omega
  have b1119 : decide (r ≤ (1119 : Int)) = true := by simp; omega
  clear g1
  go_enter Try.func61, Try.ntmps61
  go_wp2
  go_ret
  exact ⟨rfl, rfl⟩
set_option maxRecDepth 100000 in
set_option maxHeartbeats 1000000 in
theorem rword_1 (r : Int) (w : World) (g0 : 48 ≤ r) (g1 : r ≤ 57) : Calls Try.prog 61 #[.int .i64 r] w fun e w' => e = .returned (.bool true) ∧ w = w' := by
  have q215 : (r == 215) = false := by simp; omega
  have n215 : (r != 215) = true := by simp; omega
  have q247 : (r == 247) = false := by simp; omega
  have n247 : (r != 247) = true := by simp; omega
  have q930 : (r == 930) = false := by simp; omega
  have n930 : (r != 930) = true := by simp; omega
  have a48 : decide ((48 : Int) ≤ r) = true := by simp; omega
  have a65 : decide ((65 : Int) ≤ r) = false := by simp; omega
  have a97 : decide ((97 : Int) ≤ r) = false := by simp; omega
  have a192 : decide ((192 : Int) ≤ r) = false := by simp; omega
  have a913 : decide ((913 : Int) ≤ r) = false := by simp; omega
  have a1024 : decide ((1024 : Int) ≤ r) = false := by simp; omega
  have b57 : decide (r ≤ (57 : Int)) = true := by simp; omega
  have b90 : decide (r ≤ (90 : Int)) = true := by simp; omega
  have b122 : decide (r ≤ (122 : Int)) = true := by simp; omega
  have b255 : decide (r ≤ (255 : Int)) = true := by simp; omega
  have b974 : decide (r ≤ (974 : Int)) = true := by simp; omega
  have b1119 : decide (r ≤ (1119 : Int)) = true := by simp; omega
  clear g0 g1
  go_enter Try.func61, Try.ntmps61
  go_wp2
  go_ret
  exact ⟨rfl, rfl⟩
set_option maxRecDepth 100000 in
set_option maxHeartbeats 1000000 in
theorem rword_2 (r : Int) (w : World) (g0 : 58 ≤ r) (g1 : r ≤ 64) : Calls Try.prog 61 #[.int .i64 r] w fun e w' => e = .returned (.bool false) ∧ w = w' := by
  have q215 : (r == 215) = false := by simp; omega
  have n215 : (r != 215) = true := by simp; omega
  have q247 : (r == 247) = false := by simp; omega
  have n247 : (r != 247) = true := by simp; omega
  have q930 : (r == 930) = false := by simp; omega
  have n930 : (r != 930) = true := by simp; omega
  have a48 : decide ((48 : Int) ≤ r) = true := by simp; omega
  have a65 : decide ((65 : Int) ≤ r) = false := by simp; omega
  have a97 : decide ((97 : Int) ≤ r) = false := by simp; omega
  have a192 : decide ((192 : Int) ≤ r) = false := by simp; omega
  have a913 : decide ((913 : Int) ≤ r) = false := by simp; omega
  have a1024 : decide ((1024 : Int) ≤ r) = false := by simp; omega
  have b57 : decide (r ≤ (57 : Int)) = false := by simp; omega
  have b90 : decide (r ≤ (90 : Int)) = true := by simp; omega
  have b122 : decide (r ≤ (122 : Int)) = true := by simp; omega
  have b255 : decide (r ≤ (255 : Int)) = true := by simp; omega
  have b974 : decide (r ≤ (974 : Int)) = true := by simp; omega
  have b1119 : decide (r ≤ (1119 : Int)) = true := by simp; omega
  clear g0 g1
  go_enter Try.func61, Try.ntmps61
  go_wp2
  go_ret
  exact ⟨rfl, rfl⟩
set_option maxRecDepth 100000 in
set_option maxHeartbeats 1000000 in
theorem rword_3 (r : Int) (w : World) (g0 : 65 ≤ r) (g1 : r ≤ 90) : Calls Try.prog 61 #[.int .i64 r] w fun e w' => e = .returned (.bool true) ∧ w = w' := by
  have q215 : (r == 215) = false := by simp; omega
  have n215 : (r != 215) = true := by simp; omega
  have q247 : (r == 247) = false := by simp; omega
  have n247 : (r != 247) = true := by simp; omega
  have q930 : (r == 930) = false := by simp; omega
  have n930 : (r != 930) = true := by simp; omega
  have a48 : decide ((48 : Int) ≤ r) = true := by simp; omega
  have a65 : decide ((65 : Int) ≤ r) = true := by simp; omega
  have a97 : decide ((97 : Int) ≤ r) = false := by simp; omega
  have a192 : decide ((192 : Int) ≤ r) = false := by simp; omega
  have a913 : decide ((913 : Int) ≤ r) = false := by simp; omega
  have a1024 : decide ((1024 : Int) ≤ r) = false := by simp; omega
  have b57 : decide (r ≤ (57 : Int)) = false := by simp; omega
  have b90 : decide (r ≤ (90 : Int)) = true := by simp; omega
  have b122 : decide (r ≤ (122 : Int)) = true := by simp; omega
  have b255 : decide (r ≤ (255 : Int)) = true := by simp; omega
  have b974 : decide (r ≤ (974 : Int)) = true := by simp; omega
  have b1119 : decide (r ≤ (1119 : Int)) = true := by simp; omega
  clear g0 g1
  go_enter Try.func61, Try.ntmps61
  go_wp2
  go_ret
  exact ⟨rfl, rfl⟩
set_option maxRecDepth 100000 in
set_option maxHeartbeats 1000000 in
theorem rword_4 (r : Int) (w : World) (g0 : 91 ≤ r) (g1 : r ≤ 96) : Calls Try.prog 61 #[.int .i64 r] w fun e w' => e = .returned (.bool false) ∧ w = w' := by
  have q215 : (r == 215) = false := by simp; omega
  have n215 : (r != 215) = true := by simp; omega
  have q247 : (r == 247) = false := by simp; omega
  have n247 : (r != 247) = true := by simp; omega
  have q930 : (r == 930) = false := by simp; omega
  have n930 : (r != 930) = true := by simp; omega
  have a48 : decide ((48 : Int) ≤ r) = true := by simp; omega
  have a65 : decide ((65 : Int) ≤ r) = true := by simp; omega
  have a97 : decide ((97 : Int) ≤ r) = false := by simp; omega
  have a192 : decide ((192 : Int) ≤ r) = false := by simp; omega
  have a913 : decide ((913 : Int) ≤ r) = false := by simp; omega
  have a1024 : decide ((1024 : Int) ≤ r) = false := by simp; omega
  have b57 : decide (r ≤ (57 : Int)) = false := by simp; omega
  have b90 : decide (r ≤ (90 : Int)) = false := by simp; omega
  have b122 : decide (r ≤ (122 : Int)) = true := by simp; omega
  have b255 : decide (r ≤ (255 : Int)) = true := by simp; omega
  have b974 : decide (r ≤ (974 : Int)) = true := by simp; omega
  have b1119 : decide (r ≤ (1119 : Int)) = true := by simp; omega
  clear g0 g1
  go_enter Try.func61, Try.ntmps61
  go_wp2
  go_ret
  exact ⟨rfl, rfl⟩
set_option maxRecDepth 100000 in
set_option maxHeartbeats 1000000 in
theorem rword_5 (r : Int) (w : World) (g0 : 97 ≤ r) (g1 : r ≤ 122) : Calls Try.prog 61 #[.int .i64 r] w fun e w' => e = .returned (.bool true) ∧ w = w' := by
  have q215 : (r == 215) = false := by simp; omega
  have n215 : (r != 215) = true := by simp; omega
  have q247 : (r == 247) = false := by simp; omega
  have n247 : (r != 247) = true := by simp; omega
  have q930 : (r == 930) = false := by simp; omega
  have n930 : (r != 930) = true := by simp; omega
  have a48 : decide ((48 : Int) ≤ r) = true := by simp; omega
  have a65 : decide ((65 : Int) ≤ r) = true := by simp; omega
  have a97 : decide ((97 : Int) ≤ r) = true := by simp; omega
  have a192 : decide ((192 : Int) ≤ r) = false := by simp; omega
  have a913 : decide ((913 : Int) ≤ r) = false := by simp; omega
  have a1024 : decide ((1024 : Int) ≤ r) = false := by simp; omega
  have b57 : decide (r ≤ (57 : Int)) = false := by simp; omega
  have b90 : decide (r ≤ (90 : Int)) = false := by simp; omega
  have b122 : decide (r ≤ (122 : Int)) = true := by simp; omega
  have b255 : decide (r ≤ (255 : Int)) = true := by simp; omega
  have b974 : decide (r ≤ (974 : Int)) = true := by simp; omega
  have b1119 : decide (r ≤ (1119 : Int)) = true := by simp; omega
  clear g0 g1
  go_enter Try.func61, Try.ntmps61
  go_wp2
  go_ret
  exact ⟨rfl, rfl⟩
set_option maxRecDepth 100000 in
set_option maxHeartbeats 1000000 in
theorem rword_6 (r : Int) (w : World) (g0 : 123 ≤ r) (g1 : r ≤ 191) : Calls Try.prog 61 #[.int .i64 r] w fun e w' => e = .returned (.bool false) ∧ w = w' := by
  have q215 : (r == 215) = false := by simp; omega
  have n215 : (r != 215) = true := by simp; omega
  have q247 : (r == 247) = false := by simp; omega
  have n247 : (r != 247) = true := by simp; omega
  have q930 : (r == 930) = false := by simp; omega
  have n930 : (r != 930) = true := by simp; omega
  have a48 : decide ((48 : Int) ≤ r) = true := by simp; omega
  have a65 : decide ((65 : Int) ≤ r) = true := by simp; omega
  have a97 : decide ((97 : Int) ≤ r) = true := by simp; omega
  have a192 : decide ((192 : Int) ≤ r) = false := by simp; omega
  have a913 : decide ((913 : Int) ≤ r) = false := by simp; omega
  have a1024 : decide ((1024 : Int) ≤ r) = false := by simp; omega
  have b57 : decide (r ≤ (57 : Int)) = false := by simp; omega
  have b90 : decide (r ≤ (90 : Int)) = false := by simp; omega
  have b122 : decide (r ≤ (122 : Int)) = false := by simp; omega
  have b255 : decide (r ≤ (255 : Int)) = true := by simp; omega
  have b974 : decide (r ≤ (974 : Int)) = true := by simp; omega
  have b1119 : decide (r ≤ (1119 : Int)) = true := by simp; omega
  clear g0 g1
  go_enter Try.func61, Try.ntmps61
  go_wp2
  go_ret
  exact ⟨rfl, rfl⟩
set_option maxRecDepth 100000 in
set_option maxHeartbeats 1000000 in
theorem rword_7 (r : Int) (w : World) (g0 : 192 ≤ r) (g1 : r ≤ 214) : Calls Try.prog 61 #[.int .i64 r] w fun e w' => e = .returned (.bool true) ∧ w = w' := by
  have q215 : (r == 215) = false := by simp; omega
  have n215 : (r != 215) = true := by simp; omega
  have q247 : (r == 247) = false := by simp; omega
  have n247 : (r != 247) = true := by simp; omega
  have q930 : (r == 930) = false := by simp; omega
  have n930 : (r != 930) = true := by simp; omega
  have a48 : decide ((48 : Int) ≤ r) = true := by simp; omega
  have a65 : decide ((65 : Int) ≤ r) = true := by simp; omega
  have a97 : decide ((97 : Int) ≤ r) = true := by simp; omega
  have a192 : decide ((192 : Int) ≤ r) = true := by simp; omega
  have a913 : decide ((913 : Int) ≤ r) = false := by simp; omega
  have a1024 : decide ((1024 : Int) ≤ r) = false := by simp; omega
  have b57 : decide (r ≤ (57 : Int)) = false := by simp; omega
  have b90 : decide (r ≤ (90 : Int)) = false := by simp; omega
  have b122 : decide (r ≤ (122 : Int)) = false := by simp; omega
  have b255 : decide (r ≤ (255 : Int)) = true := by simp; omega
  have b974 : decide (r ≤ (974 : Int)) = true := by simp; omega
  have b1119 : decide (r ≤ (1119 : Int)) = true := by simp; omega
  clear g0 g1
  go_enter Try.func61, Try.ntmps61
  go_wp2
  go_ret
  exact ⟨rfl, rfl⟩
set_option maxRecDepth 100000 in
set_option maxHeartbeats 1000000 in
theorem rword_8 (r : Int) (w : World) (g0 : 215 ≤ r) (g1 : r ≤ 215) : Calls Try.prog 61 #[.int .i64 r] w fun e w' => e = .returned (.bool false) ∧ w = w' := by
  have q215 : (r == 215) = true := by simp; omega
  have n215 : (r != 215) = false := by simp; omega
  have q247 : (r == 247) = false := by simp; omega
  have n247 : (r != 247) = true := by simp; omega
  have q930 : (r == 930) = false := by simp; omega
  have n930 : (r != 930) = true := by simp; omega
  have a48 : decide ((48 : Int) ≤ r) = true := by simp; omega
  have a65 : decide ((65 : Int) ≤ r) = true := by simp; omega
  have a97 : decide ((97 : Int) ≤ r) = true := by simp; omega
  have a192 : decide ((192 : Int) ≤ r) = true := by simp; omega
  have a913 : decide ((913 : Int) ≤ r) = false := by simp; omega
  have a1024 : decide ((1024 : Int) ≤ r) = false := by simp; omega
  have b57 : decide (r ≤ (57 : Int)) = false := by simp; omega
  have b90 : decide (r ≤ (90 : Int)) = false := by simp; omega
  have b122 : decide (r ≤ (122 : Int)) = false := by simp; omega
  have b255 : decide (r ≤ (255 : Int)) = true := by simp; omega
  have b974 : decide (r ≤ (974 : Int)) = true := by simp; omega
  have b1119 : decide (r ≤ (1119 : Int)) = true := by simp; omega
  clear g0 g1
  go_enter Try.func61, Try.ntmps61
  go_wp2
  go_ret
  exact ⟨rfl, rfl⟩
set_option maxRecDepth 100000 in
set_option maxHeartbeats 1000000 in
theorem rword_9 (r : Int) (w : World) (g0 : 216 ≤ r) (g1 : r ≤ 246) : Calls Try.prog 61 #[.int .i64 r] w fun e w' => e = .returned (.bool true) ∧ w = w' := by
  have q215 : (r == 215) = false := by simp; omega
  have n215 : (r != 215) = true := by simp; omega
  have q247 : (r == 247) = false := by simp; omega
  have n247 : (r != 247) = true := by simp; omega
  have q930 : (r == 930) = false := by simp; omega
  have n930 : (r != 930) = true := by simp; omega
  have a48 : decide ((48 : Int) ≤ r) = true := by simp; omega
  have a65 : decide ((65 : Int) ≤ r) = true := by simp; omega
  have a97 : decide ((97 : Int) ≤ r) = true := by simp; omega
  have a192 : decide ((192 : Int) ≤ r) = true := by simp; omega
  have a913 : decide ((913 : Int) ≤ r) = false := by simp; omega
  have a1024 : decide ((1024 : Int) ≤ r) = false := by simp; omega
  have b57 : decide (r ≤ (57 : Int)) = false := by simp; omega
  have b90 : decide (r ≤ (90 : Int)) = false := by simp; omega
  have b122 : decide (r ≤ (122 : Int)) = false := by simp; omega
  have b255 : decide (r ≤ (255 : Int)) = true := by simp; omega
  have b974 : decide (r ≤ (974 : Int)) = true := by simp; omega
  have b1119 : decide (r ≤ (1119 : Int)) = true := by simp; omega
  clear g0 g1
  go_enter Try.func61, Try.ntmps61
  go_wp2
  go_ret
  exact ⟨rfl, rfl⟩
set_option maxRecDepth 100000 in
set_option maxHeartbeats 1000000 in
theorem rword_10 (r : Int) (w : World) (g0 : 247 ≤ r) (g1 : r ≤ 247) : Calls Try.prog 61 #[.int .i64 r] w fun e w' => e = .returned (.bool false) ∧ w = w' := by
  have q215 : (r == 215) = false := by simp; omega
  have n215 : (r != 215) = true := by simp; omega
  have q247 : (r == 247) = true := by simp; omega
  have n247 : (r != 247) = false := by simp; omega
  have q930 : (r == 930) = false := by simp; omega
  have n930 : (r != 930) = true := by simp; omega
  have a48 : decide ((48 : Int) ≤ r) = true := by simp; omega
  have a65 : decide ((65 : Int) ≤ r) = true := by simp; omega
  have a97 : decide ((97 : Int) ≤ r) = true := by simp; omega
  have a192 : decide ((192 : Int) ≤ r) = true := by simp; omega
  have a913 : decide ((913 : Int) ≤ r) = false := by simp; omega
  have a1024 : decide ((1024 : Int) ≤ r) = false := by simp; omega
  have b57 : decide (r ≤ (57 : Int)) = false := by simp; omega
  have b90 : decide (r ≤ (90 : Int)) = false := by simp; omega
  have b122 : decide (r ≤ (122 : Int)) = false := by simp; omega
  have b255 : decide (r ≤ (255 : Int)) = true := by simp; omega
  have b974 : decide (r ≤ (974 : Int)) = true := by simp; omega
  have b1119 : decide (r ≤ (1119 : Int)) = true := by simp; omega
  clear g0 g1
  go_enter Try.func61, Try.ntmps61
  go_wp2
  go_ret
  exact ⟨rfl, rfl⟩
set_option maxRecDepth 100000 in
set_option maxHeartbeats 1000000 in
theorem rword_11 (r : Int) (w : World) (g0 : 248 ≤ r) (g1 : r ≤ 255) : Calls Try.prog 61 #[.int .i64 r] w fun e w' => e = .returned (.bool true) ∧ w = w' := by
  have q215 : (r == 215) = false := by simp; omega
  have n215 : (r != 215) = true := by simp; omega
  have q247 : (r == 247) = false := by simp; omega
  have n247 : (r != 247) = true := by simp; omega
  have q930 : (r == 930) = false := by simp; omega
  have n930 : (r != 930) = true := by simp; omega
  have a48 : decide ((48 : Int) ≤ r) = true := by simp; omega
  have a65 : decide ((65 : Int) ≤ r) = true := by simp; omega
  have a97 : decide ((97 : Int) ≤ r) = true := by simp; omega
  have a192 : decide ((192 : Int) ≤ r) = true := by simp; omega
  have a913 : decide ((913 : Int) ≤ r) = false := by simp; omega
  have a1024 : decide ((1024 : Int) ≤ r) = false := by simp; omega
  have b57 : decide (r ≤ (57 : Int)) = false := by simp; omega
  have b90 : decide (r ≤ (90 : Int)) = false := by simp; omega
  have b122 : decide (r ≤ (122 : Int)) = false := by simp; omega
  have b255 : decide (r ≤ (255 : Int)) = true := by simp; omega
  have b974 : decide (r ≤ (974 : Int)) = true := by simp; omega
  have b1119 : decide (r ≤ (1119 : Int)) = true := by simp; omega
  clear g0 g1
  go_enter Try.func61, Try.ntmps61
  go_wp2
  go_ret
  exact ⟨rfl, rfl⟩
set_option maxRecDepth 100000 in
set_option maxHeartbeats 1000000 in
theorem rword_12 (r : Int) (w : World) (g0 : 256 ≤ r) (g1 : r ≤ 912) : Calls Try.prog 61 #[.int .i64 r] w fun e w' => e = .returned (.bool false) ∧ w = w' := by
  have q215 : (r == 215) = false := by simp; omega
  have n215 : (r != 215) = true := by simp; omega
  have q247 : (r == 247) = false := by simp; omega
  have n247 : (r != 247) = true := by simp; omega
  have q930 : (r == 930) = false := by simp; omega
  have n930 : (r != 930) = true := by simp; omega
  have a48 : decide ((48 : Int) ≤ r) = true := by simp; omega
  have a65 : decide ((65 : Int) ≤ r) = true := by simp; omega
  have a97 : decide ((97 : Int) ≤ r) = true := by simp; omega
  have a192 : decide ((192 : Int) ≤ r) = true := by simp; omega
  have a913 : decide ((913 : Int) ≤ r) = false := by simp; omega
  have a1024 : decide ((1024 : Int) ≤ r) = false := by simp; omega
  have b57 : decide (r ≤ (57 : Int)) = false := by simp; omega
  have b90 : decide (r ≤ (90 : Int)) = false := by simp; omega
  have b122 : decide (r ≤ (122 : Int)) = false := by simp; omega
  have b255 : decide (r ≤ (255 : Int)) = false := by simp; omega
  have b974 : decide (r ≤ (974 : Int)) = true := by simp; omega
  have b1119 : decide (r ≤ (1119 : Int)) = true := by simp; omega
  clear g0 g1
  go_enter Try.func61, Try.ntmps61
  go_wp2
  go_ret
  exact ⟨rfl, rfl⟩
set_option maxRecDepth 100000 in
set_option maxHeartbeats 1000000 in
theorem rword_13 (r : Int) (w : World) (g0 : 913 ≤ r) (g1 : r ≤ 929) : Calls Try.prog 61 #[.int .i64 r] w fun e w' => e = .returned (.bool true) ∧ w = w' := by
  have q215 : (r == 215) = false := by simp; omega
  have n215 : (r != 215) = true := by simp; omega
  have q247 : (r == 247) = false := by simp; omega
  have n247 : (r != 247) = true := by simp; omega
  have q930 : (r == 930) = false := by simp; omega
  have n930 : (r != 930) = true := by simp; omega
  have a48 : decide ((48 : Int) ≤ r) = true := by simp; omega
  have a65 : decide ((65 : Int) ≤ r) = true := by simp; omega
  have a97 : decide ((97 : Int) ≤ r) = true := by simp; omega
  have a192 : decide ((192 : Int) ≤ r) = true := by simp; omega
  have a913 : decide ((913 : Int) ≤ r) = true := by simp; omega
  have a1024 : decide ((1024 : Int) ≤ r) = false := by simp; omega
  have b57 : decide (r ≤ (57 : Int)) = false := by simp; omega
  have b90 : decide (r ≤ (90 : Int)) = false := by simp; omega
  have b122 : decide (r ≤ (122 : Int)) = false := by simp; omega
  have b255 : decide (r ≤ (255 : Int)) = false := by simp; omega
  have b974 : decide (r ≤ (974 : Int)) = true := by simp; omega
  have b1119 : decide (r ≤ (1119 : Int)) = true := by simp; omega
  clear g0 g1
  go_enter Try.func61, Try.ntmps61
  go_wp2
  go_ret
  exact ⟨rfl, rfl⟩
set_option maxRecDepth 100000 in
set_option maxHeartbeats 1000000 in
theorem rword_14 (r : Int) (w : World) (g0 : 930 ≤ r) (g1 : r ≤ 930) : Calls Try.prog 61 #[.int .i64 r] w fun e w' => e = .returned (.bool false) ∧ w = w' := by
  have q215 : (r == 215) = false := by simp; omega
  have n215 : (r != 215) = true := by simp; omega
  have q247 : (r == 247) = false := by simp; omega
  have n247 : (r != 247) = true := by simp; omega
  have q930 : (r == 930) = true := by simp; omega
  have n930 : (r != 930) = false := by simp; omega
  have a48 : decide ((48 : Int) ≤ r) = true := by simp; omega
  have a65 : decide ((65 : Int) ≤ r) = true := by simp; omega
  have a97 : decide ((97 : Int) ≤ r) = true := by simp; omega
  have a192 : decide ((192 : Int) ≤ r) = true := by simp; omega
  have a913 : decide ((913 : Int) ≤ r) = true := by simp; omega
  have a1024 : decide ((1024 : Int) ≤ r) = false := by simp; omega
  have b57 : decide (r ≤ (57 : Int)) = false := by simp; omega
  have b90 : decide (r ≤ (90 : Int)) = false := by simp; omega
  have b122 : decide (r ≤ (122 : Int)) = false := by simp; omega
  have b255 : decide (r ≤ (255 : Int)) = false := by simp; omega
  have b974 : decide (r ≤ (974 : Int)) = true := by simp; omega
  have b1119 : decide (r ≤ (1119 : Int)) = true := by simp; omega
  clear g0 g1
  go_enter Try.func61, Try.ntmps61
  go_wp2
  go_ret
  exact ⟨rfl, rfl⟩
set_option maxRecDepth 100000 in
set_option maxHeartbeats 1000000 in
theorem rword_15 (r : Int) (w : World) (g0 : 931 ≤ r) (g1 : r ≤ 974) : Calls Try.prog 61 #[.int .i64 r] w fun e w' => e = .returned (.bool true) ∧ w = w' := by
  have q215 : (r == 215) = false := by simp; omega
  have n215 : (r != 215) = true := by simp; omega
  have q247 : (r == 247) = false := by simp; omega
  have n247 : (r != 247) = true := by simp; omega
  have q930 : (r == 930) = false := by simp; omega
  have n930 : (r != 930) = true := by simp; omega
  have a48 : decide ((48 : Int) ≤ r) = true := by simp; omega
  have a65 : decide ((65 : Int) ≤ r) = true := by simp; omega
  have a97 : decide ((97 : Int) ≤ r) = true := by simp; omega
  have a192 : decide ((192 : Int) ≤ r) = true := by simp; omega
  have a913 : decide ((913 : Int) ≤ r) = true := by simp; omega
  have a1024 : decide ((1024 : Int) ≤ r) = false := by simp; omega
  have b57 : decide (r ≤ (57 : Int)) = false := by simp; omega
  have b90 : decide (r ≤ (90 : Int)) = false := by simp; omega
  have b122 : decide (r ≤ (122 : Int)) = false := by simp; omega
  have b255 : decide (r ≤ (255 : Int)) = false := by simp; omega
  have b974 : decide (r ≤ (974 : Int)) = true := by simp; omega
  have b1119 : decide (r ≤ (1119 : Int)) = true := by simp; omega
  clear g0 g1
  go_enter Try.func61, Try.ntmps61
  go_wp2
  go_ret
  exact ⟨rfl, rfl⟩
set_option maxRecDepth 100000 in
set_option maxHeartbeats 1000000 in
theorem rword_16 (r : Int) (w : World) (g0 : 975 ≤ r) (g1 : r ≤ 1023) : Calls Try.prog 61 #[.int .i64 r] w fun e w' => e = .returned (.bool false) ∧ w = w' := by
  have q215 : (r == 215) = false := by simp; omega
  have n215 : (r != 215) = true := by simp; omega
  have q247 : (r == 247) = false := by simp; omega
  have n247 : (r != 247) = true := by simp; omega
  have q930 : (r == 930) = false := by simp; omega
  have n930 : (r != 930) = true := by simp; omega
  have a48 : decide ((48 : Int) ≤ r) = true := by simp; omega
  have a65 : decide ((65 : Int) ≤ r) = true := by simp; omega
  have a97 : decide ((97 : Int) ≤ r) = true := by simp; omega
  have a192 : decide ((192 : Int) ≤ r) = true := by simp; omega
  have a913 : decide ((913 : Int) ≤ r) = true := by simp; omega
  have a1024 : decide ((1024 : Int) ≤ r) = false := by simp; omega
  have b57 : decide (r ≤ (57 : Int)) = false := by simp; omega
  have b90 : decide (r ≤ (90 : Int)) = false := by simp; omega
  have b122 : decide (r ≤ (122 : Int)) = false := by simp; omega
  have b255 : decide (r ≤ (255 : Int)) = false := by simp; omega
  have b974 : decide (r ≤ (974 : Int)) = false := by simp; omega
  have b1119 : decide (r ≤ (1119 : Int)) = true := by simp; omega
  clear g0 g1
  go_enter Try.func61, Try.ntmps61
  go_wp2
  go_ret
  exact ⟨rfl, rfl⟩
set_option maxRecDepth 100000 in
set_option maxHeartbeats 1000000 in
theorem rword_17 (r : Int) (w : World) (g0 : 1024 ≤ r) (g1 : r ≤ 1119) : Calls Try.prog 61 #[.int .i64 r] w fun e w' => e = .returned (.bool true) ∧ w = w' := by
  have q215 : (r == 215) = false := by simp; omega
  have n215 : (r != 215) = true := by simp; omega
  have q247 : (r == 247) = false := by simp; omega
  have n247 : (r != 247) = true := by simp; omega
  have q930 : (r == 930) = false := by simp; omega
  have n930 : (r != 930) = true := by simp; omega
  have a48 : decide ((48 : Int) ≤ r) = true := by simp; omega
  have a65 : decide ((65 : Int) ≤ r) = true := by simp; omega
  have a97 : decide ((97 : Int) ≤ r) = true := by simp; omega
  have a192 : decide ((192 : Int) ≤ r) = true := by simp; omega
  have a913 : decide ((913 : Int) ≤ r) = true := by simp; omega
  have a1024 : decide ((1024 : Int) ≤ r) = true := by simp; omega
  have b57 : decide (r ≤ (57 : Int)) = false := by simp; omega
  have b90 : decide (r ≤ (90 : Int)) = false := by simp; omega
  have b122 : decide (r ≤ (122 : Int)) = false := by simp; omega
  have b255 : decide (r ≤ (255 : Int)) = false := by simp; omega
  have b974 : decide (r ≤ (974 : Int)) = false := by simp; omega
  have b1119 : decide (r ≤ (1119 : Int)) = true := by simp; omega
  clear g0 g1
  go_enter Try.func61, Try.ntmps61
  go_wp2
  go_ret
  exact ⟨rfl, rfl⟩
set_option maxRecDepth 100000 in
set_option maxHeartbeats 1000000 in
theorem rword_18 (r : Int) (w : World) (g0 : 1120 ≤ r) : Calls Try.prog 61 #[.int .i64 r] w fun e w' => e = .returned (.bool false) ∧ w = w' := by
  have q215 : (r == 215) = false := by simp; omega
  have n215 : (r != 215) = true := by simp; omega
  have q247 : (r == 247) = false := by simp; omega
  have n247 : (r != 247) = true := by simp; omega
  have q930 : (r == 930) = false := by simp; omega
  have n930 : (r != 930) = true := by simp; omega
  have a48 : decide ((48 : Int) ≤ r) = true := by simp; omega
  have a65 : decide ((65 : Int) ≤ r) = true := by simp; omega
  have a97 : decide ((97 : Int) ≤ r) = true := by simp; omega
  have a192 : decide ((192 : Int) ≤ r) = true := by simp; omega
  have a913 : decide ((913 : Int) ≤ r) = true := by simp; omega
  have a1024 : decide ((1024 : Int) ≤ r) = true := by simp; omega
  have b57 : decide (r ≤ (57 : Int)) = false := by simp; omega
  have b90 : decide (r ≤ (90 : Int)) = false := by simp; omega
  have b122 : decide (r ≤ (122 : Int)) = false := by simp; omega
  have b255 : decide (r ≤ (255 : Int)) = false := by simp; omega
  have b974 : decide (r ≤ (974 : Int)) = false := by simp; omega
  have b1119 : decide (r ≤ (1119 : Int)) = false := by simp; omega
  clear g0
  go_enter Try.func61, Try.ntmps61
  go_wp2
  go_ret
  exact ⟨rfl, rfl⟩
theorem rword_any (r : Int) (w : World) : Calls Try.prog 61 #[.int .i64 r] w fun e w' => e = .returned (.bool (wordZ r)) ∧ w = w' := by
  by_cases g0 : r ≤ 47
  · have e : wordZ r = false := by unfold wordZ; exact decide_eq_false (by omega)
    rw [e]
    exact rword_0 r w (by omega)
  by_cases g1 : 48 ≤ r ∧ r ≤ 57
  · have e : wordZ r = true := by unfold wordZ; exact decide_eq_true (by omega)
    rw [e]
    exact rword_1 r w (by omega) (by omega)
  by_cases g2 : 58 ≤ r ∧ r ≤ 64
  · have e : wordZ r = false := by unfold wordZ; exact decide_eq_false (by omega)
    rw [e]
    exact rword_2 r w (by omega) (by omega)
  by_cases g3 : 65 ≤ r ∧ r ≤ 90
  · have e : wordZ r = true := by unfold wordZ; exact decide_eq_true (by omega)
    rw [e]
    exact rword_3 r w (by omega) (by omega)
  by_cases g4 : 91 ≤ r ∧ r ≤ 96
  · have e : wordZ r = false := by unfold wordZ; exact decide_eq_false (by omega)
    rw [e]
    exact rword_4 r w (by omega) (by omega)
  by_cases g5 : 97 ≤ r ∧ r ≤ 122
  · have e : wordZ r = true := by unfold wordZ; exact decide_eq_true (by omega)
    rw [e]
    exact rword_5 r w (by omega) (by omega)
  by_cases g6 : 123 ≤ r ∧ r ≤ 191
  · have e : wordZ r = false := by unfold wordZ; exact decide_eq_false (by omega)
    rw [e]
    exact rword_6 r w (by omega) (by omega)
  by_cases g7 : 192 ≤ r ∧ r ≤ 214
  · have e : wordZ r = true := by unfold wordZ; exact decide_eq_true (by omega)
    rw [e]
    exact rword_7 r w (by omega) (by omega)
  by_cases g8 : 215 ≤ r ∧ r ≤ 215
  · have e : wordZ r = false := by unfold wordZ; exact decide_eq_false (by omega)
    rw [e]
    exact rword_8 r w (by omega) (by omega)
  by_cases g9 : 216 ≤ r ∧ r ≤ 246
  · have e : wordZ r = true := by unfold wordZ; exact decide_eq_true (by omega)
    rw [e]
    exact rword_9 r w (by omega) (by omega)
  by_cases g10 : 247 ≤ r ∧ r ≤ 247
  · have e : wordZ r = false := by unfold wordZ; exact decide_eq_false (by omega)
    rw [e]
    exact rword_10 r w (by omega) (by omega)
  by_cases g11 : 248 ≤ r ∧ r ≤ 255
  · have e : wordZ r = true := by unfold wordZ; exact decide_eq_true (by omega)
    rw [e]
    exact rword_11 r w (by omega) (by omega)
  by_cases g12 : 256 ≤ r ∧ r ≤ 912
  · have e : wordZ r = false := by unfold wordZ; exact decide_eq_false (by omega)
    rw [e]
    exact rword_12 r w (by omega) (by omega)
  by_cases g13 : 913 ≤ r ∧ r ≤ 929
  · have e : wordZ r = true := by unfold wordZ; exact decide_eq_true (by omega)
    rw [e]
    exact rword_13 r w (by omega) (by omega)
  by_cases g14 : 930 ≤ r ∧ r ≤ 930
  · have e : wordZ r = false := by unfold wordZ; exact decide_eq_false (by omega)
    rw [e]
    exact rword_14 r w (by omega) (by omega)
  by_cases g15 : 931 ≤ r ∧ r ≤ 974
  · have e : wordZ r = true := by unfold wordZ; exact decide_eq_true (by omega)
    rw [e]
    exact rword_15 r w (by omega) (by omega)
  by_cases g16 : 975 ≤ r ∧ r ≤ 1023
  · have e : wordZ r = false := by unfold wordZ; exact decide_eq_false (by omega)
    rw [e]
    exact rword_16 r w (by omega) (by omega)
  by_cases g17 : 1024 ≤ r ∧ r ≤ 1119
  · have e : wordZ r = true := by unfold wordZ; exact decide_eq_true (by omega)
    rw [e]
    exact rword_17 r w (by omega) (by omega)
  by_cases g18 : 1120 ≤ r
  · have e : wordZ r = false := by unfold wordZ; exact decide_eq_false (by omega)
    rw [e]
    exact rword_18 r w (by omega)
  exfalso
  omega
end Go.Proofs.Ytgacfihidpijeaa.UM
