/-
  The law FrameBounds returns true. Condition: the argument reads as data.
-/
import Derived.Test.YtfnohcmoaooghaaFrmAwake
import Derived.Laws.OwnMore
set_option linter.unusedVariables false
namespace Go.Proofs.Ytfnohcmoaooghaa.FG
open Go.RowKit Go.Proofs.Ytfnohcmoaooghaa.MM Go.Proofs.Ytfnohcmoaooghaa.VM Go.Proofs.Ytfnohcmoaooghaa.CM Go.Proofs.Ytfnohcmoaooghaa.FM Go.Proofs.Ytfnohcmoaooghaa.VP Go.Proofs.Ytfnohcmoaooghaa.CR Go.Proofs.Ytfnohcmoaooghaa.FP Go.Proofs.Ytfnohcmoaooghaa.VG

theorem zeros_row {w : World} {B n : Nat} {v : Value} (h : w.ownsRow B 5 1 v n (madeCells #[Value.int .u8 0] n).toList) : BRow w v (List.replicate n 0) := by
  have e : (madeCells #[Value.int .u8 0] n).toList = Lib.byteCells (List.replicate n 0) := by
    rw [toList_madeCells_one]
    simp [Lib.byteCells]
  rw [e] at h
  exact BRow.of_own h
theorem most_more : ∀ r : Fin 5, getR [UInt8.ofNat (129 + r.val), 128, 128, 8, 1, 2, 3, 4] = ([], 0, 40) := by decide +kernel
theorem most_torn : getR [128, 128, 128, 8, 1, 2, 3, 4] = ([], 0, 41) := by decide +kernel
theorem most_size : sizeL 16777216 = 16777224 := by decide +kernel
theorem lit_eight (w : World) (y : Nat) (hy : y < 256) : BRow (w.alloc (.cells #[.int .u8 (y : Int), .int .u8 128, .int .u8 128, .int .u8 8, .int .u8 1, .int .u8 2, .int .u8 3, .int .u8 4] 5)) (.slice (some ⟨w.heap.size, 0, none⟩) 8 8) [UInt8.ofNat y, 128, 128, 8, 1, 2, 3, 4] := by
  have h := own_lit w (Lib.byteCells [UInt8.ofNat y, 128, 128, 8, 1, 2, 3, 4]) 5 0 (Nat.zero_le _) (by rw [byteCells_len]; unfold maxLen; simp)
  have e : Lib.byteCells [UInt8.ofNat y, 128, 128, 8, 1, 2, 3, 4] = [.int .u8 (y : Int), .int .u8 128, .int .u8 128, .int .u8 8, .int .u8 1, .int .u8 2, .int .u8 3, .int .u8 4] := by
    simp only [Lib.byteCells, List.map_cons, List.map_nil, UInt8.toNat_ofNat']
    rw [show ((y % 2 ^ 8 : Nat) : Int) = (y : Int) by omega]
    rfl
  have hb := BRow.of_own (l := [UInt8.ofNat y, 128, 128, 8, 1, 2, 3, 4]) h
  rw [e] at hb
  exact hb

set_option maxRecDepth 100000 in
set_option maxHeartbeats 4000000 in
theorem bounds_walk (x : Nat) (w : World) (hx : x < 256) :
    Calls Try.prog 8 #[.int .u8 x] w fun e w' => e = .returned (.bool true) ∧ Below w.heap.size w w' := by
  obtain ⟨i0, hi, hz0, hz1, hz2⟩ := info_parts infoByte
  obtain ⟨r, hr⟩ : ∃ r : Nat, x % 5 = r := ⟨_, rfl⟩
  have hr4 : r < 5 := by omega
  have hri : (x : Int) % 5 = (r : Int) := by rw [← hr]; rfl
  obtain ⟨N, hN⟩ : ∃ N : Nat, 16777216 + (1 + r) = N := ⟨_, rfl⟩
  have hNi : (16777216 : Int) + (1 + (r : Int)) = (N : Int) := by omega
  have hN1 : 16777216 < N := by omega
  have hN2 : N ≤ 16777300 := by omega
  have K1 := Lib.hid (fun u W (h : BRow W u (List.replicate N 0)) => put_long (.slice none 0 0) u [] (List.replicate N 0) W (BRow.nil_ W) h (by rw [List.length_replicate]; exact hN1) (by simp))
  have K2 := Lib.hid (fun u W (h : BRow W u (List.replicate N 0)) => join_long _ [[], List.replicate N 0] _ (prow_two (BRow.nil_ W) h) ⟨List.replicate N 0, by simp, by rw [List.length_replicate]; exact hN1⟩ (by simp))
  have k3 := fun W => get_fr _ _ _ _ (lit_eight W (129 + r) (by omega)) (Nat.le_refl _)
  have em := most_more ⟨r, hr4⟩
  simp only at em
  rw [restR_err em (by omega), em] at k3
  have K3 := Lib.hid k3
  have k4 := fun W => get_fr _ _ _ _ (lit_eight W 128 (by omega)) (Nat.le_refl _)
  rw [show (UInt8.ofNat 128) = 128 from rfl, restR_err most_torn (by omega), most_torn] at k4
  rw [show ((128 : Nat) : Int) = 128 from rfl] at k4
  have K4 := Lib.hid k4
  have k5 := fun W => size_fr 16777216 W (by omega) (by omega)
  rw [most_size] at k5
  have K5 := Lib.hid k5
  have k6 := fun W => size_fr (N : Int) W (by omega) (by omega)
  have e6 : sizeL (N : Int) = 0 := by unfold sizeL; rw [if_pos (by omega)]
  rw [e6] at k6
  have K6 := Lib.hid k6
  have hx5 : (0 : Int) ≤ (x : Int) % 5 := by omega
  clear hN k3 k4 k5 k6 e6 em hr hx5
  go_enter Try.func8, Try.ntmps8
  go_wp2_with (at_make; refine wpList_make_full w rfl _ _ 22 rfl w.heap.size 5 i0 (.int .u8 0) 1 Try.underlying22 hi hz0 hz1 .i64 .i64 _ _ N rfl rfl rfl rfl (by rw [hz2]; omega) (by unfold maxLen; omega) (Nat.le_refl _) ?_)
  intro w1 hown1 hg1
  have b1 := (Below.refl w.heap.size w).grown hg1 (Nat.le_refl _) (fun k h => by cases h)
  have HZ1 := Lib.hid (zeros_row hown1)
  clear hown1 hg1
  go_wp2_with fail
  refine (K1.out _ _ HZ1.out).mono ?_
  rintro e w2 ⟨rfl, b2⟩
  have c2 := grow b1 b2
  go_wp2_with (at_make; refine wpList_make_full w2 rfl _ _ 22 rfl w2.heap.size 5 i0 (.int .u8 0) 1 Try.underlying22 hi hz0 hz1 .i64 .i64 _ _ N rfl rfl rfl rfl (by rw [hz2]; omega) (by unfold maxLen; omega) (Nat.le_refl _) ?_)
  intro w3 hown3 hg3
  have b3 := (Below.refl w2.heap.size w2).grown hg3 (Nat.le_refl _) (fun k h => by cases h)
  have c3 := grow c2 b3
  have HZ3 := Lib.hid (zeros_row hown3)
  have ba : Below w3.heap.size w3 (w3.alloc (.cells #[.slice none 0 0, .slice (some ⟨w2.heap.size, 0, none⟩) N N] 22)) := (Below.refl _ _).alloc (Nat.le_refl _) _
  clear hown3 hg3
  go_wp2_with fail
  refine (K2.out _ _ HZ3.out).mono ?_
  rintro e w4 ⟨rfl, rfl⟩
  have c4 := grow c3 ba
  generalize w3.alloc (.cells #[.slice none 0 0, .slice (some ⟨w2.heap.size, 0, none⟩) N N] 22) = w4 at *
  go_wp2_with fail
  rw [show (128 : Int) + (1 + (r : Int)) = ((129 + r : Nat) : Int) by omega]
  refine (K3.out w4).mono ?_
  rintro e w5 ⟨vp, vr, rfl, hp, hr, b5⟩
  have c5 := grow (c4.alloc c4.size _) b5
  clear hp hr b5 K3 K2 K1
  go_wp2_with fail
  refine (K4.out w5).mono ?_
  rintro e w6 ⟨vp, vr, rfl, hp, hr, b6⟩
  have c6 := grow (c5.alloc c5.size _) b6
  clear hp hr b6 K4
  go_wp2_with fail
  refine (K5.out _).mono ?_
  rintro e w7 ⟨rfl, rfl⟩
  go_wp2_with fail
  refine (K6.out _).mono ?_
  rintro e w7 ⟨rfl, rfl⟩
  go_wp2_with fail
  refine (awake_any _).mono ?_
  rintro e w7 ⟨rfl, b7⟩
  go_wp2_with fail
  go_ret
  exact ⟨rfl, grow c6 b7⟩
end Go.Proofs.Ytfnohcmoaooghaa.FG
