/-
  The law LzSmall returns true. Condition: the arguments read as data.
-/
import Derived.Test.YtoohkhcmakcggaaLzAwake
import Derived.Laws.OwnMore
set_option linter.unusedVariables false
namespace Go.Proofs.Ytoohkhcmakcggaa.LZ
open Go.RowKit Go.Proofs.Ytoohkhcmakcggaa.MM
theorem byte_of {y : Nat} (h : y < 256) : ∃ c : UInt8, c.toNat = y := ⟨UInt8.ofNat y, by simp; omega⟩
theorem zeros_own {w : World} {B n : Nat} {v : Value} (h : w.ownsRow B 5 1 v n (madeCells #[Value.int .u8 0] n).toList) : OwnB B w v (List.replicate n 0) := by
  have e : (madeCells #[Value.int .u8 0] n).toList = Lib.byteCells (List.replicate n 0) := by
    rw [toList_madeCells_one]
    simp [Lib.byteCells]
  rw [e] at h
  unfold OwnB
  rw [List.length_replicate]
  exact h
/-- The first i are c, the others 0. -/
def fillL (c : UInt8) (k i : Nat) : List UInt8 := List.replicate i c ++ List.replicate (k - i) 0
theorem fill_len {c : UInt8} {k i : Nat} (h : i ≤ k) : (fillL c k i).length = k := by simp [fillL]; omega
theorem fill_zero {c : UInt8} {k : Nat} : fillL c k 0 = List.replicate k 0 := by simp [fillL]
theorem fill_all {c : UInt8} {k : Nat} : fillL c k k = List.replicate k c := by simp [fillL]
theorem fill_at {c : UInt8} {k i : Nat} (h : i < k) : (fillL c k i)[i]? = some 0 := by
  unfold fillL
  rw [List.getElem?_append_right (by simp), List.length_replicate, Nat.sub_self, List.getElem?_replicate, if_pos (by omega)]
theorem fill_set {c : UInt8} {k i : Nat} (h : i < k) : (fillL c k i).set i c = fillL c k (i + 1) := by
  unfold fillL
  rw [List.set_append_right _ _ (by simp), List.length_replicate, Nat.sub_self, show k - i = (k - (i + 1)) + 1 by omega, List.replicate_succ, List.set_cons_zero, List.replicate_succ', List.append_assoc]
  rfl
set_option maxRecDepth 100000 in
set_option maxHeartbeats 4000000 in
theorem small_walk (x y : Nat) (w : World) (hx : x < 256) (hy : y < 65536) :
    Calls Try.prog 6 #[.int .u8 x, .int .u16 y] w fun e w' => e = .returned (.bool true) ∧ Below w.heap.size w w' := by
  obtain ⟨i0, hi, hz0, hz1, hz2⟩ := info_parts infoByte
  obtain ⟨k, hk⟩ : ∃ k : Nat, y % 3000 = k := ⟨_, rfl⟩
  have hk3 : k < 3000 := by omega
  have hki : (y : Int) % 3000 = (k : Int) := by rw [← hk]; rfl
  obtain ⟨c8, hc8⟩ := byte_of hx
  have hps := pack_small c8 k
  have kp := fun v W (h : BRow W v (List.replicate k c8)) => pack_any v _ W h (by rw [List.length_replicate]; omega)
  generalize packL (List.replicate k c8) = P at *
  have HPS := Lib.hid (show decide ((P.length : Int) ≤ 9 + 3 * (((k : Int) + 130) / 131)) = true by simp; omega)
  have KP := Lib.hid kp
  clear hk hps kp
  go_enter Try.func6, Try.ntmps6
  go_wp2_with (at_make; rw [hki]; refine wpList_make_full w rfl _ _ 22 rfl w.heap.size 5 i0 (.int .u8 0) 1 Try.underlying22 hi hz0 hz1 .i64 .i64 _ _ k rfl rfl rfl rfl (by rw [hz2]; omega) (by unfold maxLen; omega) (Nat.le_refl _) ?_)
  intro w1 hown1 hg1
  have b1 := (Below.refl w.heap.size w).grown hg1 (Nat.le_refl _) (fun k h => by cases h)
  have ho1 := zeros_own hown1
  rw [← fill_zero (c := c8)] at ho1
  have HO0 := Lib.hid ho1
  have HB0 := Lib.hid b1
  clear hown1 hg1 ho1 b1
  go_wp2_with fail
  go_loopw [7] (fun iv wr => ∃ i : Nat, i ≤ k ∧ iv = .int .i64 i ∧ Hid (OwnB w.heap.size wr (.slice (some ⟨w.heap.size, 0, none⟩) k k) (fillL c8 k i)) ∧ Hid (Below w.heap.size w wr)) (fun iv _ => k - (intOf iv).toNat)
  case atStart => exact ⟨0, by omega, by go_num, HO0, HB0⟩
  case round =>
    obtain ⟨i, hik, rfl, HO, HB⟩ := hrel
    clear HO0 HB0
    by_cases hlt : i < k
    · have t1 : decide ((i : Int) < (k : Int)) = true := by simp; omega
      have hcell := HO.out.cell (fill_at hlt)
      have hfree := HO.out.free i
      have hset := HO.out.set (j := i) c8
      rw [fill_set hlt, hc8] at hset
      have HS := Lib.hid hset
      have HB2 := Lib.hid (HB.out.setCell (p := ⟨w.heap.size, i, none⟩) (Nat.le_refl _) (.int .u8 (x : Int)))
      have HPS2 := HPS
      clear hset
      go_wp2_with fail
      go_roundw
      case rel => exact ⟨i + 1, by omega, by go_num, HS, HB2⟩
      case measure => simp [intOf]; omega
    · obtain rfl : i = k := by omega
      have ho := HO.out
      rw [fill_all] at ho
      have HK := Lib.hid (KP.out _ wr ho.brow)
      clear ho HO KP
      go_wp2_with fail
      refine HK.out.mono ?_
      rintro e w1 ⟨x1, rfl, hx1, b1⟩
      obtain ⟨px, capx, rfl, _, _⟩ := hx1.brow.shape
      have t2 := HPS.out
      have B1 := Lib.hid (grow HB.out b1)
      clear hx1 HK b1
      go_wp2_with fail
      refine (awake_any _).mono ?_
      rintro e w7 ⟨rfl, b7⟩
      go_wp2_with fail
      go_ret
      exact ⟨rfl, grow B1.out b7⟩
end Go.Proofs.Ytoohkhcmakcggaa.LZ
