/-
  The example at the head of each statement of layer 6. No condition.
-/
import Derived.Test.YtljfpolcgegkpaaDskOne
import Derived.Lib.SmallJoins
set_option linter.unusedVariables false
namespace Go.Proofs.Ytljfpolcgegkpaa.DK
open Go.RowKit Go.Proofs.Ytljfpolcgegkpaa.MM Go.Maps

/-- Bytes in a block that is known, marked or not. -/
theorem brow_block {w : World} {g : Nat} {cs : Array Value} {fr : Nat × Nat} (l : List UInt8) (h : w.heap[g]? = some (.cells cs 5 fr)) (hcs : cs = (Lib.byteCells l).toArray) (hm : l.length ≤ maxLen) :
    BRow w (.slice (some ⟨g, 0, none⟩) l.length l.length) l := by
  subst hcs
  refine ⟨some ⟨g, 0, none⟩, l.length, by rw [byteCells_len], by rw [byteCells_len]; omega, hm, (fun h => by cases h), .inr ⟨g, 0, rfl, (Array.getElem?_eq_some_iff.1 h).1, fun i u hi => ?_⟩⟩
  rw [cell_of_row w g _ _ _ _ h]
  simpa using hi
theorem ex_two (w : World) (a b : UInt8) (fr : Nat × Nat) : BRow (w.alloc (.cells #[.int .u8 (a.toNat : Int), .int .u8 (b.toNat : Int)] 5 fr)) (.slice (some ⟨w.heap.size, 0, none⟩) 2 2) [a, b] :=
  brow_block [a, b] (heap_alloc_new w _) rfl (by unfold maxLen; simp)
theorem ex_int (w : World) (k : Int) : IRow (w.alloc (.cells #[.int .i64 k] 3)) (.slice (some ⟨w.heap.size, 0, none⟩) 1 1) [k] := by
  refine ⟨some ⟨w.heap.size, 0, none⟩, 1, rfl, Nat.le_refl _, by unfold maxLen; omega, (fun h => by cases h), .inr ⟨w.heap.size, 0, rfl, by simp, fun i u hi => ?_⟩⟩
  rw [cell_of_row _ _ _ _ _ _ (heap_alloc_new w _)]
  simpa using hi
def ex1 : DiskD := ⟨[⟨[97], [97, 98], 0⟩], 0, 0, false⟩
def ex2 : DiskD := ⟨[⟨[97], [97, 98], 2⟩], 0, 0, false⟩
def ex3 : DiskD := ⟨[⟨[97], [97, 98, 99, 100], 2⟩], 0, 0, false⟩
def ex4 : DiskD := ⟨[⟨[97], [97, 98, 99], 3⟩], 0, 0, false⟩
theorem ex_1 : appendD (newD 0) [97] [97, 98] = (ex1, 0) := by rfl
theorem ex_2 : syncD ex1 [97] = (ex2, 0) := by rfl
theorem ex_3 : appendD ex2 [97] [99, 100] = (ex3, 0) := by rfl
theorem ex_4 : restartD ex3 [1] = ex4 := by rfl
theorem ex_5 : creadD ex4 [97] 0 9 = ([97, 98, 99], 0) := by rfl
theorem ex_6 : curS ex4 [97] = 3 := by rfl
set_option maxRecDepth 100000 in
set_option maxHeartbeats 1000000 in
theorem awake_any (w : World) : Calls Try.prog 10 #[] w fun e w' => e = .returned (.bool true) ∧ Below w.heap.size w w' := by
  have f0 : Fits (newD 0) := new_fits 0 (by omega) (by omega)
  have f1 : Fits ex1 := by have := append_fits [97] [97, 98] f0; rw [ex_1] at this; exact this
  have f2 : Fits ex2 := by have := sync_fits [97] f1; rw [ex_2] at this; exact this
  have f3 : Fits ex3 := by have := append_fits [97] [99, 100] f2; rw [ex_3] at this; exact this
  have f4 : Fits ex4 := by have := restart_fits [1] f3; rw [ex_4] at this; exact this
  have F0 := Lib.hid f0
  have F1 := Lib.hid f1
  have F2 := Lib.hid f2
  have F3 := Lib.hid f3
  have F4 := Lib.hid f4
  clear f0 f1 f2 f3 f4
  go_enter Try.func10, Try.ntmps10
  go_wp2_with fail
  refine (dnew _ 0 (by omega)).mono ?_
  rintro e w1 ⟨g, rfl, hd1, hb1⟩
  have hk1 := Joins.run_convert_bytes_const_at (P := Try.prog) w1 36 5 #[.int .u8 97, .int .u8 98] 2 2 w1.heap.size rfl Try.underlying36 Try.underlying5
  simp only [List.size_toArray, List.length_cons, List.length_nil, Nat.reduceAdd] at hk1
  have HD1 := Lib.hid hd1
  have HB1 := Lib.hid hb1
  clear hd1 hb1
  go_wp2_with fail
  have hba : ∀ (W : World) o, Below W.heap.size W (W.alloc o) := fun W o => (Below.refl _ _).alloc (Nat.le_refl _) _
  have HBA := Lib.hid hba
  have hc := dappend (HD1.out.below (hba w1 (.cells #[.int .u8 97, .int .u8 98] 5 (2, 3)))) (Nat.le_trans HB1.out.size (hba w1 _).size) F0.out [97] (by simp) _ [97, 98] (ex_two w1 97 98 (2, 3)) (by simp)
  rw [ex_1] at hc
  have hz1 := HB1.out.size
  have HBW1 := Lib.hid (HB1.out.trans ((hba w1 (.cells #[.int .u8 97, .int .u8 98] 5 (2, 3))).mono hz1))
  clear hk1 hba HD1 HB1 F0
  refine hc.mono ?_
  rintro e w2 ⟨rfl, hd2, hb2⟩
  have HD2 := Lib.hid hd2
  have HB2 := Lib.hid (HBW1.out.trans hb2)
  have HZ2 := Lib.hid (HBW1.out.trans hb2).size
  clear hc hd2 hb2 HBW1 hz1
  go_wp2_with fail
  have hc := dsync HD2.out HZ2.out F1.out [97] (by simp)
  rw [ex_2] at hc
  refine hc.mono ?_
  rintro e w3 ⟨rfl, hd3, hb3⟩
  have HD3 := Lib.hid hd3
  have HB3 := Lib.hid (HB2.out.trans hb3)
  have hz3 := (HB2.out.trans hb3).size
  have HZ3 := Lib.hid hz3
  clear hc hd3 hb3 HD2 HB2 HZ2 F1
  have hk2 := Joins.run_convert_bytes_const_at (P := Try.prog) w3 36 5 #[.int .u8 99, .int .u8 100] 2 2 w3.heap.size rfl Try.underlying36 Try.underlying5
  simp only [List.size_toArray, List.length_cons, List.length_nil, Nat.reduceAdd] at hk2
  clear hz3
  go_wp2_with fail
  have hc := dappend (HD3.out.below (HBA.out w3 (.cells #[.int .u8 99, .int .u8 100] 5 (2, 3)))) (Nat.le_trans HZ3.out (HBA.out w3 _).size) F2.out [97] (by simp) _ [99, 100] (ex_two w3 99 100 (2, 3)) (by simp)
  rw [ex_3] at hc
  refine hc.mono ?_
  rintro e w4 ⟨rfl, hd4, hb4⟩
  have HD4 := Lib.hid hd4
  have HB4 := Lib.hid ((HB3.out.trans ((HBA.out w3 (.cells #[.int .u8 99, .int .u8 100] 5 (2, 3))).mono HZ3.out)).trans hb4)
  have HZ4 := Lib.hid HB4.out.size
  clear hc hd4 hb4 HD3 HB3 HZ3 F2 hk2
  go_wp2_with fail
  have hc := drestart (HD4.out.below (HBA.out w4 (.cells #[.int .i64 1] 3))) (Nat.le_trans HZ4.out (HBA.out w4 _).size) F3.out _ [1] (ex_int w4 1) (by simp) (by simp)
  rw [ex_4] at hc
  refine hc.mono ?_
  rintro e w5 ⟨rfl, hd5, hb5⟩
  have HD5 := Lib.hid hd5
  have HB5 := Lib.hid ((HB4.out.trans ((HBA.out w4 (.cells #[.int .i64 1] 3)).mono HZ4.out)).trans hb5)
  clear hc hd5 hb5 HD4 HB4 HZ4 F3
  go_wp2_with fail
  have hc := dread HD5.out F4.out [97] (by simp) 0 9 (by omega) (by omega) (by omega) (by omega)
  rw [ex_5] at hc
  refine hc.mono ?_
  rintro e w6 ⟨v6, rfl, hr6, hb6⟩
  have hconv := hr6.conv
  have HD6 := Lib.hid (HD5.out.below hb6)
  have HB6 := Lib.hid (HB5.out.trans (hb6.mono HB5.out.size))
  obtain ⟨p6, c6, rfl, _, _⟩ := hr6.shape
  simp only [List.length_cons, List.length_nil, Nat.reduceAdd] at hconv
  clear hc hr6 hb6 HD5 HB5
  have hd := ddurable HD6.out [97] (by simp)
  rw [ex_6] at hd
  have HDU := Lib.hid hd
  clear hd
  go_wp2_with fail
  refine HDU.out.mono ?_
  rintro e w' ⟨rfl, rfl⟩
  go_wp2_with fail
  go_ret
  exact ⟨rfl, HB6.out⟩
end Go.Proofs.Ytljfpolcgegkpaa.DK
