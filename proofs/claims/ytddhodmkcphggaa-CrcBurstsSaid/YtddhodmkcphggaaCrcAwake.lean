/-
  cut and the example at the head of each statement of layer 3. No condition.
-/
import Derived.Test.YtddhodmkcphggaaCrcDig
import Derived.Lib.SmallJoins
set_option linter.unusedVariables false
namespace Go.Proofs.Ytddhodmkcphggaa.CR
open Go.RowKit Go.Proofs.Ytddhodmkcphggaa.MM Go.Proofs.Ytddhodmkcphggaa.CM

/-! ### cut -/
def CutLeft (l : List UInt8) (w : World) (e : Ending) (w' : World) : Prop := ∃ v', e = .returned v' ∧ BRow w v' (l.take 3000) ∧ w = w'
set_option maxRecDepth 100000 in
theorem cut_any (v : Value) (l : List UInt8) (w : World) (hr : BRow w v l) : Calls Try.prog 7 #[v] w (CutLeft l w) := by
  obtain ⟨p, cap, rfl, hlc, hcm⟩ := hr.shape
  unfold maxLen at hcm
  by_cases h : 3000 < l.length
  · have hrow := hr.take 3000 (by omega)
    have HR := Lib.hid hrow
    have h1 : (3000 : Int) < (l.length : Int) := by omega
    have h2 : (3000 : Int) ≤ (cap : Int) := by omega
    clear hr hrow
    go_enter Try.func7, Try.ntmps7
    go_wp2_with fail
    go_ret
    exact ⟨_, rfl, HR.out, rfl⟩
  · have e : l.take 3000 = l := List.take_of_length_le (by omega)
    have hr2 : BRow w (.slice p l.length cap) (l.take 3000) := by rw [e]; exact hr
    have HR := Lib.hid hr2
    clear hr hr2 e
    go_enter Try.func7, Try.ntmps7
    go_wp2_with fail
    go_ret
    exact ⟨_, rfl, HR.out, rfl⟩

/-! ### the example -/
/-- Bytes in a block that is known, marked or not. -/
theorem brow_block {w : World} {g : Nat} {cs : Array Value} {fr : Nat × Nat} (l : List UInt8) (h : w.heap[g]? = some (.cells cs 5 fr)) (hcs : cs = (Lib.byteCells l).toArray) (hm : l.length ≤ maxLen) :
    BRow w (.slice (some ⟨g, 0, none⟩) l.length l.length) l := by
  subst hcs
  refine ⟨some ⟨g, 0, none⟩, l.length, by rw [byteCells_len], by rw [byteCells_len]; omega, hm, (fun h => by cases h), .inr ⟨g, 0, rfl, (Array.getElem?_eq_some_iff.1 h).1, fun i u hi => ?_⟩⟩
  rw [cell_of_row w g _ _ _ _ h]
  simpa using hi
theorem size_alloc' (w : World) (o : Obj) : (w.alloc o).heap.size = w.heap.size + 1 := by simp
theorem heap_alloc_at {w : World} {g : Nat} (o : Obj) (h : g = w.heap.size) : (w.alloc o).heap[g]? = some o := by subst h; exact heap_alloc_new w o
theorem ex_rows (w1 : World) :
    PRow (((w1.alloc (.cells #[.int .u8 49, .int .u8 50, .int .u8 51, .int .u8 52] 5 (4, 5))).alloc (.cells #[.int .u8 53, .int .u8 54, .int .u8 55, .int .u8 56, .int .u8 57] 5 (5, 6))).alloc
      (.cells #[.slice (some ⟨w1.heap.size, 0, none⟩) 4 4, .slice (some ⟨w1.heap.size + 1, 0, none⟩) 5 5] 22)) (.slice (some ⟨w1.heap.size + 1 + 1, 0, none⟩) 2 2) [[49, 50, 51, 52], [53, 54, 55, 56, 57]] := by
  have hA := brow_block [49, 50, 51, 52] (heap_alloc_new w1 (.cells #[.int .u8 49, .int .u8 50, .int .u8 51, .int .u8 52] 5 (4, 5))) rfl (by unfold maxLen; simp)
  generalize hWA : w1.alloc (.cells #[.int .u8 49, .int .u8 50, .int .u8 51, .int .u8 52] 5 (4, 5)) = WA at *
  have hsA : WA.heap.size = w1.heap.size + 1 := by rw [← hWA]; simp
  have hB := brow_block [53, 54, 55, 56, 57] (heap_alloc_new WA (.cells #[.int .u8 53, .int .u8 54, .int .u8 55, .int .u8 56, .int .u8 57] 5 (5, 6))) rfl (by unfold maxLen; simp)
  have hA2 := hA.below ((Below.refl WA.heap.size WA).alloc (Nat.le_refl _) (.cells #[.int .u8 53, .int .u8 54, .int .u8 55, .int .u8 56, .int .u8 57] 5 (5, 6)))
  generalize hWB : WA.alloc (.cells #[.int .u8 53, .int .u8 54, .int .u8 55, .int .u8 56, .int .u8 57] 5 (5, 6)) = WB at *
  have hsB : WB.heap.size = WA.heap.size + 1 := by rw [← hWB]; simp
  have h := prow_lit [.slice (some ⟨w1.heap.size, 0, none⟩) 4 4, .slice (some ⟨WA.heap.size, 0, none⟩) 5 5] [[49, 50, 51, 52], [53, 54, 55, 56, 57]] rfl (by unfold maxLen; simp) (fun i hi => by
    match i, hi with
    | 0, _ => exact ⟨_, rfl, hA2⟩
    | 1, _ => exact ⟨_, rfl, hB⟩)
  rw [hsB, hsA] at h
  exact h
theorem ex_nine (w : World) : BRow (w.alloc (.cells #[.int .u8 49, .int .u8 50, .int .u8 51, .int .u8 52, .int .u8 53, .int .u8 54, .int .u8 55, .int .u8 56, .int .u8 57] 5 (9, 10))) (.slice (some ⟨w.heap.size, 0, none⟩) 9 9) [49, 50, 51, 52, 53, 54, 55, 56, 57] :=
  brow_block [49, 50, 51, 52, 53, 54, 55, 56, 57] (heap_alloc_new w _) rfl (by unfold maxLen; simp)
theorem ex_sum : sumL ([[49, 50, 51, 52], [53, 54, 55, 56, 57]] : List (List UInt8)).flatten = 3421780262 := by decide +kernel
theorem ex_sum9 : nextL 0 [49, 50, 51, 52, 53, 54, 55, 56, 57] = 3421780262 := by decide +kernel
set_option maxRecDepth 100000 in
set_option maxHeartbeats 1000000 in
theorem awake_any (w : World) : Calls Try.prog 12 #[] w fun e w' => e = .returned (.bool true) ∧ Below w.heap.size w w' := by
  go_enter Try.func12, Try.ntmps12
  go_wp2_with fail
  refine (new_any _).mono ?_
  rintro e w1 ⟨rfl, hw1⟩
  have hd1 := dig_new w
  have hb1 : Below w.heap.size w (w.alloc (.cells #[.int .u32 0, .int .i64 0] 35)) := (Below.refl _ _).alloc (Nat.le_refl _) _
  rw [← hw1] at hd1 hb1
  clear hw1
  have hk1 := Joins.run_convert_bytes_const_at (P := Try.prog) w1 22 5 #[.int .u8 49, .int .u8 50, .int .u8 51, .int .u8 52] 4 4 w1.heap.size rfl Try.underlying22 Try.underlying5
  have hk2 := Joins.run_convert_bytes_const_at (P := Try.prog) (w1.alloc (.cells #[.int .u8 49, .int .u8 50, .int .u8 51, .int .u8 52] 5 (4, 5))) 22 5 #[.int .u8 53, .int .u8 54, .int .u8 55, .int .u8 56, .int .u8 57] 5 5 (w1.heap.size + 1) (by simp) Try.underlying22 Try.underlying5
  simp only [List.size_toArray, List.length_cons, List.length_nil, Nat.reduceAdd] at hk1 hk2
  have hS := sum_any _ _ _ (ex_rows w1)
  rw [ex_sum] at hS
  have HS := Lib.hid hS
  clear hS
  have hb2 : Below w1.heap.size w1 (((w1.alloc (.cells #[.int .u8 49, .int .u8 50, .int .u8 51, .int .u8 52] 5 (4, 5))).alloc (.cells #[.int .u8 53, .int .u8 54, .int .u8 55, .int .u8 56, .int .u8 57] 5 (5, 6))).alloc
      (.cells #[.slice (some ⟨w1.heap.size, 0, none⟩) 4 4, .slice (some ⟨w1.heap.size + 1, 0, none⟩) 5 5] 22)) :=
    (((Below.refl _ _).alloc (Nat.le_refl _) _).alloc (by simp) _).alloc (by simp; omega) _
  have HB2 := Lib.hid hb2
  clear hb2
  go_wp2_with fail
  clear hk1 hk2
  refine HS.out.mono ?_
  rintro e w2 ⟨rfl, hb3⟩
  have hb3' := grow HB2.out hb3
  have hd2 := hd1.below hb3' hd1.lt
  have hbb := grow hb1 hb3'
  clear hb3 hd1 HS HB2
  have hk3 := Joins.run_convert_bytes_const_at (P := Try.prog) w2 22 5 #[.int .u8 49, .int .u8 50, .int .u8 51, .int .u8 52, .int .u8 53, .int .u8 54, .int .u8 55, .int .u8 56, .int .u8 57] 9 9 w2.heap.size rfl Try.underlying22 Try.underlying5
  simp only [List.size_toArray, List.length_cons, List.length_nil, Nat.reduceAdd] at hk3
  have hb4 : Below w2.heap.size w2 (w2.alloc (.cells #[.int .u8 49, .int .u8 50, .int .u8 51, .int .u8 52, .int .u8 53, .int .u8 54, .int .u8 55, .int .u8 56, .int .u8 57] 5 (9, 10))) := (Below.refl _ _).alloc (Nat.le_refl _) _
  have hW := write_any w.heap.size 0 0 _ _ _ (hd2.below hb4 hd2.lt) (ex_nine w2) (by omega) (by simp)
  rw [ex_sum9] at hW
  have HW := Lib.hid hW
  have HB4 := Lib.hid hb4
  clear hW hb4 hd2
  go_wp2_with fail
  clear hk3
  refine HW.out.mono ?_
  rintro e w3 ⟨rfl, hd3, hg3⟩
  have hb5 : Below w.heap.size w w3 := Below.grown (grow hbb HB4.out) hg3 (by have := hbb.size; simp; omega) (fun k hk => by injection hk with hk; omega)
  have hd3' : DigAt w3 w.heap.size 3421780262 9 := hd3
  have HS3 := Lib.hid (dsum_any _ _ _ _ hd3')
  have HL3 := Lib.hid (dlen_any _ _ _ _ hd3')
  clear hd3 hd3' hg3 hbb hb1 hb3' HB4 HW
  go_wp2_with fail
  refine HS3.out.mono ?_
  rintro e w4 ⟨rfl, rfl⟩
  go_wp2_with fail
  refine HL3.out.mono ?_
  rintro e w4 ⟨rfl, rfl⟩
  go_wp2_with fail
  go_ret
  exact ⟨rfl, hb5⟩
end Go.Proofs.Ytddhodmkcphggaa.CR
