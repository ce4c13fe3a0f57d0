/-
  Digests: New, Write, Sum, Len, Reset, of one that is there and of none. Condition: the bytes are fewer than 2^62.
-/
import Derived.Test.YtddhodmkcphggaaCrcCalls
set_option linter.unusedVariables false
namespace Go.Proofs.Ytddhodmkcphggaa.CR
open Go.RowKit Go.Proofs.Ytddhodmkcphggaa.MM Go.Proofs.Ytddhodmkcphggaa.CM

/-- A digest: its sum, its size. -/
def DigAt (w : World) (g s n : Nat) : Prop := w.heap[g]? = some (.cells #[.int .u32 s, .int .i64 n] 35 (0, 0))
theorem DigAt.sum {w : World} {g s n : Nat} (h : DigAt w g s n) : w.cell? ⟨g, 0, none⟩ = some (.int .u32 s) := by rw [cell_of_row w g 0 _ _ _ h]; rfl
theorem DigAt.size {w : World} {g s n : Nat} (h : DigAt w g s n) : w.cell? ⟨g, 1, none⟩ = some (.int .i64 n) := by rw [cell_of_row w g 1 _ _ _ h]; rfl
theorem DigAt.free {w : World} {g s n : Nat} (h : DigAt w g s n) (k : Nat) : w.frozen? ⟨g, k, none⟩ = false := frozen_of_row w g k _ _ h
theorem DigAt.lt {w : World} {g s n : Nat} (h : DigAt w g s n) : g < w.heap.size := (Array.getElem?_eq_some_iff.1 h).1
theorem DigAt.below {w w' : World} {g s n B : Nat} (h : DigAt w g s n) (hb : Below B w w') (hg : g < B) : DigAt w' g s n := (hb.block g hg).trans h
theorem DigAt.set0 {w : World} {g s n : Nat} (h : DigAt w g s n) (s2 : Nat) : DigAt (w.setCell ⟨g, 0, none⟩ (.int .u32 s2)) g s2 n := by
  have := heap_setCell_same w g 0 _ _ (.int .u32 s2) h
  exact this
theorem DigAt.set1 {w : World} {g s n : Nat} (h : DigAt w g s n) (n2 : Nat) : DigAt (w.setCell ⟨g, 1, none⟩ (.int .i64 n2)) g s n2 := by
  have := heap_setCell_same w g 1 _ _ (.int .i64 n2) h
  exact this
theorem grownBy_setCell {w w' : World} {g i : Nat} (h : w.grownBy w' (some g)) (v : Value) : w.grownBy (w'.setCell ⟨g, i, none⟩ v) (some g) :=
  ⟨h.os, h.tape, h.output, by simp only [World.setCell, Array.size_modify]; exact h.size, fun j hj hne => by
    rw [heap_setCell_other w' ⟨g, i, none⟩ j v (by intro e; exact hne (by rw [e]))]; exact h.block j hj hne⟩
theorem grownBy_below {w w' : World} (row : Option Nat) (h : Below w.heap.size w w') : w.grownBy w' row := ⟨h.os, h.tape, h.output, h.size, fun k hk _ => h.block k hk⟩

set_option maxRecDepth 100000 in
theorem new_any (w : World) : Calls Try.prog 13 #[] w fun e w' => e = .returned (.pointer (some ⟨w.heap.size, 0, none⟩)) ∧ w' = w.alloc (.cells #[.int .u32 0, .int .i64 0] 35) := by
  go_enter Try.func13, Try.ntmps13
  go_wp2_with fail
  go_ret
  exact ⟨rfl, rfl⟩
theorem dig_new (w : World) : DigAt (w.alloc (.cells #[.int .u32 0, .int .i64 0] 35)) w.heap.size 0 0 := heap_alloc_new _ _

set_option maxRecDepth 100000 in
theorem sum_none (w : World) : Calls Try.prog 16 #[.pointer none] w fun e w' => e = .returned (.int .u32 0) ∧ w = w' := by
  go_enter Try.func16, Try.ntmps16
  go_wp2_with fail
  go_ret
  exact ⟨rfl, rfl⟩
set_option maxRecDepth 100000 in
theorem len_none (w : World) : Calls Try.prog 18 #[.pointer none] w fun e w' => e = .returned (.int .i64 0) ∧ w = w' := by
  go_enter Try.func18, Try.ntmps18
  go_wp2_with fail
  go_ret
  exact ⟨rfl, rfl⟩
set_option maxRecDepth 100000 in
theorem write_none (v : Value) (w : World) : Calls Try.prog 15 #[.pointer none, v] w fun e w' => e = .returned (.int .i64 0) ∧ w = w' := by
  go_enter Try.func15, Try.ntmps15
  go_wp2_with fail
  go_ret
  exact ⟨rfl, rfl⟩
set_option maxRecDepth 100000 in
theorem reset_none (w : World) : Calls Try.prog 14 #[.pointer none] w fun e w' => e = .returned (.tuple #[]) ∧ w = w' := by
  go_enter Try.func14, Try.ntmps14
  go_wp2_with fail
  refine bodyPost_end (results_none rfl _ _ _) rfl ?_
  exact ⟨rfl, rfl⟩
set_option maxRecDepth 100000 in
theorem dsum_any (g s n : Nat) (w : World) (h : DigAt w g s n) : Calls Try.prog 16 #[.pointer (some ⟨g, 0, none⟩)] w fun e w' => e = .returned (.int .u32 s) ∧ w = w' := by
  have hc := h.sum
  clear h
  go_enter Try.func16, Try.ntmps16
  go_wp2_with fail
  go_ret
  exact ⟨rfl, rfl⟩
set_option maxRecDepth 100000 in
theorem dlen_any (g s n : Nat) (w : World) (h : DigAt w g s n) : Calls Try.prog 18 #[.pointer (some ⟨g, 0, none⟩)] w fun e w' => e = .returned (.int .i64 n) ∧ w = w' := by
  have hc := h.size
  clear h
  go_enter Try.func18, Try.ntmps18
  go_wp2_with fail
  go_ret
  exact ⟨rfl, rfl⟩

set_option maxRecDepth 100000 in
theorem write_any (g s n : Nat) (v : Value) (l : List UInt8) (w : World) (h : DigAt w g s n) (hr : BRow w v l) (hs : s < 4294967296) (hn : n + l.length < 4611686018427387904) :
    Calls Try.prog 15 #[.pointer (some ⟨g, 0, none⟩), v] w fun e w' => e = .returned (.int .i64 l.length) ∧ DigAt w' g (nextL s l) (n + l.length) ∧ w.grownBy w' (some g) := by
  obtain ⟨p, cap, rfl, hlc, hcm⟩ := hr.shape
  have hK := next_any s (.slice p l.length cap) l w hs hr
  generalize nextL s l = F at *
  have hc := h.sum
  have HD := Lib.hid h
  have HK := Lib.hid hK
  clear h hr hK
  go_enter Try.func15, Try.ntmps15
  go_wp2_with fail
  refine HK.out.mono ?_
  rintro e w1 ⟨rfl, hb⟩
  have hd1 := HD.out.below hb HD.out.lt
  have hc1 := hd1.sum
  have hf1 := hd1.free 0
  have hd2 := hd1.set0 F
  have hc2 := hd2.size
  have hf2 := hd2.free 1
  have hd3 := hd2.set1 (n + l.length)
  have HD3 := Lib.hid hd3
  have hG := grownBy_setCell (i := 1) (grownBy_setCell (i := 0) (grownBy_below (some g) hb) (.int .u32 F)) (.int .i64 ((n + l.length : Nat) : Int))
  have HG := Lib.hid hG
  clear hd1 hd2 hd3 hG hc HD
  go_wp2_with fail
  go_ret
  exact ⟨rfl, HD3.out, HG.out⟩
set_option maxRecDepth 100000 in
theorem reset_any (g s n : Nat) (w : World) (h : DigAt w g s n) : Calls Try.prog 14 #[.pointer (some ⟨g, 0, none⟩)] w fun e w' => e = .returned (.tuple #[]) ∧ DigAt w' g 0 0 ∧ w.grownBy w' (some g) := by
  have hc1 := h.sum
  have hf1 := h.free 0
  have hd2 := h.set0 0
  have hc2 := h.size
  have hf2 := h.free 1
  have hd3 := hd2.set1 0
  have HD3 := Lib.hid hd3
  have hG := grownBy_setCell (i := 1) (grownBy_setCell (i := 0) (grownBy_below (some g) (Below.refl _ w)) (.int .u32 0)) (.int .i64 0)
  have HG := Lib.hid hG
  clear h hd2 hd3 hG
  go_enter Try.func14, Try.ntmps14
  go_wp2_with fail
  refine bodyPost_end (results_none rfl _ _ _) rfl ?_
  exact ⟨rfl, HD3.out, HG.out⟩
end Go.Proofs.Ytddhodmkcphggaa.CR
