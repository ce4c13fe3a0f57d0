/-
  cut and the example at the head of each statement of layer 4. No condition.
-/
import Derived.Test.YtfnohcmoaooghaaFrmRGet
import Derived.Lib.SmallJoins
set_option linter.unusedVariables false
namespace Go.Proofs.Ytfnohcmoaooghaa.FG
open Go.RowKit Go.Proofs.Ytfnohcmoaooghaa.MM Go.Proofs.Ytfnohcmoaooghaa.VM Go.Proofs.Ytfnohcmoaooghaa.CM Go.Proofs.Ytfnohcmoaooghaa.FM Go.Proofs.Ytfnohcmoaooghaa.VP Go.Proofs.Ytfnohcmoaooghaa.CR Go.Proofs.Ytfnohcmoaooghaa.FP Go.Proofs.Ytfnohcmoaooghaa.VG

/-! ### cut -/
def CutLeft (l : List UInt8) (w : World) (e : Ending) (w' : World) : Prop := ∃ v', e = .returned v' ∧ BRow w v' (l.take 400) ∧ w = w'
set_option maxRecDepth 100000 in
theorem cut_any (v : Value) (l : List UInt8) (w : World) (hr : BRow w v l) : Calls Try.prog 9 #[v] w (CutLeft l w) := by
  obtain ⟨p, cap, rfl, hlc, hcm⟩ := hr.shape
  unfold maxLen at hcm
  by_cases h : 400 < l.length
  · have hrow := hr.take 400 (by omega)
    have HR := Lib.hid hrow
    have h1 : (400 : Int) < (l.length : Int) := by omega
    have h2 : (400 : Int) ≤ (cap : Int) := by omega
    clear hr hrow
    go_enter Try.func9, Try.ntmps9
    go_wp2_with fail
    go_ret
    exact ⟨_, rfl, HR.out, rfl⟩
  · have e : l.take 400 = l := List.take_of_length_le (by omega)
    have hr2 : BRow w (.slice p l.length cap) (l.take 400) := by rw [e]; exact hr
    have HR := Lib.hid hr2
    clear hr hr2 e
    go_enter Try.func9, Try.ntmps9
    go_wp2_with fail
    go_ret
    exact ⟨_, rfl, HR.out, rfl⟩

/-! ### the example -/
/-- Bytes in a block that is known, marked or not. -/
theorem brow_block {w : World} {g : Nat} {cs : Array Value} {fr : Nat × Nat} (l : List UInt8) (h : w.heap[g]? = some (.cells cs 5 fr)) (hcs : cs = (Lib.byteCells l).toArray) (hm : l.length ≤ maxLen) :
    BRow w (.slice (some ⟨g, 0, none⟩) l.length l.length) l := by
  subst hcs
  refine ⟨some ⟨g, 0, none⟩, l.length, by rw [byteCells_len], by rw [byteCells_len]; omega, hm, (fun h => by cases h), .inr ⟨g, 0, rfl, (Array.getElem?_eq_some_iff.1 h).1, fun i u hi => ?_⟩⟩
  rw [cell_of_row w g _ _ _ _ h]
  simpa using hi
theorem ex_frame : frameL [] = [0, 210, 2, 239, 141] := by decide +kernel
theorem ex_put (w : World) : Calls Try.prog 10 #[.slice (some ⟨w.heap.size, 0, none⟩) 1 1, .slice none 0 0] (w.alloc (.cells #[.int .u8 7] 5)) (PutsLeft (w.heap.size + 1) [7, 0, 210, 2, 239, 141] (w.alloc (.cells #[.int .u8 7] 5))) := by
  have h := put_fr _ (.slice none 0 0) [7] [] _ (Row.of_own (own_lit w [.int .u8 7] 5 0 (Nat.zero_le _) (by unfold maxLen; simp))) (BRow.nil_ _) (by simp) (by rw [ex_frame]; simp)
  rw [ex_frame, World.size_alloc] at h
  exact h
theorem ex_get (v : Value) (w : World) (h : BRow w v [0, 210, 2, 239, 141, 33]) : Calls Try.prog 12 #[v] w (GotFr w.heap.size [] 0 [33] w) := by
  have k := get_fr w.heap.size v _ w h (Nat.le_refl _)
  have e : ([0, 210, 2, 239, 141, 33] : List UInt8) = frameL [] ++ [33] := by rw [ex_frame]; rfl
  rw [e, restR_put (by simp), getR_put (by simp)] at k
  exact k
theorem ex_size (w : World) : Calls Try.prog 14 #[.int .i64 0] w fun e w' => e = .returned (.int .i64 5) ∧ w = w' := by
  have h := size_fr 0 w (by omega) (by omega)
  have e : sizeL 0 = 5 := by decide +kernel
  rw [e] at h
  exact h
theorem ex_lit (w : World) : BRow (w.alloc (.cells #[.int .u8 0, .int .u8 210, .int .u8 2, .int .u8 239, .int .u8 141, .int .u8 33] 5 (6, 7))) (.slice (some ⟨w.heap.size, 0, none⟩) 6 6) [0, 210, 2, 239, 141, 33] :=
  brow_block [0, 210, 2, 239, 141, 33] (heap_alloc_new w _) rfl (by unfold maxLen; simp)
set_option maxRecDepth 100000 in
set_option maxHeartbeats 1000000 in
theorem awake_any (w : World) : Calls Try.prog 16 #[] w fun e w' => e = .returned (.bool true) ∧ Below w.heap.size w w' := by
  have hb0 : Below w.heap.size w (w.alloc (.cells #[.int .u8 7] 5)) := (Below.refl _ _).alloc (Nat.le_refl _) _
  go_enter Try.func16, Try.ntmps16
  go_wp2_with fail
  refine (ex_put w).mono ?_
  rintro e w1 ⟨v1, rfl, hown1, hb1⟩
  have hb2 := grow hb0 (by rw [World.size_alloc]; exact hb1)
  have HR1 := Lib.hid hown1.brow
  have hk := Joins.run_convert_bytes_const_at (P := Try.prog) w1 22 5 #[.int .u8 0, .int .u8 210, .int .u8 2, .int .u8 239, .int .u8 141, .int .u8 33] 6 6 w1.heap.size rfl Try.underlying22 Try.underlying5
  simp only [List.size_toArray, List.length_cons, List.length_nil, Nat.reduceAdd] at hk
  have hb3 : Below w1.heap.size w1 (w1.alloc (.cells #[.int .u8 0, .int .u8 210, .int .u8 2, .int .u8 239, .int .u8 141, .int .u8 33] 5 (6, 7))) := (Below.refl _ _).alloc (Nat.le_refl _) _
  clear hown1 hb1 hb0
  go_wp2_with fail
  clear hk
  refine (ex_get _ _ (ex_lit w1)).mono ?_
  rintro e w2 ⟨vp, vr, rfl, hp, hr, hb4⟩
  have hb5 := grow hb3 hb4
  have hend := grow hb2 hb5
  have hc1 := (HR1.out.below hb5).conv
  have hc2 := hr.conv
  obtain ⟨q, cap, rfl, _, _⟩ := hp.shape
  clear hp hr hb3 hb4 hb5 hb2
  go_wp2_with fail
  refine (ex_size _).mono ?_
  rintro e w3 ⟨rfl, rfl⟩
  go_wp2_with fail
  go_ret
  exact ⟨rfl, hend⟩
end Go.Proofs.Ytfnohcmoaooghaa.FG
