/-
  cut and the example at the head of each statement of layer 5. No condition.
-/
import Derived.Test.YtoohkhcmakcggaaLzGo
import Derived.Lib.SmallJoins
set_option linter.unusedVariables false
namespace Go.Proofs.Ytoohkhcmakcggaa.LZ
open Go.RowKit Go.Proofs.Ytoohkhcmakcggaa.MM

/-! ### cut -/
def CutLeft (l : List UInt8) (w : World) (e : Ending) (w' : World) : Prop := ∃ v', e = .returned v' ∧ BRow w v' (l.take 1200) ∧ w = w'
set_option maxRecDepth 100000 in
theorem cut_any (v : Value) (l : List UInt8) (w : World) (hr : BRow w v l) : Calls Try.prog 7 #[v] w (CutLeft l w) := by
  obtain ⟨p, cap, rfl, hlc, hcm⟩ := hr.shape
  unfold maxLen at hcm
  by_cases h : l.length ≤ 1200
  · have e : l.take 1200 = l := List.take_of_length_le (by omega)
    have hr2 : BRow w (.slice p l.length cap) (l.take 1200) := by rw [e]; exact hr
    have HR := Lib.hid hr2
    have h1 : (l.length : Int) ≤ 1200 := by omega
    clear hr hr2 e
    go_enter Try.func7, Try.ntmps7
    go_wp2_with fail
    go_ret
    exact ⟨_, rfl, HR.out, rfl⟩
  · have hrow := hr.take 1200 (by omega)
    have HR := Lib.hid hrow
    have h1 : ¬ (l.length : Int) ≤ 1200 := by omega
    have h2 : (1200 : Int) < (l.length : Int) := by omega
    have h3 : (1200 : Int) ≤ (cap : Int) := by omega
    clear hr hrow
    go_enter Try.func7, Try.ntmps7
    go_wp2_with fail
    go_ret
    exact ⟨_, rfl, HR.out, rfl⟩

/-! ### the example -/
theorem ex_packL : packL [97, 98, 97, 98, 97, 98, 97, 98, 97, 98, 88] = [0, 0, 0, 11, 1, 97, 98, 132, 0, 2, 0, 88] := by decide +kernel
theorem ex_unpackL : unpackL [0, 0, 0, 11, 1, 97, 98, 132, 0, 2, 0, 88] = ([97, 98, 97, 98, 97, 98, 97, 98, 97, 98, 88], 0) := by decide +kernel
theorem ex_wrongL : unpackL [0, 0, 0, 1, 128, 0, 1] = ([], 50) := by decide +kernel
theorem ex_bound : boundL 0 = 4 := by decide +kernel
/-- Bytes in a block that is known, marked or not. -/
theorem brow_block {w : World} {g : Nat} {cs : Array Value} {fr : Nat × Nat} (l : List UInt8) (h : w.heap[g]? = some (.cells cs 5 fr)) (hcs : cs = (Lib.byteCells l).toArray) (hm : l.length ≤ maxLen) :
    BRow w (.slice (some ⟨g, 0, none⟩) l.length l.length) l := by
  subst hcs
  refine ⟨some ⟨g, 0, none⟩, l.length, by rw [byteCells_len], by rw [byteCells_len]; omega, hm, (fun h => by cases h), .inr ⟨g, 0, rfl, (Array.getElem?_eq_some_iff.1 h).1, fun i u hi => ?_⟩⟩
  rw [cell_of_row w g _ _ _ _ h]
  simpa using hi
theorem ex_lit (w : World) : BRow (w.alloc (.cells #[.int .u8 97, .int .u8 98, .int .u8 97, .int .u8 98, .int .u8 97, .int .u8 98, .int .u8 97, .int .u8 98, .int .u8 97, .int .u8 98, .int .u8 88] 5 (11, 12))) (.slice (some ⟨w.heap.size, 0, none⟩) 11 11) [97, 98, 97, 98, 97, 98, 97, 98, 97, 98, 88] :=
  brow_block [97, 98, 97, 98, 97, 98, 97, 98, 97, 98, 88] (heap_alloc_new w _) rfl (by unfold maxLen; simp)
theorem ex_lit2 (w : World) : BRow (w.alloc (.cells #[.int .u8 0, .int .u8 0, .int .u8 0, .int .u8 1, .int .u8 128, .int .u8 0, .int .u8 1] 5)) (.slice (some ⟨w.heap.size, 0, none⟩) 7 7) [0, 0, 0, 1, 128, 0, 1] :=
  brow_block [0, 0, 0, 1, 128, 0, 1] (heap_alloc_new w _) rfl (by unfold maxLen; simp)
theorem ex_pack (v : Value) (w : World) (h : BRow w v [97, 98, 97, 98, 97, 98, 97, 98, 97, 98, 88]) : Calls Try.prog 8 #[v] w (PackLeft w.heap.size [0, 0, 0, 11, 1, 97, 98, 132, 0, 2, 0, 88] w) := by
  have k := pack_any v _ w h (by simp)
  rw [ex_packL] at k
  exact k
theorem ex_unpack (v : Value) (w : World) (h : BRow w v [0, 0, 0, 11, 1, 97, 98, 132, 0, 2, 0, 88]) : Calls Try.prog 13 #[v] w (TwoLeft w.heap.size ([97, 98, 97, 98, 97, 98, 97, 98, 97, 98, 88], 0) w) := by
  have k := unpack_any v _ w h (by simp)
  rw [ex_unpackL] at k
  exact k
theorem ex_wrong (v : Value) (w : World) (h : BRow w v [0, 0, 0, 1, 128, 0, 1]) : Calls Try.prog 13 #[v] w (TwoLeft w.heap.size ([], 50) w) := by
  have k := unpack_any v _ w h (by simp)
  rw [ex_wrongL] at k
  exact k
theorem ex_bnd (w : World) : Calls Try.prog 10 #[.int .i64 0] w fun e w' => e = .returned (.int .i64 4) ∧ Below w.heap.size w w' := by
  have k := bound_any 0 w (by omega) (by omega)
  rw [ex_bound] at k
  exact k
set_option maxRecDepth 100000 in
set_option maxHeartbeats 1000000 in
theorem awake_any (w : World) : Calls Try.prog 12 #[] w fun e w' => e = .returned (.bool true) ∧ Below w.heap.size w w' := by
  have hk := Joins.run_convert_bytes_const_at (P := Try.prog) w 22 5 #[.int .u8 97, .int .u8 98, .int .u8 97, .int .u8 98, .int .u8 97, .int .u8 98, .int .u8 97, .int .u8 98, .int .u8 97, .int .u8 98, .int .u8 88] 11 11 w.heap.size rfl Try.underlying22 Try.underlying5
  simp only [List.size_toArray, List.length_cons, List.length_nil, Nat.reduceAdd] at hk
  go_enter Try.func12, Try.ntmps12
  go_wp2_with fail
  clear hk
  refine (ex_pack _ _ (ex_lit w)).mono ?_
  rintro e w1 ⟨v1, rfl, hown1, hb1⟩
  have hb0 : Below w.heap.size w (w.alloc (.cells #[.int .u8 97, .int .u8 98, .int .u8 97, .int .u8 98, .int .u8 97, .int .u8 98, .int .u8 97, .int .u8 98, .int .u8 97, .int .u8 98, .int .u8 88] 5 (11, 12))) := (Below.refl _ _).alloc (Nat.le_refl _) _
  have hb2 := grow hb0 hb1
  have HR1 := Lib.hid hown1.brow
  clear hown1 hb1 hb0
  go_wp2_with fail
  refine (ex_unpack _ _ HR1.out).mono ?_
  rintro e w2 ⟨v2, rfl, hown2, hb3⟩
  have HR2 := Lib.hid hown2.brow
  have hba : Below w2.heap.size w2 (w2.alloc (.cells #[.int .u8 0, .int .u8 0, .int .u8 0, .int .u8 1, .int .u8 128, .int .u8 0, .int .u8 1] 5)) := (Below.refl _ _).alloc (Nat.le_refl _) _
  clear hown2
  go_wp2_with fail
  refine (ex_wrong _ _ (ex_lit2 w2)).mono ?_
  rintro e w3 ⟨v3, rfl, _, hb4⟩
  have hb5 := grow hba hb4
  have hend := grow hb2 (grow hb3 hb5)
  have hc1 := (HR1.out.below (grow hb3 hb5)).conv
  have hc2 := (HR2.out.below hb5).conv
  clear hb2 hb3 hb4 hb5 hba
  go_wp2_with fail
  refine (ex_bnd _).mono ?_
  rintro e w4 ⟨rfl, hb6⟩
  go_wp2_with fail
  go_ret
  exact ⟨rfl, grow hend hb6⟩
end Go.Proofs.Ytoohkhcmakcggaa.LZ
