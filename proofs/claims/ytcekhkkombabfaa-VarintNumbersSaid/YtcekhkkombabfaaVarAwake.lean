/-
  cut, join and the example at the head of each statement of layer 2. Condition: the bytes are fewer than 2^45.
-/
import Derived.Test.YtcekhkkombabfaaVarGet2
set_option linter.unusedVariables false
namespace Go.Proofs.Ytcekhkkombabfaa.VG
open Go.RowKit Go.Proofs.Ytcekhkkombabfaa.MM Go.Proofs.Ytcekhkkombabfaa.VM Go.Proofs.Ytcekhkkombabfaa.VP

/-! ### cut -/
def CutLeft (l : List UInt8) (w : World) (e : Ending) (w' : World) : Prop := ∃ v', e = .returned v' ∧ BRow w v' (l.take 60) ∧ w = w'
set_option maxRecDepth 100000 in
theorem cut_any (v : Value) (l : List UInt8) (w : World) (hr : BRow w v l) : Calls Try.prog 8 #[v] w (CutLeft l w) := by
  obtain ⟨p, cap, rfl, hlc, hcm⟩ := hr.shape
  unfold maxLen at hcm
  by_cases h : 60 < l.length
  · have hrow := hr.take 60 (by omega)
    have HR := Lib.hid hrow
    have h1 : (60 : Int) < (l.length : Int) := by omega
    have h2 : (60 : Int) ≤ (cap : Int) := by omega
    clear hr hrow
    go_enter Try.func8, Try.ntmps8
    go_wp2_with fail
    go_ret
    exact ⟨_, rfl, HR.out, rfl⟩
  · have e : l.take 60 = l := List.take_of_length_le (by omega)
    have hr2 : BRow w (.slice p l.length cap) (l.take 60) := by rw [e]; exact hr
    have HR := Lib.hid hr2
    clear hr hr2 e
    go_enter Try.func8, Try.ntmps8
    go_wp2_with fail
    go_ret
    exact ⟨_, rfl, HR.out, rfl⟩

/-! ### join -/
theorem own_empty (w : World) (B : Nat) (hB : B ≤ w.heap.size) : OwnB B (w.alloc (.cells #[] 5)) (.slice (some ⟨w.heap.size, 0, none⟩) 0 0) [] := own_lit w [] 5 B hB (by unfold maxLen; simp)
set_option maxRecDepth 100000 in
set_option maxHeartbeats 1000000 in
theorem join_any (u v : Value) (l m : List UInt8) (w : World) (hu : BRow w u l) (hv : BRow w v m) (hlen : l.length + m.length ≤ 35184372088832) : Calls Try.prog 28 #[u, v] w (PutLeft w.heap.size (l ++ m) w) := by
  have HU := Lib.hid hu
  have HV := Lib.hid hv
  have HO := Lib.hid (own_empty w w.heap.size (Nat.le_refl _))
  have hlm' : ([] : List UInt8).length + l.length ≤ 140737488355328 := by rw [List.length_nil]; omega
  clear hu hv
  have hb0 : Below w.heap.size w (w.alloc (.cells #[] 5)) := (Below.refl _ _).alloc (Nat.le_refl _) _
  have hsz0 := hb0.size
  go_enter Try.func28, Try.ntmps28
  go_wp2_with (at_builtin; refine wpList_append_bytes rfl _ _ rfl w.heap.size _ [] rfl HO.out _ l rfl (HU.out.below hb0) hlm' hsz0 ?_)
  intro v1 w1 hown1 hb1
  have hb := hb0.trans hb1
  have hsz := hb.size
  have HO1 : Hid (OwnB w.heap.size w1 v1 l) := Lib.hid hown1
  clear hown1 hlm'
  go_wp2_with (at_builtin; refine wpList_append_bytes rfl _ _ rfl w.heap.size _ l rfl HO1.out _ m rfl (HV.out.below hb) (by omega) hsz ?_)
  intro v2 w2 hown2 hb2
  have HO2 := Lib.hid hown2
  clear hown2
  go_wp2_with fail
  go_ret
  exact ⟨_, rfl, HO2.out, hb.trans hb2⟩

/-! ### the example -/
theorem ex_get : getL [172, 2, 7] = (300, 2, 0) := by decide +kernel
theorem ex_rest : restL [172, 2, 7] = [7] := by decide +kernel
theorem ex_put : [9] ++ bytesL 300 = [9, 172, 2] := by decide +kernel
theorem ex_int : [] ++ intL (-1) = [1] := by decide +kernel
theorem ex_get_calls (v : Value) (w : World) (hr : BRow w v [172, 2, 7]) : Calls Try.prog 9 #[v] w (Got (.int .u64 300) 0 [7] w) := by
  have h := get_any v _ w hr
  rw [ex_get, ex_rest] at h
  exact h
theorem ex_put_calls (v : Value) (w : World) (hr : BRow w v [9]) : Calls Try.prog 11 #[v, .int .u64 300] w (PutLeft w.heap.size [9, 172, 2] w) := by
  have h := put_any v [9] 300 w (by omega) hr (by simp)
  rw [ex_put] at h
  exact h
theorem ex_int_calls (w : World) : Calls Try.prog 17 #[.slice none 0 0, .int .i64 (-1)] w (PutLeft w.heap.size [1] w) := by
  have h := putint_any (.slice none 0 0) [] (-1) w (by omega) (by omega) (BRow.nil_ w) (by simp)
  rw [ex_int] at h
  exact h
theorem lit_get (w : World) : BRow (w.alloc (.cells #[.int .u8 172, .int .u8 2, .int .u8 7] 5)) (.slice (some ⟨w.heap.size, 0, none⟩) 3 3) [172, 2, 7] :=
  Row.of_own (own_lit w [.int .u8 172, .int .u8 2, .int .u8 7] 5 0 (Nat.zero_le _) (by unfold maxLen; simp))
theorem lit_put (w : World) : BRow (w.alloc (.cells #[.int .u8 9] 5)) (.slice (some ⟨w.heap.size, 0, none⟩) 1 1) [9] :=
  Row.of_own (own_lit w [.int .u8 9] 5 0 (Nat.zero_le _) (by unfold maxLen; simp))
set_option maxRecDepth 100000 in
set_option maxHeartbeats 1000000 in
theorem awake_any (w : World) : Calls Try.prog 14 #[] w fun e w' => e = .returned (.bool true) ∧ Below w.heap.size w w' := by
  go_enter Try.func14, Try.ntmps14
  go_wp2_with fail
  refine (ex_get_calls _ _ (lit_get w)).mono ?_
  rintro e w1 ⟨v1, rfl, hrow, hb1⟩
  have hb1' : Below w.heap.size w w1 := ((Below.refl _ _).alloc (Nat.le_refl _) _).trans (hb1.mono (by simp))
  have HR := Lib.hid hrow
  clear hrow hb1
  go_wp2_with fail
  refine (ex_put_calls _ _ (lit_put w1)).mono ?_
  rintro e w2 ⟨v2, rfl, hown2, hb2⟩
  have hb12 : Below w1.heap.size w1 w2 := ((Below.refl _ _).alloc (Nat.le_refl _) _).trans (hb2.mono (by simp))
  have hc2 := hown2.brow.conv
  have hrow2 := HR.out.below hb12
  have hc1 := hrow2.conv
  have hbb := grow hb1' hb12
  clear hown2 hb2 hrow2
  go_wp2_with fail
  refine (ex_int_calls _).mono ?_
  rintro e w3 ⟨v3, rfl, hown3, hb3⟩
  have hc3 := hown3.brow.conv
  have hbc := grow hbb hb3
  clear hown3 hb3 hc1 hc2
  go_wp2_with fail
  go_ret
  exact ⟨rfl, hbc⟩
end Go.Proofs.Ytcekhkkombabfaa.VG
