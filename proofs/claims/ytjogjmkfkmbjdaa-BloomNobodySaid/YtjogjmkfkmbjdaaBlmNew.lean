/-
  New filters, of the code and of the reference. No condition.
-/
import Derived.Test.YtjogjmkfkmbjdaaBlmCode
import Derived.Laws.OwnMore
set_option linter.unusedVariables false
namespace Go.Proofs.Ytjogjmkfkmbjdaa.BL
open Go.RowKit Go.Proofs.Ytjogjmkfkmbjdaa.MM Go.Proofs.Ytjogjmkfkmbjdaa.BM

theorem zeros_own {w : World} {B n : Nat} {v : Value} (h : w.ownsRow B 5 1 v n (madeCells #[Value.int .u8 0] n).toList) : OwnB B w v (List.replicate n 0) := by
  have e : (madeCells #[Value.int .u8 0] n).toList = Lib.byteCells (List.replicate n 0) := by
    rw [toList_madeCells_one]
    simp [Lib.byteCells]
  rw [e] at h
  unfold OwnB
  rw [List.length_replicate]
  exact h
set_option maxRecDepth 100000 in
set_option maxHeartbeats 1000000 in
theorem newbits_any (z : Int) (m : Nat) (w : World) (hz : z = (m : Int)) (hm : m ≤ 1048576) : Calls Try.prog 23 #[.int .i64 z] w (PutLeft w.heap.size (List.replicate ((m + 7) / 8) 0) w) := by
  obtain ⟨i0, hi, hz0, hz1, hz2⟩ := info_parts infoByte
  obtain ⟨N, hN⟩ : ∃ N : Nat, (m + 7) / 8 = N := ⟨_, rfl⟩
  have hNi : ((m : Int) + 7) / 8 = (N : Int) := by omega
  have hN1 : N ≤ 131073 := by omega
  rw [hN]
  subst hz
  clear hN
  go_enter Try.func23, Try.ntmps23
  go_wp2_with (at_make; go_loud (refine wpList_make_full w rfl _ _ 48 rfl w.heap.size 5 i0 (.int .u8 0) 1 Try.underlying48 hi hz0 hz1 .i64 .i64 _ _ N rfl rfl hNi hNi (by rw [hz2]; omega) (by unfold maxLen; omega) (Nat.le_refl _) ?_))
  intro w1 hown1 hg1
  have HB := Lib.hid ((Below.refl w.heap.size w).grown hg1 (Nat.le_refl _) (fun k h => by cases h))
  have HZ := Lib.hid (zeros_own hown1)
  clear hown1 hg1
  go_wp2_with fail
  go_ret
  exact ⟨_, rfl, HZ.out, HB.out⟩
set_option maxRecDepth 100000 in
theorem new_no (n : Int) (w : World) (h : n < 0 ∨ 262144 < n) : Calls Try.prog 8 #[.int .i64 n] w fun e w' => e = .returned (.tuple #[.pointer none, .int .i64 90]) ∧ w = w' := by
  by_cases h0 : n < 0
  · have t1 : decide (n < 0) = true := by rw [decide_eq_true_eq]; exact h0
    go_enter Try.func8, Try.ntmps8
    go_wp2_with fail
    go_ret2
    exact ⟨rfl, rfl⟩
  · have t1 : decide (n < 0) = false := by rw [decide_eq_false_iff_not]; exact h0
    have t2 : decide (n > 262144) = true := by rw [decide_eq_true_eq]; omega
    go_enter Try.func8, Try.ntmps8
    go_wp2_with fail
    go_ret2
    exact ⟨rfl, rfl⟩
/-- What New leaves. -/
def NewLeft (L : List UInt8) (w : World) (e : Ending) (w' : World) : Prop := ∃ g b cap, e = .returned (.tuple #[.pointer (some ⟨g, 0, none⟩), .int .i64 0]) ∧ FAt w' g b cap L ∧ w.heap.size ≤ g ∧ w.heap.size ≤ b ∧ Below w.heap.size w w'
set_option maxRecDepth 100000 in
set_option maxHeartbeats 1000000 in
theorem new_any (n : Nat) (w : World) (h : n ≤ 262144) : Calls Try.prog 8 #[.int .i64 n] w (NewLeft (newL n) w) := by
  have t1 : decide ((n : Int) < 0) = false := by rw [decide_eq_false_iff_not]; omega
  have t2 : decide ((n : Int) > 262144) = false := by rw [decide_eq_false_iff_not]; omega
  have hroom : ∀ (z : Int) (m : Nat) (W : World), z = (m : Int) → m ≤ 1048576 → (m + 7) / 8 = roomL n → Calls Try.prog 23 #[.int .i64 z] W (PutLeft W.heap.size (newL n) W) := fun z m W h1 h2 h3 => by
    have := newbits_any z m W h1 h2
    rw [h3] at this
    exact this
  have hrm : roomL n = (min (max (10 * n) 64) 1048576 + 7) / 8 := rfl
  have HRM := Lib.hid hrm
  have HROOM := Lib.hid hroom
  have hnl := newL_len n
  obtain ⟨h8, h9⟩ := roomL_le n
  rw [← hnl] at h8 h9
  have HLO := Lib.hid h8
  have HHI := Lib.hid h9
  obtain ⟨L, hL⟩ : ∃ L, newL n = L := ⟨_, rfl⟩
  rw [hL] at HROOM HLO HHI ⊢
  have hend : ∀ (v : Value) (w1 : World), OwnB w.heap.size w1 v L → Below w.heap.size w w1 → NewLeft L w (.returned (.tuple #[.pointer (some ⟨w1.heap.size, 0, none⟩), .int .i64 0])) (w1.alloc (.cells #[v] 50)) := fun v w1 ho hb => by
    have h0 := HLO.out
    obtain ⟨b, cap, rfl, hbb, hl1, hl2⟩ := OwnB.shape ho (by omega)
    have hsz := hb.size
    have hk : Below w1.heap.size w1 (w1.alloc (.cells #[.slice (some ⟨b, 0, none⟩) L.length cap] 50)) := (Below.refl _ _).alloc (Nat.le_refl _) _
    have ho2 := ho.keep hk
    have hbl : b < w1.heap.size := by
      have hc := OwnB.cell ho (List.getElem?_eq_getElem (show 0 < L.length by omega))
      by_cases hb : b < w1.heap.size
      · exact hb
      · simp [World.cell?, Array.getElem?_eq_none (Nat.le_of_not_lt hb)] at hc
    refine ⟨w1.heap.size, b, cap, rfl, ⟨?_, ?_, by omega, h0, HHI.out⟩, hsz, hbb, hb.alloc hsz _⟩
    · rw [cell_of_row _ w1.heap.size 0 _ _ _ (heap_alloc_new _ _)]; rfl
    · refine ⟨ho2.1, ?_⟩
      rcases ho2.2 with ⟨h0, _⟩ | ⟨g, cap, cur, hv, hg, rest⟩
      · cases h0
      · have hv2 := hv
        simp only [Value.slice.injEq, Option.some.injEq, Addr.mk.injEq] at hv2
        exact .inr ⟨g, cap, cur, hv, by rw [hv2.1.1]; exact Nat.le_refl _, rest⟩
  have HEND := Lib.hid hend
  clear hroom hrm hnl h8 h9 hL hend
  go_enter Try.func8, Try.ntmps8
  go_wp2_with fail
  · refine (HROOM.out _ 1048576 _ rfl (by omega) (by rw [HRM.out]; omega)).mono ?_
    rintro e w1 ⟨v, rfl, ho, hb⟩
    have HE := Lib.hid (HEND.out v w1 ho hb)
    have h0 := HLO.out
    obtain ⟨b, cap, rfl, _⟩ := OwnB.shape ho (by omega)
    clear ho hb HEND h0
    go_wp2_with fail
    go_ret2
    exact HE.out
  · refine (HROOM.out _ 64 _ rfl (by omega) (by rw [HRM.out]; omega)).mono ?_
    rintro e w1 ⟨v, rfl, ho, hb⟩
    have HE := Lib.hid (HEND.out v w1 ho hb)
    have h0 := HLO.out
    obtain ⟨b, cap, rfl, _⟩ := OwnB.shape ho (by omega)
    clear ho hb HEND h0
    go_wp2_with fail
    go_ret2
    exact HE.out
  · refine (HROOM.out _ (10 * n) _ (by omega) (by omega) (by rw [HRM.out]; omega)).mono ?_
    rintro e w1 ⟨v, rfl, ho, hb⟩
    have HE := Lib.hid (HEND.out v w1 ho hb)
    have h0 := HLO.out
    obtain ⟨b, cap, rfl, _⟩ := OwnB.shape ho (by omega)
    clear ho hb HEND h0
    go_wp2_with fail
    go_ret2
    exact HE.out
end Go.Proofs.Ytjogjmkfkmbjdaa.BL
