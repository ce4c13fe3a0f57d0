/-
  The code's made, size, count, find. Condition: names are no longer than memory bears.
-/
import Derived.Test.YtljfpolcgegkpaaDskCode1
import Derived.Test.YtljfpolcgegkpaaDskObj
import Derived.WalkSpells
set_option linter.unusedVariables false
namespace Go.Proofs.Ytljfpolcgegkpaa.DK
open Go.RowKit Go.Proofs.Ytljfpolcgegkpaa.MM Go.Maps

theorem mapNe (w : World) (r : Option Nat) : (binOp .neq 61 (.map r) (.map none)).run Try.prog w = .ok (.bool (!r.isNone)) w := run_neq_map_nil w _ _ _ r Try.underlying61
/-- A pointer that New or Fork made: it leads to an object with a map. -/
theorem made_yes (g mb : Nat) (w : World) (h : w.cell? ⟨g, 0, none⟩ = some (.map (some mb))) : Calls Try.prog 41 #[.pointer (some ⟨g, 0, none⟩)] w fun e w' => e = .returned (.bool true) ∧ w = w' := by
  have hne := mapNe
  go_enter Try.func41, Try.ntmps41
  go_wp2_with fail
  go_ret
  exact ⟨rfl, rfl⟩
theorem made_nil (w : World) : Calls Try.prog 41 #[.pointer none] w fun e w' => e = .returned (.bool false) ∧ w = w' := by
  have hne := mapNe
  go_enter Try.func41, Try.ntmps41
  go_wp2_with fail
  go_ret
  exact ⟨rfl, rfl⟩
theorem made_none (g : Nat) (w : World) (h : w.cell? ⟨g, 0, none⟩ = some (.map none)) : Calls Try.prog 41 #[.pointer (some ⟨g, 0, none⟩)] w fun e w' => e = .returned (.bool false) ∧ w = w' := by
  have hne := mapNe
  go_enter Try.func41, Try.ntmps41
  go_wp2_with fail
  go_ret
  exact ⟨rfl, rfl⟩
theorem size_any (p : Option Addr) (n cap : Nat) (w : World) : Calls Try.prog 47 #[.slice p n cap] w fun e w' => e = .returned (.int .i64 (n : Int)) ∧ w = w' := by
  go_enter Try.func47, Try.ntmps47
  go_wp2_with fail
  go_ret
  exact ⟨rfl, rfl⟩
/-! ### count -/
/-- A writing call is counted: the counter's cell, and the cell that tells that the disk has stopped. -/
def countC (c : Int) : Int := if c < 1 then c else c - 1
def CountLeft (S : Nat → Prop) (g mb : Nat) (V : List UInt8 → Value) (c : Int) (d : DiskD) (w : World) (e : Ending) (w' : World) : Prop :=
  e = .returned (.int .i64 (if (callD d).2 then 63 else 0)) ∧ CObj S w' g mb V (countC c) (callD d).1 ∧ Kep (fun k => k ≠ g) w w' ∧ w'.heap.size = w.heap.size
set_option maxRecDepth 100000 in
theorem count_any (S : Nat → Prop) (g mb : Nat) (V : List UInt8 → Value) (c : Int) (d : DiskD) (w : World) (h : CObj S w g mb V c d) (hst : d.stopped = false) : Calls Try.prog 51 #[.pointer (some ⟨g, 0, none⟩)] w (CountLeft S g mb V c d w) := by
  have h0 := h.g0
  have h1 := h.g1
  have h2 := h.g2
  have h3 := h.g3
  have hf := fun i => h.free i
  have hc0 := h.c0
  have hc1 := h.c1
  have ha := h.armed
  by_cases hc : c < 1
  · have hcd : callD d = (d, false) := by unfold callD; rw [if_pos (by omega)]
    have hcc : countC c = c := by unfold countC; rw [if_pos hc]
    have HF := Lib.hid (show CountLeft S g mb V c d w (.returned (.int .i64 0)) w from ⟨by rw [hcd]; rfl, by rw [hcd, hcc]; exact h, Kep.refl _ _, rfl⟩)
    have t1 : decide (c < 1) = true := decide_eq_true hc
    clear h hcd hcc ha
    go_enter Try.func51, Try.ntmps51
    go_wp2_with fail
    go_ret
    exact HF.out
  · have hcc : countC c = c - 1 := by unfold countC; rw [if_neg hc]
    have t1 : decide (c < 1) = false := decide_eq_false hc
    have hcd : callD d = ({ d with armed := d.armed - 1, stopped := decide (c - 1 = 0) }, decide (c - 1 = 0)) := by
      unfold callD
      rw [if_neg (by omega), hst, Bool.false_or, show d.armed - 1 = c - 1 by omega]
    have hk := h.cell_set 2 (.int .i64 (c - 1))
    have ho := heap_setCell_same w g 2 _ _ (.int .i64 (c - 1)) h.obj
    have hk2 := fun u => kep_set (S := fun k => k ≠ g) (w := w.setCell ⟨g, 2, none⟩ (.int .i64 (c - 1))) (g := g) (i := 3) (fun k => k rfl) u
    have ho2 := heap_setCell_same _ g 3 _ _ (.bool true) ho
    by_cases hz : c - 1 = 0
    · have t2 : ((c - 1 : Int) == 0) = true := by rw [beq_iff_eq]; exact hz
      have hz2 : c = 1 := by omega
      have HF := Lib.hid (show CountLeft S g mb V c d w (.returned (.int .i64 63)) ((w.setCell ⟨g, 2, none⟩ (.int .i64 (c - 1))).setCell ⟨g, 3, none⟩ (.bool true)) from
        ⟨by rw [hcd, decide_eq_true hz]; rfl, by
          rw [hcd, hcc, decide_eq_true hz]
          exact h.set (hk.trans (hk2 _)) ho2 rfl (by show d.armed - 1 = _; omega) (by omega) (by omega), hk.trans (hk2 _), by simp⟩)
      clear h hcd hcc ha hk ho hk2 ho2
      subst hz2
      go_enter Try.func51, Try.ntmps51
      go_wp2_with fail
      go_ret
      exact HF.out
    · have t2 : ((c - 1 : Int) == 0) = false := by rw [beq_eq_false_iff_ne]; exact hz
      have HF := Lib.hid (show CountLeft S g mb V c d w (.returned (.int .i64 0)) (w.setCell ⟨g, 2, none⟩ (.int .i64 (c - 1))) from
        ⟨by rw [hcd, decide_eq_false hz]; rfl, by
          rw [hcd, hcc, decide_eq_false hz]
          refine h.set hk ?_ rfl (by show d.armed - 1 = _; omega) (by omega) (by omega)
          rw [ho, hst]
          rfl, hk, by simp⟩)
      clear h hcd hcc ha hk ho hk2 ho2
      go_enter Try.func51, Try.ntmps51
      go_wp2_with fail
      go_ret
      exact HF.out
end Go.Proofs.Ytljfpolcgegkpaa.DK
