/-
  cut of layer 10's statements. No condition.
-/
import Derived.Test.YtgacfihidpijeaaZD1
set_option linter.unusedVariables false
namespace Go.Proofs.Ytgacfihidpijeaa.EV
open Go Go.RowKit Go.Proofs.Ytgacfihidpijeaa.MM

def cutL (l : List UInt8) : List UInt8 := l.take 700
theorem cutL_len (l : List UInt8) : (cutL l).length ≤ 700 := by unfold cutL; rw [List.length_take]; exact Nat.min_le_left _ _
set_option maxRecDepth 100000 in
theorem lcut_any (B : Nat) (v : Value) (l : List UInt8) (w : World) (h : BIn B w v l) : Calls Try.prog 25 #[v] w fun e w' => ∃ u, e = .returned u ∧ BIn B w u (cutL l) ∧ w' = w := by
  obtain ⟨p, cap, rfl, hlc, hcm⟩ := h.shape
  unfold maxLen at hcm
  by_cases hl : 700 < l.length
  · have t1 : decide ((l.length : Int) > 700) = true := decide_eq_true (by omega)
    have HT := Lib.hid (h.take 700 (by omega))
    have q1 : (700 : Int) ≤ (cap : Int) := by omega
    have q2 : 700 ≤ cap := by omega
    clear h
    go_enter Try.func25, Try.ntmps25
    go_wp2_with fail
    go_ret
    exact ⟨_, rfl, HT.out, rfl⟩
  · have t1 : decide ((l.length : Int) > 700) = false := decide_eq_false (by omega)
    have e : cutL l = l := by unfold cutL; exact List.take_of_length_le (by omega)
    rw [e]
    have HT := Lib.hid h
    clear h
    go_enter Try.func25, Try.ntmps25
    go_wp2_with fail
    go_ret
    exact ⟨_, rfl, HT.out, rfl⟩
end Go.Proofs.Ytgacfihidpijeaa.EV
