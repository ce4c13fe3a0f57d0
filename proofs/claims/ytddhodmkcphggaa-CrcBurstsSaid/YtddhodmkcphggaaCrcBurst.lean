/-
  Bytes of a row of the call's own that are turned one by one. No condition.
-/
import Derived.Test.YtddhodmkcphggaaCrcAwake
set_option linter.unusedVariables false
namespace Go.Proofs.Ytddhodmkcphggaa.CR
open Go.RowKit Go.Proofs.Ytddhodmkcphggaa.MM Go.Proofs.Ytddhodmkcphggaa.CM

theorem turn_next : ∀ (I : Nat) (q Y : List UInt8) (hq : I < q.length) (hY : I < Y.length),
    (turn q (Y.take I))[I]? = some q[I] ∧ turn q (Y.take (I + 1)) = (turn q (Y.take I)).set I (q[I] ^^^ Y[I])
  | 0, x :: q, y :: Y, _, _ => by simp [turn, turn_nil]
  | I + 1, x :: q, y :: Y, hq, hY => by
    have ih := turn_next I q Y (by simpa using hq) (by simpa using hY)
    simp only [List.take_succ_cons, turn, List.getElem?_cons_succ, List.getElem_cons_succ, List.set_cons_succ]
    exact ⟨ih.1, by rw [ih.2]⟩
  | _, [], _, hq, _ => by simp at hq
  | _, _ :: _, [], _, hY => by simp at hY
theorem turn_len : ∀ (q Y : List UInt8), (turn q Y).length = q.length
  | [], _ => rfl
  | x :: q, [] => rfl
  | x :: q, y :: Y => by rw [turn, List.length_cons, List.length_cons, turn_len q Y]
def turnAt (b : List UInt8) (k : Nat) (Y : List UInt8) (I : Nat) : List UInt8 := b.take k ++ turn (b.drop k) (Y.take I)
theorem turnAt_zero (b : List UInt8) (k : Nat) (Y : List UInt8) : turnAt b k Y 0 = b := by
  unfold turnAt
  rw [List.take_zero, turn_nil, List.take_append_drop]
theorem turnAt_len (b : List UInt8) (k : Nat) (Y : List UInt8) (I : Nat) : (turnAt b k Y I).length = b.length := by
  unfold turnAt
  rw [List.length_append, turn_len, List.length_take, List.length_drop]
  omega
theorem turnAt_next {b : List UInt8} {k I : Nat} {Y : List UInt8} (hk : k + I < b.length) (hY : I < Y.length) :
    (turnAt b k Y I)[k + I]? = some b[k + I] ∧ turnAt b k Y (I + 1) = (turnAt b k Y I).set (k + I) (b[k + I] ^^^ Y[I]) := by
  have hq : I < (b.drop k).length := by rw [List.length_drop]; omega
  have h := turn_next I (b.drop k) Y hq hY
  have e : (b.drop k)[I] = b[k + I] := by rw [List.getElem_drop]
  rw [e] at h
  have hl : (b.take k).length = k := by rw [List.length_take]; omega
  unfold turnAt
  constructor
  · rw [List.getElem?_append_right (by omega), hl, show k + I - k = I by omega]
    exact h.1
  · rw [List.set_append_right _ _ (by omega), hl, show k + I - k = I by omega, h.2]
/-- Whether one that is turned by a byte that is not 0. -/
def anyT (Y : List UInt8) (I : Nat) : Bool := (Y.take I).any (fun c => c != 0)
theorem anyT_next {Y : List UInt8} {I : Nat} (hY : I < Y.length) : anyT Y (I + 1) = (anyT Y I || Y[I] != 0) := by
  unfold anyT
  rw [List.take_succ_eq_append_getElem hY, List.any_append]
  simp
theorem all_zero : ∀ (l ws : List UInt8), ws.any (fun c => c != 0) = false → turn l ws = l
  | [], _, _ => rfl
  | b :: l, [], _ => rfl
  | b :: l, c :: ws, h => by
    simp only [List.any_cons, Bool.or_eq_false_iff, bne_eq_false_iff_eq] at h
    rw [turn, h.1, all_zero l ws h.2]
    simp
theorem turnAt_sum {b Y : List UInt8} {k I : Nat} (hI : I ≤ 4) (hY : Y.length = 4) (hk : k + I ≤ b.length) :
    (anyT Y I = true → sumL (turnAt b k Y I) ≠ sumL b) ∧ (anyT Y I = false → sumL (turnAt b k Y I) = sumL b) := by
  constructor
  · intro h
    have := burst_apart (b.take k) (b.drop k) (Y.take I) (by rw [List.length_take]; omega) (by rw [List.length_take, List.length_drop]; omega)
      (by
        unfold anyT at h
        rw [List.any_eq_true] at h
        obtain ⟨c, hc, h⟩ := h
        exact ⟨c, hc, by simpa using h⟩)
    rw [List.take_append_drop] at this
    exact this
  · intro h
    unfold turnAt
    rw [all_zero _ _ h, List.take_append_drop]

end Go.Proofs.Ytddhodmkcphggaa.CR
namespace Go.Proofs.Ytddhodmkcphggaa.MM
open Go.RowKit
/-! ### a row of the call's own: what it is, a store into it -/
theorem OwnB.shape {B : Nat} {w : World} {v : Value} {l : List UInt8} (h : OwnB B w v l) (hl : l.length ≠ 0) : ∃ g cap, v = .slice (some ⟨g, 0, none⟩) l.length cap ∧ B ≤ g ∧ l.length ≤ cap ∧ cap ≤ maxLen := by
  rcases h.2 with ⟨_, h0⟩ | ⟨g, cap, cur, hv, hb, _, hn, hm, _⟩
  · exact absurd h0 hl
  · exact ⟨g, cap, hv, hb, hn, hm⟩
theorem OwnB.free {B : Nat} {w : World} {g n cap : Nat} {l : List UInt8} (h : OwnB B w (.slice (some ⟨g, 0, none⟩) n cap) l) (j : Nat) : w.frozen? ⟨g, j, none⟩ = false := by
  rcases h.2 with ⟨hv, _⟩ | ⟨g', cap', cur, hv, hb, hh, _⟩
  · cases hv
  · simp only [Value.slice.injEq, Option.some.injEq, Addr.mk.injEq] at hv
    obtain ⟨⟨rfl, _⟩, _⟩ := hv
    exact frozen_of_row w g j cur _ hh
theorem OwnB.cell {B : Nat} {w : World} {g n cap j : Nat} {l : List UInt8} {c : UInt8} (h : OwnB B w (.slice (some ⟨g, 0, none⟩) n cap) l) (hj : l[j]? = some c) : w.cell? ⟨g, j, none⟩ = some (.int .u8 (c.toNat : Int)) := by
  obtain ⟨hlt, he⟩ := List.getElem?_eq_some_iff.1 hj
  obtain ⟨b, off, hp, _, hc⟩ := h.brow.at_ hlt
  rcases h.2 with ⟨hv, _⟩ | ⟨g', cap', cur, hv, hb, hh, hn, hm, hs, ht⟩
  · cases hv
  · simp only [Value.slice.injEq, Option.some.injEq, Addr.mk.injEq] at hv hp
    obtain ⟨⟨rfl, _⟩, _⟩ := hv
    obtain ⟨rfl, rfl, _⟩ := hp
    rw [he, Nat.zero_add] at hc
    exact hc
theorem OwnB.set {B : Nat} {w : World} {g n cap j : Nat} {l : List UInt8} (h : OwnB B w (.slice (some ⟨g, 0, none⟩) n cap) l) (c : UInt8) :
    OwnB B (w.setCell ⟨g, j, none⟩ (.int .u8 (c.toNat : Int))) (.slice (some ⟨g, 0, none⟩) n cap) (l.set j c) := by
  refine ⟨by rw [byteCells_len]; omega, ?_⟩
  rcases h.2 with ⟨hv, _⟩ | ⟨g', cap', cur, hv, hb, hh, hn, hm, hs, ht⟩
  · cases hv
  · have hv' := hv
    simp only [Value.slice.injEq, Option.some.injEq, Addr.mk.injEq] at hv
    obtain ⟨⟨rfl, _⟩, hnn, rfl⟩ := hv
    refine .inr ⟨g, cap, cur.setIfInBounds j (.int .u8 (c.toNat : Int)), by rw [List.length_set, hnn], hb, heap_setCell_same w g j cur _ _ hh, by rw [List.length_set]; exact hn, hm, by rw [Array.size_setIfInBounds]; exact hs, ?_⟩
    rw [List.length_set, Array.toList_setIfInBounds, List.take_set, ht]
    simp [Lib.byteCells, List.map_set]
end Go.Proofs.Ytddhodmkcphggaa.MM
