/-
  Rows of slices of bytes; a byte's step by the table. No condition.
-/
import Derived.Test.YtfnohcmoaooghaaCrcTab
set_option linter.unusedVariables false
namespace Go.Proofs.Ytfnohcmoaooghaa.CR
open Go.RowKit Go.Proofs.Ytfnohcmoaooghaa.MM Go.Proofs.Ytfnohcmoaooghaa.CM

/-- A slice of slices of bytes. -/
def PRow (w : World) (v : Value) (ls : List (List UInt8)) : Prop := ∃ xs, Row w v xs ∧ xs.length = ls.length ∧ ∀ i (h : i < ls.length), ∃ x, xs[i]? = some x ∧ BRow w x ls[i]
theorem PRow.below {w w' : World} {v : Value} {ls : List (List UInt8)} (h : PRow w v ls) (hb : Below w.heap.size w w') : PRow w' v ls := by
  obtain ⟨xs, hr, hl, hx⟩ := h
  refine ⟨xs, Row.below (B := 0) hr hb, hl, fun i hi => ?_⟩
  obtain ⟨x, h1, h2⟩ := hx i hi
  exact ⟨x, h1, h2.below hb⟩
theorem PRow.nil_ (w : World) : PRow w (.slice none 0 0) [] := ⟨[], Row.nil_ w, rfl, fun i h => by simp at h⟩
theorem PRow.shape {w : World} {v : Value} {ls : List (List UInt8)} (h : PRow w v ls) : ∃ p cap, v = .slice p ls.length cap ∧ ls.length ≤ cap ∧ cap ≤ maxLen := by
  obtain ⟨xs, ⟨p, cap, hv, h1, h2, _, _⟩, hl, _⟩ := h
  rw [hl] at hv h1
  exact ⟨p, cap, hv, h1, h2⟩
theorem PRow.at_ {w : World} {p : Option Addr} {n cap : Nat} {ls : List (List UInt8)} (h : PRow w (.slice p n cap) ls) {k : Nat} (hk : k < ls.length) :
    ∃ b off x, p = some ⟨b, off, none⟩ ∧ w.cell? ⟨b, off + k, none⟩ = some x ∧ BRow w x ls[k] := by
  obtain ⟨xs, ⟨p', cap', hv, _, _, _, h⟩, hl, hx⟩ := h
  simp only [Value.slice.injEq] at hv
  obtain ⟨rfl, _, _⟩ := hv
  obtain ⟨x, h1, h2⟩ := hx k hk
  rcases h with h | ⟨b, off, hp, hlt, hc⟩
  · rw [h] at h1; simp at h1
  · exact ⟨b, off, x, hp, hc k _ h1, h2⟩
/-- A literal row: one block with these slices. -/
theorem prow_lit {w : World} (xs : List Value) (ls : List (List UInt8)) (hl : xs.length = ls.length) (hm : xs.length ≤ maxLen) (h : ∀ i (h : i < ls.length), ∃ x, xs[i]? = some x ∧ BRow w x ls[i]) :
    PRow (w.alloc (.cells xs.toArray 22)) (.slice (some ⟨w.heap.size, 0, none⟩) xs.length xs.length) ls := by
  have hb : Below w.heap.size w (w.alloc (.cells xs.toArray 22)) := (Below.refl _ _).alloc (Nat.le_refl _) _
  refine ⟨xs, ⟨some ⟨w.heap.size, 0, none⟩, xs.length, rfl, Nat.le_refl _, hm, (fun h => by cases h), .inr ⟨w.heap.size, 0, rfl, by simp, fun i u hi => ?_⟩⟩, hl, fun i hi => ?_⟩
  · rw [cell_of_row _ w.heap.size _ _ _ _ (heap_alloc_new _ _)]
    simpa using hi
  · obtain ⟨x, h1, h2⟩ := h i hi
    exact ⟨x, h1, h2.below hb⟩

/-! ### a byte's step -/
theorem xor_low (q r b : Nat) (hr : r < 256) (hb : b < 256) : (256 * q + r) ^^^ b = 256 * q + (r ^^^ b) := by
  have h1 := Nat.xor_mod_two_pow (a := 256 * q + r) (b := b) (n := 8)
  have h2 := Nat.shiftRight_xor_distrib (a := 256 * q + r) (b := b) (i := 8)
  rw [Nat.shiftRight_eq_div_pow, Nat.shiftRight_eq_div_pow, Nat.shiftRight_eq_div_pow] at h2
  rw [show (2 : Nat) ^ 8 = 256 from rfl] at h1 h2
  rw [show (256 * q + r) % 256 = r by omega, show b % 256 = b by omega] at h1
  rw [show (256 * q + r) / 256 = q by omega, show b / 256 = 0 by omega, Nat.xor_zero] at h2
  omega
theorem onB_table (m b : Nat) (hb : b < 256) : onB m b = steps 8 (m % 256 ^^^ b) ^^^ m / 256 := by
  have hz : m % 256 ^^^ b < 256 := Nat.xor_lt_two_pow (n := 8) (by omega) hb
  have h1 := xor_low (m / 256) (m % 256) b (by omega) hb
  have h2 := xor_low (m / 256) 0 (m % 256 ^^^ b) (by omega) hz
  rw [Nat.zero_xor, Nat.add_zero] at h2
  rw [show 256 * (m / 256) + m % 256 = m by omega] at h1
  unfold onB
  rw [h1, ← h2, steps_xor, steps_byte, Nat.xor_comm]
theorem table_byte (m : Nat) (c : UInt8) : bits .xor .u8 ((m : Int) % 256) (c.toNat : Int) = ((m % 256 ^^^ c.toNat : Nat) : Int) := by
  rw [show (m : Int) % 256 = ((m % 256 : Nat) : Int) by omega]
  exact u8_xor_nat _ _ (by omega) c.toNat_lt
theorem table_step (m : Nat) (c : UInt8) (hm : m < 4294967296) : bits .xor .u32 ((steps 8 (m % 256 ^^^ c.toNat) : Nat) : Int) ((m : Int) / 256) = ((onB m c.toNat : Nat) : Int) := by
  have hz : m % 256 ^^^ c.toNat < 256 := Nat.xor_lt_two_pow (n := 8) (by omega) c.toNat_lt
  rw [show (m : Int) / 256 = ((m / 256 : Nat) : Int) by omega, u32_xor_nat _ _ (steps_lt 8 (by omega)) (by omega), onB_table m _ c.toNat_lt]
theorem run_flat_take {ls : List (List UInt8)} {k : Nat} (hk : k < ls.length) : (ls.drop k).flatten = ls[k] ++ (ls.drop (k + 1)).flatten := by
  rw [List.drop_eq_getElem_cons hk, List.flatten_cons]
end Go.Proofs.Ytfnohcmoaooghaa.CR
