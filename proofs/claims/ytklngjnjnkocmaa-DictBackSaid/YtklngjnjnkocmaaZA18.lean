/-
  A block of four cells that is written; named results of which the first is such a block. No program of its own; no condition.
-/
import Derived.Test.YtklngjnjnkocmaaZA2
set_option linter.unusedVariables false
namespace Go.Proofs.Ytklngjnjnkocmaa.MM
open Go Go.RowKit

/-- Four cells. -/
def Four (w : World) (g : Nat) (t : TypeId) (a b c d : Value) : Prop := w.heap[g]? = some (.cells #[a, b, c, d] t (0, 0))
section
variable {w w' : World} {g : Nat} {t : TypeId} {a b c d : Value}
theorem Four.lt (h : Four w g t a b c d) : g < w.heap.size := (Array.getElem?_eq_some_iff.1 h).1
theorem Four.c0 (h : Four w g t a b c d) : w.cell? ⟨g, 0, none⟩ = some a := by rw [cell_of_row w g 0 _ _ _ h]; rfl
theorem Four.c1 (h : Four w g t a b c d) : w.cell? ⟨g, 1, none⟩ = some b := by rw [cell_of_row w g 1 _ _ _ h]; rfl
theorem Four.c2 (h : Four w g t a b c d) : w.cell? ⟨g, 2, none⟩ = some c := by rw [cell_of_row w g 2 _ _ _ h]; rfl
theorem Four.c3 (h : Four w g t a b c d) : w.cell? ⟨g, 3, none⟩ = some d := by rw [cell_of_row w g 3 _ _ _ h]; rfl
theorem Four.fr (h : Four w g t a b c d) (i : Nat) : w.frozen? ⟨g, i, none⟩ = false := frozen_of_row w g i _ _ h
theorem Four.s0 (h : Four w g t a b c d) (x : Value) : Four (w.setCell ⟨g, 0, none⟩ x) g t x b c d := heap_setCell_same w g 0 _ _ x h
theorem Four.s1 (h : Four w g t a b c d) (x : Value) : Four (w.setCell ⟨g, 1, none⟩ x) g t a x c d := heap_setCell_same w g 1 _ _ x h
theorem Four.s2 (h : Four w g t a b c d) (x : Value) : Four (w.setCell ⟨g, 2, none⟩ x) g t a b x d := heap_setCell_same w g 2 _ _ x h
theorem Four.s3 (h : Four w g t a b c d) (x : Value) : Four (w.setCell ⟨g, 3, none⟩ x) g t a b c x := heap_setCell_same w g 3 _ _ x h
/-- The world behind a store of all four. -/
def set4 (w : World) (g : Nat) (x y z u : Value) : World := (((w.setCell ⟨g, 0, none⟩ x).setCell ⟨g, 1, none⟩ y).setCell ⟨g, 2, none⟩ z).setCell ⟨g, 3, none⟩ u
theorem Four.set (h : Four w g t a b c d) (x y z u : Value) : Four (set4 w g x y z u) g t x y z u := (((h.s0 x).s1 y).s2 z).s3 u
theorem Four.keep {S : Nat → Prop} (h : Four w g t a b c d) (hk : Kep S w w') (hS : S g) : Four w' g t a b c d := (hk.block g h.lt hS).trans h
theorem Four.below {B : Nat} (h : Four w g t a b c d) (hb : Below B w w') (hg : g < B) : Four w' g t a b c d := (hb.block g hg).trans h
theorem four_new (w : World) (t : TypeId) (a b c d : Value) : Four (w.alloc (.cells #[a, b, c, d] t)) w.heap.size t a b c d := heap_alloc_new _ _
/-- What the walk asks of a block of four cells that is read. -/
theorem Four.cells (h : Four w g t a b c d) : w.cell? ⟨g, 0, none⟩ = some a ∧ w.cell? ⟨g, 1, none⟩ = some b ∧ w.cell? ⟨g, 2, none⟩ = some c ∧ w.cell? ⟨g, 3, none⟩ = some d := ⟨h.c0, h.c1, h.c2, h.c3⟩
/-- .. that is written, cell by cell. -/
theorem Four.all (h : Four w g t a b c d) (x y z : Value) :
    w.frozen? ⟨g, 0, none⟩ = false ∧ w.frozen? ⟨g, 1, none⟩ = false ∧ w.frozen? ⟨g, 2, none⟩ = false ∧ w.frozen? ⟨g, 3, none⟩ = false ∧
    ((w.setCell ⟨g, 0, none⟩ x).cell? ⟨g, 1, none⟩ = some b ∧ (w.setCell ⟨g, 0, none⟩ x).frozen? ⟨g, 1, none⟩ = false) ∧
    (((w.setCell ⟨g, 0, none⟩ x).setCell ⟨g, 1, none⟩ y).cell? ⟨g, 2, none⟩ = some c ∧ ((w.setCell ⟨g, 0, none⟩ x).setCell ⟨g, 1, none⟩ y).frozen? ⟨g, 2, none⟩ = false) ∧
    ((((w.setCell ⟨g, 0, none⟩ x).setCell ⟨g, 1, none⟩ y).setCell ⟨g, 2, none⟩ z).cell? ⟨g, 3, none⟩ = some d ∧ (((w.setCell ⟨g, 0, none⟩ x).setCell ⟨g, 1, none⟩ y).setCell ⟨g, 2, none⟩ z).frozen? ⟨g, 3, none⟩ = false) :=
  ⟨h.fr 0, h.fr 1, h.fr 2, h.fr 3, ⟨(h.s0 x).c1, (h.s0 x).fr 1⟩, ⟨((h.s0 x).s1 y).c2, ((h.s0 x).s1 y).fr 2⟩, ⟨(((h.s0 x).s1 y).s2 z).c3, (((h.s0 x).s1 y).s2 z).fr 3⟩⟩
theorem kep_set4 {g : Nat} (x y z u : Value) : Kep (fun b => b ≠ g) w (set4 w g x y z u) :=
  (((kep_set (fun h => h rfl) x).trans (kep_set (fun h => h rfl) y)).trans (kep_set (fun h => h rfl) z)).trans (kep_set (fun h => h rfl) u)
end

section
variable {P : Program} {fn : Func} {t : TypeId} {ty : TypeDesc}
theorem results_four1 {p : Tmp} (h : fn.results = #[.cell p t]) (hu : P.underlying t = some ty) (hd : (match ty with | .struct _ | .array _ _ => true | _ => false) = true) (hi : (P.info? t).map (·.size) = some 4) (tmps : Array Value) (w : World) (g : Nat) (a b c d : Value)
    (hp : tmps.getD p undef = .pointer (some ⟨g, 0, none⟩)) (hg : Four w g t a b c d) : (results fn tmps).run P w = .ok (.agg #[a, b, c, d]) w := by
  have hp' : tmps[p]?.getD undef = .pointer (some ⟨g, 0, none⟩) := by simpa using hp
  have hl := run_loadVar_row (P := P) w g t t _ (0, 0) ty hg hu hd hi
  simp [results, h, hp', asAddr, hl]
theorem results_four2 {p u : Tmp} (h : fn.results = #[.cell p t, .tmp u]) (hu : P.underlying t = some ty) (hd : (match ty with | .struct _ | .array _ _ => true | _ => false) = true) (hi : (P.info? t).map (·.size) = some 4) (tmps : Array Value) (w : World) (g : Nat) (a b c d : Value)
    (hp : tmps.getD p undef = .pointer (some ⟨g, 0, none⟩)) (hg : Four w g t a b c d) : (results fn tmps).run P w = .ok (.tuple #[.agg #[a, b, c, d], tmps.getD u undef]) w := by
  have hp' : tmps[p]?.getD undef = .pointer (some ⟨g, 0, none⟩) := by simpa using hp
  have hl := run_loadVar_row (P := P) w g t t _ (0, 0) ty hg hu hd hi
  simp [results, h, hp', asAddr, hl]
theorem results_four3 {p u v : Tmp} (h : fn.results = #[.cell p t, .tmp u, .tmp v]) (hu : P.underlying t = some ty) (hd : (match ty with | .struct _ | .array _ _ => true | _ => false) = true) (hi : (P.info? t).map (·.size) = some 4) (tmps : Array Value) (w : World) (g : Nat) (a b c d : Value)
    (hp : tmps.getD p undef = .pointer (some ⟨g, 0, none⟩)) (hg : Four w g t a b c d) : (results fn tmps).run P w = .ok (.tuple #[.agg #[a, b, c, d], tmps.getD u undef, tmps.getD v undef]) w := by
  have hp' : tmps[p]?.getD undef = .pointer (some ⟨g, 0, none⟩) := by simpa using hp
  have hl := run_loadVar_row (P := P) w g t t _ (0, 0) ty hg hu hd hi
  simp [results, h, hp', asAddr, hl]
end
end Go.Proofs.Ytklngjnjnkocmaa.MM
