/-
  A block of two cells that is written; named results of which the first is such a block. No program of its own; no condition. bytes.Clone. Condition: fewer than 10^12 bytes.
-/
import Derived.Test.YthgfaadlnffpcaaZA2
import Derived.Test.YthgfaadlnffpcaaZA13
import Derived.Lib.SliceRun
set_option linter.unusedVariables false
namespace Go.Proofs.Ythgfaadlnffpcaa.MM
open Go Go.RowKit

/-- Two cells. -/
def Two (w : World) (g : Nat) (t : TypeId) (a b : Value) : Prop := w.heap[g]? = some (.cells #[a, b] t (0, 0))
theorem Two.lt {w : World} {g : Nat} {t : TypeId} {a b : Value} (h : Two w g t a b) : g < w.heap.size := (Array.getElem?_eq_some_iff.1 h).1
theorem Two.c0 {w : World} {g : Nat} {t : TypeId} {a b : Value} (h : Two w g t a b) : w.cell? ⟨g, 0, none⟩ = some a := by rw [cell_of_row w g 0 _ _ _ h]; rfl
theorem Two.c1 {w : World} {g : Nat} {t : TypeId} {a b : Value} (h : Two w g t a b) : w.cell? ⟨g, 1, none⟩ = some b := by rw [cell_of_row w g 1 _ _ _ h]; rfl
theorem Two.f0 {w : World} {g : Nat} {t : TypeId} {a b : Value} (h : Two w g t a b) : w.frozen? ⟨g, 0, none⟩ = false := frozen_of_row w g 0 _ _ h
theorem Two.f1 {w : World} {g : Nat} {t : TypeId} {a b : Value} (h : Two w g t a b) : w.frozen? ⟨g, 1, none⟩ = false := frozen_of_row w g 1 _ _ h
theorem Two.s0 {w : World} {g : Nat} {t : TypeId} {a b : Value} (h : Two w g t a b) (x : Value) : Two (w.setCell ⟨g, 0, none⟩ x) g t x b := heap_setCell_same w g 0 _ _ x h
theorem Two.s1 {w : World} {g : Nat} {t : TypeId} {a b : Value} (h : Two w g t a b) (x : Value) : Two (w.setCell ⟨g, 1, none⟩ x) g t a x := heap_setCell_same w g 1 _ _ x h
theorem Two.s01 {w : World} {g : Nat} {t : TypeId} {a b : Value} (h : Two w g t a b) (x y : Value) : Two ((w.setCell ⟨g, 0, none⟩ x).setCell ⟨g, 1, none⟩ y) g t x y := (h.s0 x).s1 y
theorem Two.keep {S : Nat → Prop} {w w' : World} {g : Nat} {t : TypeId} {a b : Value} (h : Two w g t a b) (hk : Kep S w w') (hS : S g) : Two w' g t a b := (hk.block g h.lt hS).trans h
theorem Two.below {B : Nat} {w w' : World} {g : Nat} {t : TypeId} {a b : Value} (h : Two w g t a b) (hb : Below B w w') (hg : g < B) : Two w' g t a b := (hb.block g hg).trans h
theorem two_new (w : World) (t : TypeId) (a b : Value) : Two (w.alloc (.cells #[a, b] t)) w.heap.size t a b := heap_alloc_new _ _
/-- What the walk asks of a block of two cells that is written: first the first, then the second. -/
theorem Two.all {w : World} {g : Nat} {t : TypeId} {a b : Value} (h : Two w g t a b) (x : Value) :
    w.cell? ⟨g, 0, none⟩ = some a ∧ w.cell? ⟨g, 1, none⟩ = some b ∧ w.frozen? ⟨g, 0, none⟩ = false ∧ w.frozen? ⟨g, 1, none⟩ = false ∧ (w.setCell ⟨g, 0, none⟩ x).cell? ⟨g, 1, none⟩ = some b ∧ (w.setCell ⟨g, 0, none⟩ x).frozen? ⟨g, 1, none⟩ = false :=
  ⟨h.c0, h.c1, h.f0, h.f1, (h.s0 x).c1, (h.s0 x).f1⟩
theorem kep_set0 {w : World} {g i : Nat} (x : Value) : Kep (fun b => b ≠ g) w (w.setCell ⟨g, i, none⟩ x) := kep_set (fun h => h rfl) x
theorem kep_set01 {w : World} {g : Nat} (x y : Value) : Kep (fun b => b ≠ g) w ((w.setCell ⟨g, 0, none⟩ x).setCell ⟨g, 1, none⟩ y) := (kep_set0 x).trans (kep_set0 y)

section
variable {P : Program} {fn : Func} {t : TypeId} {d : TypeDesc}
theorem results_box1 {p : Tmp} (h : fn.results = #[.cell p t]) (hu : P.underlying t = some d) (hd : (match d with | .struct _ | .array _ _ => true | _ => false) = true) (hi : (P.info? t).map (·.size) = some 2) (tmps : Array Value) (w : World) (g : Nat) (a b : Value)
    (hp : tmps.getD p undef = .pointer (some ⟨g, 0, none⟩)) (hg : Two w g t a b) : (results fn tmps).run P w = .ok (.agg #[a, b]) w := by
  have hp' : tmps[p]?.getD undef = .pointer (some ⟨g, 0, none⟩) := by simpa using hp
  have hl := run_loadVar_row (P := P) w g t t _ (0, 0) d hg hu hd hi
  simp [results, h, hp', asAddr, hl]
theorem results_box2 {p u : Tmp} (h : fn.results = #[.cell p t, .tmp u]) (hu : P.underlying t = some d) (hd : (match d with | .struct _ | .array _ _ => true | _ => false) = true) (hi : (P.info? t).map (·.size) = some 2) (tmps : Array Value) (w : World) (g : Nat) (a b : Value)
    (hp : tmps.getD p undef = .pointer (some ⟨g, 0, none⟩)) (hg : Two w g t a b) : (results fn tmps).run P w = .ok (.tuple #[.agg #[a, b], tmps.getD u undef]) w := by
  have hp' : tmps[p]?.getD undef = .pointer (some ⟨g, 0, none⟩) := by simpa using hp
  have hl := run_loadVar_row (P := P) w g t t _ (0, 0) d hg hu hd hi
  simp [results, h, hp', asAddr, hl]
theorem results_box3 {p u v : Tmp} (h : fn.results = #[.cell p t, .tmp u, .tmp v]) (hu : P.underlying t = some d) (hd : (match d with | .struct _ | .array _ _ => true | _ => false) = true) (hi : (P.info? t).map (·.size) = some 2) (tmps : Array Value) (w : World) (g : Nat) (a b : Value)
    (hp : tmps.getD p undef = .pointer (some ⟨g, 0, none⟩)) (hg : Two w g t a b) : (results fn tmps).run P w = .ok (.tuple #[.agg #[a, b], tmps.getD u undef, tmps.getD v undef]) w := by
  have hp' : tmps[p]?.getD undef = .pointer (some ⟨g, 0, none⟩) := by simpa using hp
  have hl := run_loadVar_row (P := P) w g t t _ (0, 0) d hg hu hd hi
  simp [results, h, hp', asAddr, hl]
end
end Go.Proofs.Ythgfaadlnffpcaa.MM
set_option linter.unusedVariables false
namespace Go.Proofs.Ythgfaadlnffpcaa.MM
open Go.RowKit Go.Proofs.Ythgfaadlnffpcaa.VP

theorem own_empty1 (w : World) (B : Nat) (hB : B ≤ w.heap.size) : OwnB B (w.alloc (.cells #[] 5)) (.slice (some ⟨w.heap.size, 0, none⟩) 0 0) [] := own_lit w [] 5 B hB (by unfold maxLen; simp)
set_option maxRecDepth 100000 in
theorem bclone_any (v : Value) (l : List UInt8) (w : World) (h : BRow w v l) (hl : l.length ≤ 1000000000000) : Calls Try.prog 86 #[v] w (PutLeft w.heap.size l w) := by
  obtain ⟨p, cap, rfl, hlc, _⟩ := h.shape
  have hq := fun (w : World) (a : Option Addr) (n c : Nat) => Lib.run_eql_slice_nil (P := Try.prog) w 29 5 a n c 0 0 Try.underlying29
  cases p with
  | none =>
    have hl0 : l = [] := by
      obtain ⟨p', cap', hv, h1, h2, h3, h4⟩ := h
      simp only [Value.slice.injEq] at hv
      obtain ⟨rfl, hv2, hv3⟩ := hv
      have := h3 rfl
      exact List.eq_nil_of_length_eq_zero (by omega)
    subst hl0
    have HF := Lib.hid (show PutLeft w.heap.size [] w (.returned (.slice none 0 0)) w from ⟨_, rfl, World.ownsRow_nil _ _ _ _, Below.refl _ _⟩)
    clear h
    go_enter Try.func86, Try.ntmps86
    go_wp2_with fail
    go_ret
    exact HF.out
  | some a =>
    have HO := Lib.hid (own_empty1 w w.heap.size (Nat.le_refl _))
    have HR := Lib.hid (fun o => BRow.below h ((Below.refl w.heap.size w).alloc (Nat.le_refl _) o))
    have HB := Lib.hid (fun o => (Below.refl w.heap.size w).alloc (Nat.le_refl _) o)
    clear h
    go_enter Try.func86, Try.ntmps86
    go_wp2_with (at_builtin; go_loud (refine wpList_append_bytes rfl _ _ rfl w.heap.size _ [] rfl HO.out _ l rfl (HR.out _) (by simp; omega) (by simp) ?_))
    intro v1 w1 hown hb
    have HF := Lib.hid (show PutLeft w.heap.size l w (.returned v1) w1 from ⟨_, rfl, hown, (HB.out _).trans hb⟩)
    clear hown hb
    go_wp2_with fail
    go_ret
    exact HF.out

end Go.Proofs.Ythgfaadlnffpcaa.MM
