/-
  From the rows' readings to what the walks ask: slices of bytes and of whole numbers that came in. No condition. Arguments that are slices of entries: read as data, they lie as the codec says. No condition. From the rows' readings to what the walks ask: a slice of texts that came in. No condition. The walks of layer 11's four statements, and what reads their arguments, together. No condition.
-/
import Derived.Test.YtklngjnjnkocmaaRows
import Derived.Test.YtklngjnjnkocmaaZA1
import Derived.ProofKit
import Derived.OpenShut
import Derived.ShutString
import Derived.ChangeOld
import Derived.Test.YtklngjnjnkocmaaZA4
import Derived.Test.YtklngjnjnkocmaaZA12
import Derived.Test.YtklngjnjnkocmaaZA2
import Derived.SliceStrings
import Derived.Test.YtklngjnjnkocmaaZA50
import Derived.Test.YtklngjnjnkocmaaZA51
import Derived.Test.YtklngjnjnkocmaaZA52
set_option linter.unusedVariables false
namespace Go.Proofs.Ytklngjnjnkocmaa.MM
open Go.ChangeShapes Go.WideShapes Go.ChangeAt Go.RowKit Go.Proofs

theorem own : ownKnob Try.prog.godebug = none := by kernel_rfl
theorem laidOut : laidOutB Try.prog = true := by kernel_rfl

theorem cell_lt {w : World} {b o : Nat} {v : Value} (h : w.cell? ⟨b, o, none⟩ = some v) : b < w.heap.size := by
  by_cases hb : b < w.heap.size
  · exact hb
  · simp [World.cell?, Array.getElem?_eq_none (Nat.le_of_not_lt hb)] at h

/-- Cells behind an address read as a row. -/
theorem row_of_cells {W : World} {a : Addr} {len cap : Nat} {xs : List Value} (hl : xs.length = len) (hlc : len ≤ cap) (hcm : cap ≤ maxLen) (hc : ∀ i u, xs[i]? = some u → W.cell? (a.add i) = some u) : Row W (.slice (some a) len cap) xs := by
  subst hl
  refine ⟨some a, cap, rfl, hlc, hcm, (fun h => by cases h), ?_⟩
  cases xs with
  | nil => exact .inl rfl
  | cons x xs =>
    right
    obtain ⟨b, off, spot⟩ := a
    have hc0 := hc 0 x rfl
    have hspot : spot = none := by simpa [Addr.add] using World.cell?_spot hc0
    subst hspot
    refine ⟨b, off, rfl, cell_lt (o := off) (v := x) (by simpa [Addr.add] using hc0), fun i u hi => ?_⟩
    rw [← add_at]
    exact hc i u hi

theorem u64_of_wf {x : Int} (h : (Lit.int .u64 x).wf = true) : ∃ n : Nat, x = (n : Int) ∧ n < 18446744073709551616 := by
  simp only [Lit.wf, Bool.and_eq_true, decide_eq_true_eq] at h
  have h1 : IntKind.u64.min = 0 := by decide
  have h2 : IntKind.u64.max = 18446744073709551615 := by decide
  rw [h1, h2] at h
  exact ⟨x.toNat, by omega, by omega⟩
theorem u32_of_wf {x : Int} (h : (Lit.int .u32 x).wf = true) : ∃ n : Nat, x = (n : Int) ∧ n < 4294967296 := by
  simp only [Lit.wf, Bool.and_eq_true, decide_eq_true_eq] at h
  have h1 : IntKind.u32.min = 0 := by decide
  have h2 : IntKind.u32.max = 4294967295 := by decide
  rw [h1, h2] at h
  exact ⟨x.toNat, by omega, by omega⟩
theorem u16_of_wf {x : Int} (h : (Lit.int .u16 x).wf = true) : ∃ n : Nat, x = (n : Int) ∧ n < 65536 := by
  simp only [Lit.wf, Bool.and_eq_true, decide_eq_true_eq] at h
  have h1 : IntKind.u16.min = 0 := by decide
  have h2 : IntKind.u16.max = 65535 := by decide
  rw [h1, h2] at h
  exact ⟨x.toNat, by omega, by omega⟩
theorem u8nat_of_wf {x : Int} (h : (Lit.int .u8 x).wf = true) : ∃ n : Nat, x = (n : Int) ∧ n < 256 := by
  simp only [Lit.wf, Bool.and_eq_true, decide_eq_true_eq] at h
  have h1 : IntKind.u8.min = 0 := by decide
  have h2 : IntKind.u8.max = 255 := by decide
  rw [h1, h2] at h
  exact ⟨x.toNat, by omega, by omega⟩
theorem u8_of_wf {x : Int} (h : (Lit.int .u8 x).wf = true) : 0 ≤ x ∧ x < 256 := by
  simp only [Lit.wf, Bool.and_eq_true, decide_eq_true_eq] at h
  have h1 : IntKind.u8.min = 0 := by decide
  have h2 : IntKind.u8.max = 255 := by decide
  rw [h1, h2] at h
  omega
theorem i64_of_wf {x : Int} (h : (Lit.int .i64 x).wf = true) : -9223372036854775808 ≤ x ∧ x ≤ 9223372036854775807 := by
  simp only [Lit.wf, Bool.and_eq_true, decide_eq_true_eq] at h
  have h1 : IntKind.i64.min = -9223372036854775808 := by decide
  have h2 : IntKind.i64.max = 9223372036854775807 := by decide
  rw [h1, h2] at h
  exact h

/-- A slice of bytes that came in. -/
theorem argBytes {H : Type} {enc : TypeId × Value → H} {W : World} {base : Nat} {T e : TypeId} {a : Option Addr} {len cap : Nat} {d : DataW H} {p : List MemPlace}
    (ht : Try.prog.underlying T = some (.slice e)) (he : Try.prog.underlying e = some (.int .u8)) (hc : Try.prog.cellsOf e = 1)
    (h : ∃ fuel, DataW.trod enc Try.prog W base (fun _ => true) true fuel T (Value.slice a len cap).cells.toList = some (d, p)) : ∃ l, BRow W (.slice a len cap) l := by
  obtain ⟨fuel, hf⟩ := h
  rcases open_ints ht he hc hf with ⟨hcs, _⟩ | ⟨x, n, c, zs, hcs, _, hl, hm, hz, _, hcell, hwz⟩
  · simp [Value.cells] at hcs
    obtain ⟨rfl, rfl, rfl⟩ := hcs
    exact ⟨[], BRow.nil_ W⟩
  · simp [Value.cells] at hcs
    obtain ⟨rfl, rfl, rfl⟩ := hcs
    have hzl : zs.length = cap := by simpa using hz
    refine ⟨(zs.take len).map (fun z => UInt8.ofNat z.toNat), row_of_cells (by rw [byteCells_len, List.length_map, List.length_take]; omega) hl hm (fun i u hi => ?_)⟩
    have hi2 : i < len := by
      have := (List.getElem?_eq_some_iff.1 hi).1
      rw [byteCells_len, List.length_map, List.length_take] at this
      omega
    have hlt : i < zs.length := by omega
    have hb := u8_of_wf (hwz zs[i] (List.getElem_mem hlt))
    have hu : u = .int .u8 (zs[i]) := by
      have hg := hi
      simp only [Lib.byteCells, List.getElem?_map, List.getElem?_take, if_pos hi2, List.getElem?_eq_getElem hlt, Option.map_some, Option.some.injEq] at hg
      rw [← hg]
      refine congrArg (Value.int .u8) ?_
      rw [UInt8.toNat_ofNat']
      omega
    rw [hu, hcell i hlt]
    simp [List.getD, hlt]
end Go.Proofs.Ytklngjnjnkocmaa.MM
set_option linter.unusedVariables false
namespace Go.Proofs.Ytklngjnjnkocmaa.DT
open Go Go.RowKit Go.Proofs.Ytklngjnjnkocmaa.MM Go.Proofs.Ytklngjnjnkocmaa.DM

def FitX (x : Ent) : Prop := x.1.length ≤ maxLen ∧ FitI x.2.1 ∧ FitI x.2.2.1 ∧ FitI x.2.2.2
theorem reads_ent : Reads Try.prog entC FitX 42 := by
  refine reads_struct (C := entC) Try.underlying42 (by kernel_rfl) ?_
  apply readsFs_cons (P := Try.prog) (C := cStr) (D := cPair cInt (cPair cInt cInt)) (G := fun l => l.length ≤ maxLen) (F := fun p => FitI p.1 ∧ FitI p.2.1 ∧ FitI p.2.2)
  · rfl
  · kernel_rfl
  · exact reads_str Try.underlying9
  apply readsFs_cons (P := Try.prog) (C := cInt) (D := cPair cInt cInt) (G := FitI) (F := fun p => FitI p.1 ∧ FitI p.2)
  · rfl
  · kernel_rfl
  · exact reads_int Try.underlying3
  apply readsFs_cons (P := Try.prog) (C := cInt) (D := cInt) (G := FitI) (F := FitI)
  · rfl
  · kernel_rfl
  · exact reads_int Try.underlying3
  apply readsFs_one (P := Try.prog) (C := cInt) (G := FitI)
  · rfl
  · kernel_rfl
  · exact reads_int Try.underlying3
instance : Inhabited Ent := ⟨nilX⟩
theorem reads_ents : Reads Try.prog (cRow entC) (fun l => (∀ a ∈ l, FitX a) ∧ l.length ≤ maxLen) 22 := reads_row Try.underlying22 (by kernel_rfl) reads_ent
end Go.Proofs.Ytklngjnjnkocmaa.DT
set_option linter.unusedVariables false
namespace Go.Proofs.Ytklngjnjnkocmaa.MM
open Go.ChangeShapes Go.WideShapes Go.ChangeAt Go.RowKit Go.Proofs

theorem cellsStr : Try.prog.cellsOf 9 = 1 := by kernel_rfl
/-- A slice of texts that came in. -/
theorem argStrs {H : Type} {enc : TypeId × Value → H} {W : World} {base : Nat} {a : Option Addr} {len cap : Nat} {d : DataW H} {p : List MemPlace}
    (h : ∃ fuel, DataW.trod enc Try.prog W base (fun _ => true) true fuel 40 (Value.slice a len cap).cells.toList = some (d, p)) : ∃ ss, TRow W (.slice a len cap) ss := by
  obtain ⟨fuel, hf⟩ := h
  rcases open_strings Try.underlying40 Try.underlying9 cellsStr hf with ⟨hcs, _⟩ | ⟨x, n, c, ss, hcs, _, hl, hm, hz, _, hcell, _⟩
  · simp [Value.cells] at hcs
    obtain ⟨rfl, rfl, rfl⟩ := hcs
    exact ⟨[], TRow.nil_ W⟩
  · simp [Value.cells] at hcs
    obtain ⟨rfl, rfl, rfl⟩ := hcs
    have hzl : ss.length = cap := by simpa using hz
    refine ⟨(ss.take len).map (fun s => s.data.toList), row_of_cells (by rw [List.length_map, List.length_map, List.length_take]; omega) hl hm (fun i u hi => ?_)⟩
    have hi2 : i < len := by
      have := (List.getElem?_eq_some_iff.1 hi).1
      rw [List.length_map, List.length_map, List.length_take] at this
      omega
    have hlt : i < ss.length := by omega
    have hu : u = .string (ss[i]) := by
      have hg := hi
      simp only [List.getElem?_map, List.getElem?_take, if_pos hi2, List.getElem?_eq_getElem hlt, Option.map_some, Option.some.injEq] at hg
      rw [← hg]
      rfl
    rw [hu, hcell i hlt]
    simp [List.getD, hlt]
end Go.Proofs.Ytklngjnjnkocmaa.MM
namespace Go.Proofs.Ytklngjnjnkocmaa.DT
end Go.Proofs.Ytklngjnjnkocmaa.DT
