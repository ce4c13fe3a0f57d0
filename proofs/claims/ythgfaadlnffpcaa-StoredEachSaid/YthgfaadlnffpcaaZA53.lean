/-
  From the rows' readings to what the walks ask: slices of bytes and of whole numbers that came in. No condition. From the rows' readings to codecs: what is read as data of a type lies as the type's codec says. No program; no condition. Arguments that are events, batches: read as data, they lie as the codecs say. No condition. Arguments that are rows of docs: read as data, they lie as the codec says; their times are such that an int holds. No condition. From the rows' readings to what the walks ask: slices of whole numbers that came in. No condition. The contracts that layer 12's statements ask of the code's functions, paid. No program's proof of its own. The walks of layer 12's five statements, and what reads their arguments, together. No condition.
-/
import Derived.Test.YthgfaadlnffpcaaRows
import Derived.Test.YthgfaadlnffpcaaZA1
import Derived.ProofKit
import Derived.OpenShut
import Derived.ShutString
import Derived.ChangeOld
import Derived.Test.YthgfaadlnffpcaaZA3
import Derived.ChangeArms
import Derived.ChangeSame
import Derived.Deep.Slices
import Derived.Test.YthgfaadlnffpcaaZA12
import Derived.Test.YthgfaadlnffpcaaZA11
import Derived.Test.YthgfaadlnffpcaaZA46
import Derived.Test.YthgfaadlnffpcaaZA50
import Derived.Test.YthgfaadlnffpcaaZA35
import Derived.Test.YthgfaadlnffpcaaZA52
set_option linter.unusedVariables false
namespace Go.Proofs.Ythgfaadlnffpcaa.MM
open Go.ChangeShapes Go.WideShapes Go.ChangeAt Go.RowKit Go.Proofs

theorem own : ownKnob Try.prog.godebug = none := by kernel_rfl
theorem laidOut : laidOutB Try.prog = true := by kernel_rfl

theorem cell_lt {w : World} {b o : Nat} {v : Value} (h : w.cell? ⟨b, o, none⟩ = some v) : b < w.heap.size := by
  by_cases hb : b < w.heap.size
  · exact hb
  · simp [World.cell?, Array.getElem?_eq_none (Nat.le_of_not_lt hb)] at h

/-- Cells behind an address read as a row. -/
theorem row_of_cells {W : World} {a : Addr} {len cap : Nat} {xs : List Value} (hl : xs.length = len) (hlc : len ≤ cap) (hcm : cap ≤ maxLen) (hc : ∀ i u, xs[i]? = some u → W.cell? (a.add i) = some u) : Row W (.slice (some a) len cap) xs := by
  subst hl
  refine ⟨some a, cap, rfl, hlc, hcm, (fun h => by cases h), ?_⟩
  cases xs with
  | nil => exact .inl rfl
  | cons x xs =>
    right
    obtain ⟨b, off, spot⟩ := a
    have hc0 := hc 0 x rfl
    have hspot : spot = none := by simpa [Addr.add] using World.cell?_spot hc0
    subst hspot
    refine ⟨b, off, rfl, cell_lt (o := off) (v := x) (by simpa [Addr.add] using hc0), fun i u hi => ?_⟩
    rw [← add_at]
    exact hc i u hi

theorem u64_of_wf {x : Int} (h : (Lit.int .u64 x).wf = true) : ∃ n : Nat, x = (n : Int) ∧ n < 18446744073709551616 := by
  simp only [Lit.wf, Bool.and_eq_true, decide_eq_true_eq] at h
  have h1 : IntKind.u64.min = 0 := by decide
  have h2 : IntKind.u64.max = 18446744073709551615 := by decide
  rw [h1, h2] at h
  exact ⟨x.toNat, by omega, by omega⟩
theorem u32_of_wf {x : Int} (h : (Lit.int .u32 x).wf = true) : ∃ n : Nat, x = (n : Int) ∧ n < 4294967296 := by
  simp only [Lit.wf, Bool.and_eq_true, decide_eq_true_eq] at h
  have h1 : IntKind.u32.min = 0 := by decide
  have h2 : IntKind.u32.max = 4294967295 := by decide
  rw [h1, h2] at h
  exact ⟨x.toNat, by omega, by omega⟩
theorem u16_of_wf {x : Int} (h : (Lit.int .u16 x).wf = true) : ∃ n : Nat, x = (n : Int) ∧ n < 65536 := by
  simp only [Lit.wf, Bool.and_eq_true, decide_eq_true_eq] at h
  have h1 : IntKind.u16.min = 0 := by decide
  have h2 : IntKind.u16.max = 65535 := by decide
  rw [h1, h2] at h
  exact ⟨x.toNat, by omega, by omega⟩
theorem u8nat_of_wf {x : Int} (h : (Lit.int .u8 x).wf = true) : ∃ n : Nat, x = (n : Int) ∧ n < 256 := by
  simp only [Lit.wf, Bool.and_eq_true, decide_eq_true_eq] at h
  have h1 : IntKind.u8.min = 0 := by decide
  have h2 : IntKind.u8.max = 255 := by decide
  rw [h1, h2] at h
  exact ⟨x.toNat, by omega, by omega⟩
theorem u8_of_wf {x : Int} (h : (Lit.int .u8 x).wf = true) : 0 ≤ x ∧ x < 256 := by
  simp only [Lit.wf, Bool.and_eq_true, decide_eq_true_eq] at h
  have h1 : IntKind.u8.min = 0 := by decide
  have h2 : IntKind.u8.max = 255 := by decide
  rw [h1, h2] at h
  omega
theorem i64_of_wf {x : Int} (h : (Lit.int .i64 x).wf = true) : -9223372036854775808 ≤ x ∧ x ≤ 9223372036854775807 := by
  simp only [Lit.wf, Bool.and_eq_true, decide_eq_true_eq] at h
  have h1 : IntKind.i64.min = -9223372036854775808 := by decide
  have h2 : IntKind.i64.max = 9223372036854775807 := by decide
  rw [h1, h2] at h
  exact h

/-- A slice of bytes that came in. -/
theorem argBytes {H : Type} {enc : TypeId × Value → H} {W : World} {base : Nat} {T e : TypeId} {a : Option Addr} {len cap : Nat} {d : DataW H} {p : List MemPlace}
    (ht : Try.prog.underlying T = some (.slice e)) (he : Try.prog.underlying e = some (.int .u8)) (hc : Try.prog.cellsOf e = 1)
    (h : ∃ fuel, DataW.trod enc Try.prog W base (fun _ => true) true fuel T (Value.slice a len cap).cells.toList = some (d, p)) : ∃ l, BRow W (.slice a len cap) l := by
  obtain ⟨fuel, hf⟩ := h
  rcases open_ints ht he hc hf with ⟨hcs, _⟩ | ⟨x, n, c, zs, hcs, _, hl, hm, hz, _, hcell, hwz⟩
  · simp [Value.cells] at hcs
    obtain ⟨rfl, rfl, rfl⟩ := hcs
    exact ⟨[], BRow.nil_ W⟩
  · simp [Value.cells] at hcs
    obtain ⟨rfl, rfl, rfl⟩ := hcs
    have hzl : zs.length = cap := by simpa using hz
    refine ⟨(zs.take len).map (fun z => UInt8.ofNat z.toNat), row_of_cells (by rw [byteCells_len, List.length_map, List.length_take]; omega) hl hm (fun i u hi => ?_)⟩
    have hi2 : i < len := by
      have := (List.getElem?_eq_some_iff.1 hi).1
      rw [byteCells_len, List.length_map, List.length_take] at this
      omega
    have hlt : i < zs.length := by omega
    have hb := u8_of_wf (hwz zs[i] (List.getElem_mem hlt))
    have hu : u = .int .u8 (zs[i]) := by
      have hg := hi
      simp only [Lib.byteCells, List.getElem?_map, List.getElem?_take, if_pos hi2, List.getElem?_eq_getElem hlt, Option.map_some, Option.some.injEq] at hg
      rw [← hg]
      refine congrArg (Value.int .u8) ?_
      rw [UInt8.toNat_ofNat']
      omega
    rw [hu, hcell i hlt]
    simp [List.getD, hlt]
end Go.Proofs.Ythgfaadlnffpcaa.MM
set_option linter.unusedVariables false
namespace Go.Proofs.Ythgfaadlnffpcaa.MM
open Go Go.RowKit Go.ChangeShapes Go.WideShapes

/-- What is read as data of type t lies as C says, and G holds of it. -/
def Reads (P : Program) {α : Type} (C : Codec α) (G : α → Prop) (t : TypeId) : Prop :=
  ∀ {H : Type} {enc : TypeId × Value → H} {W : World} {base n : Nat} {cs : List Value} {x : DataW H × List MemPlace}, DataW.trod enc P W base (fun _ => true) true n t cs = some x → ∃ a, C.on (fun _ => True) W cs a ∧ G a
def FitI (z : Int) : Prop := -9223372036854775808 ≤ z ∧ z ≤ 9223372036854775807
theorem reads_int {P : Program} {t : TypeId} (ht : P.underlying t = some (.int .i64)) : Reads P cInt FitI t := fun h => by
  obtain ⟨z, rfl, _, hw⟩ := DataW.trod_int ht h
  refine ⟨z, rfl, ?_⟩
  simp only [Lit.wf, Bool.and_eq_true, decide_eq_true_eq] at hw
  have h1 : IntKind.i64.min = -9223372036854775808 := by decide
  have h2 : IntKind.i64.max = 9223372036854775807 := by decide
  rw [h1, h2] at hw
  exact hw
theorem reads_bool {P : Program} {t : TypeId} (ht : P.underlying t = some .bool) : Reads P cBool (fun _ => True) t := fun h => by
  obtain ⟨b, rfl, _⟩ := DataW.trod_bool ht h
  exact ⟨b, rfl, trivial⟩
theorem reads_u8 {P : Program} {t : TypeId} (ht : P.underlying t = some (.int .u8)) : Reads P cU8 (fun _ => True) t := fun h => by
  obtain ⟨z, rfl, _, hw⟩ := DataW.trod_int ht h
  simp only [Lit.wf, Bool.and_eq_true, decide_eq_true_eq] at hw
  have h1 : IntKind.u8.min = 0 := by decide
  have h2 : IntKind.u8.max = 255 := by decide
  rw [h1, h2] at hw
  refine ⟨UInt8.ofNat z.toNat, ?_, trivial⟩
  show [Value.int .u8 z] = [.int .u8 ((UInt8.ofNat z.toNat).toNat : Int)]
  rw [UInt8.toNat_ofNat']
  congr 2
  omega
theorem reads_str {P : Program} {t : TypeId} (ht : P.underlying t = some .string) : Reads P cStr (fun l => l.length ≤ maxLen) t := fun h => by
  obtain ⟨s, rfl, _, hs⟩ := DataW.trod_string ht h
  exact ⟨s.data.toList, rfl, by simpa using hs⟩
/-- A slice. -/
theorem reads_row {P : Program} {α : Type} [Inhabited α] {C : Codec α} {G : α → Prop} {T e : TypeId} (ht : P.underlying T = some (.slice e)) (hc : P.cellsOf e = C.size) (he : Reads P C G e) : Reads P (cRow C) (fun l => (∀ a ∈ l, G a) ∧ l.length ≤ maxLen) T := fun {H enc W base n cs x} h => by
  rcases Deep.open_slice ht h with ⟨rfl, _⟩ | ⟨a, len, cap, m, k, D, Pl, rfl, _, hl, hm, hmm, _, hx⟩
  · exact ⟨[], ⟨_, rfl, ROn.nil_ _ _⟩, by simp, by simp [maxLen]⟩
  · simp only [if_true] at hmm
    subst hmm
    have each : ∀ i, i < len → ∃ q : α × List Value, W.cells? base (a.add (i * C.size)) C.size = some q.2 ∧ C.on (fun _ => True) W q.2 q.1 ∧ G q.1 := fun i hi => by
      obtain ⟨cs', h1, h2⟩ := hx i (by omega)
      obtain ⟨d, h3, h4⟩ := he h2
      rw [hc] at h1
      exact ⟨(d, cs'), h1, h3, h4⟩
    obtain ⟨q, hq⟩ := Deep.choose_lt each
    refine ⟨(List.range len).map fun i => (q i).1, ⟨_, rfl, some a, m, (List.range len).map fun i => (q i).2, by simp, by simpa using hl, hm, (fun h => by cases h), ⟨by simp, fun i hi hi' => ?_⟩, ?_⟩, fun d hd => ?_, by simp; omega⟩
    · have hi2 : i < len := by simpa using hi
      simp only [List.getElem_map, List.getElem_range]
      exact (hq i hi2).2.1
    · by_cases h0 : len = 0
      · left; simp [h0]
      · right
        have hlens : ∀ r ∈ (List.range len).map (fun i => (q i).2), r.length = C.size := fun r hr => by
          obtain ⟨i, hi, rfl⟩ := List.mem_map.1 hr
          exact C.len (hq i (List.mem_range.1 hi)).2.1
        have cell : ∀ i, i < len → ∀ j u, (q i).2[j]? = some u → W.cell? ((a.add (i * C.size)).add j) = some u := fun i hi j u hj => by
          obtain ⟨_, hlen, hcell⟩ := World.cells?_some (hq i hi).1
          have hjl := (List.getElem?_eq_some_iff.1 hj).1
          have := hcell j (by omega)
          rw [this]
          simpa using hj
        have hp := C.pos
        have hl0 := C.len (hq 0 (by omega)).2.1
        obtain ⟨u0, hu0⟩ : ∃ u, (q 0).2[0]? = some u := ⟨_, List.getElem?_eq_getElem (by omega)⟩
        have c0 := cell 0 (by omega) 0 u0 hu0
        obtain ⟨b, off, spot⟩ := a
        have hspot : spot = none := by
          have := World.cell?_spot c0
          simpa [Addr.add] using this
        subst hspot
        refine ⟨b, off, rfl, ?_, trivial, fun j u hj => ?_⟩
        · rw [add_at, add_at] at c0
          by_cases hb : b < W.heap.size
          · exact hb
          · simp [World.cell?, Array.getElem?_eq_none (Nat.le_of_not_lt hb)] at c0
        · have hjl := (List.getElem?_eq_some_iff.1 hj).1
          rw [flat_len hlens, List.length_map, List.length_range] at hjl
          have hi : j / C.size < len := (Nat.div_lt_iff_lt_mul hp).2 hjl
          have hmod := Nat.mod_lt j hp
          have hdm := Nat.div_add_mod j C.size
          have hli := C.len (hq _ hi).2.1
          obtain ⟨u', hu'⟩ : ∃ u, (q (j / C.size)).2[j % C.size]? = some u := ⟨_, List.getElem?_eq_getElem (by omega)⟩
          have hf := flat_get hlens (j / C.size) (by simpa using hi) (j % C.size) u' (by simpa using hu')
          have e : j / C.size * C.size + j % C.size = j := by rw [Nat.mul_comm]; exact hdm
          rw [e, hj] at hf
          obtain rfl := Option.some.inj hf
          have := cell _ hi _ _ hu'
          rw [add_at, add_at, Nat.add_assoc, e] at this
          exact this
    · obtain ⟨i, hi, rfl⟩ := List.mem_map.1 hd
      exact (hq i (List.mem_range.1 hi)).2.2
/-- A struct of two fields. -/
theorem reads_pair {P : Program} {α β : Type} {C : Codec α} {D : Codec β} {G : α → Prop} {F : β → Prop} {t : TypeId} {f0 f1 : Field} (ht : P.underlying t = some (.struct #[f0, f1]))
    (ho0 : f0.offset = 0) (ho1 : f1.offset = C.size) (hc0 : P.cellsOf f0.type = C.size) (hc1 : P.cellsOf f1.type = D.size) (hc : P.cellsOf t = C.size + D.size) (h0 : Reads P C G f0.type) (h1 : Reads P D F f1.type) :
    Reads P (cPair C D) (fun p => G p.1 ∧ F p.2) t := fun {H enc W base n cs x} h => by
  obtain ⟨y0, y1, k, _, hl, g0, g1⟩ := trod_struct2 ht h
  obtain ⟨a, a1, a2⟩ := h0 g0
  obtain ⟨b, b1, b2⟩ := h1 g1
  rw [ho0, hc0, List.drop_zero] at a1
  rw [ho1, hc1] at b1
  rw [hc] at hl
  have e : (cs.drop C.size).take D.size = cs.drop C.size := List.take_of_length_le (by rw [List.length_drop]; omega)
  rw [e] at b1
  exact ⟨(a, b), ⟨cs.take C.size, cs.drop C.size, (List.take_append_drop _ _).symm, a1, b1⟩, a2, b2⟩
/-- The fields of a struct from an offset on. -/
def ReadsFs (P : Program) {α : Type} (C : Codec α) (G : α → Prop) (fs : List Field) (off : Nat) : Prop :=
  ∀ {H : Type} {enc : TypeId × Value → H} {W : World} {base n : Nat} {cs : List Value}, cs.length = off + C.size →
    (∀ (i : Nat) f, fs[i]? = some f → ∃ y : DataW H × List MemPlace, DataW.trod enc P W base (fun _ => true) true n f.type ((cs.drop f.offset).take (P.cellsOf f.type)) = some y) →
    ∃ a, C.on (fun _ => True) W (cs.drop off) a ∧ G a
theorem readsFs_one {P : Program} {α : Type} {C : Codec α} {G : α → Prop} {f : Field} {off : Nat} (ho : f.offset = off) (hc : P.cellsOf f.type = C.size) (h : Reads P C G f.type) : ReadsFs P C G [f] off := fun {H enc W base n cs} hl hf => by
  obtain ⟨y, hy⟩ := hf 0 f rfl
  rw [ho, hc] at hy
  have e : (cs.drop off).take C.size = cs.drop off := List.take_of_length_le (by rw [List.length_drop]; omega)
  rw [e] at hy
  exact h hy
theorem readsFs_cons {P : Program} {α β : Type} {C : Codec α} {D : Codec β} {G : α → Prop} {F : β → Prop} {f : Field} {fs : List Field} {off : Nat} (ho : f.offset = off) (hc : P.cellsOf f.type = C.size) (h : Reads P C G f.type)
    (k : ReadsFs P D F fs (off + C.size)) : ReadsFs P (cPair C D) (fun p => G p.1 ∧ F p.2) (f :: fs) off := fun {H enc W base n cs} hl hf => by
  have hl2 : cs.length = off + (C.size + D.size) := hl
  obtain ⟨y, hy⟩ := hf 0 f rfl
  rw [ho, hc] at hy
  obtain ⟨a, a1, a2⟩ := h hy
  obtain ⟨b, b1, b2⟩ := k (enc := enc) (W := W) (base := base) (n := n) (cs := cs) (by omega) (fun i g hg => hf (i + 1) g (by simpa using hg))
  refine ⟨(a, b), ⟨(cs.drop off).take C.size, cs.drop (off + C.size), ?_, a1, b1⟩, a2, b2⟩
  rw [← List.drop_drop, List.take_append_drop]
/-- A struct. -/
theorem reads_struct {P : Program} {α : Type} {C : Codec α} {G : α → Prop} {t : TypeId} {fs : List Field} (ht : P.underlying t = some (.struct fs.toArray)) (hc : P.cellsOf t = C.size) (h : ReadsFs P C G fs 0) : Reads P C G t := fun {H enc W base n cs x} hx => by
  obtain ⟨xs, k, _, _, hl, hlen, hf⟩ := DataW.trod_struct ht hx
  have := h (enc := enc) (W := W) (base := base) (n := k) (cs := cs) (by rw [hl, hc, Nat.zero_add]) (fun i f hi => by
    have hi2 : fs.toArray[i]? = some f := by simpa using hi
    have hlt : i < xs.length := by
      rw [hlen]
      have := (List.getElem?_eq_some_iff.1 hi).1
      simpa using this
    exact ⟨xs[i], by rw [hf i f hi2, List.getElem?_eq_getElem hlt]⟩)
  rwa [List.drop_zero] at this
/-- An argument that is a struct. -/
theorem argC_struct {P : Program} {α : Type} {C : Codec α} {G : α → Prop} {t : TypeId} {fs : Array Field} {H : Type} {enc : TypeId × Value → H} {W : World} {base base2 : Nat} {v : Value} {d : DataW H} {p : List MemPlace} (R : Reads P C G t) (ht : P.underlying t = some (.struct fs))
    (hv : Value.okWide P W .any base2 t v) (h : ∃ fuel, DataW.trod enc P W base (fun _ => true) true fuel t v.cells.toList = some (d, p)) : ∃ cs a, v = .agg cs ∧ C.on (fun _ => True) W cs.toList a ∧ G a := by
  obtain ⟨cs, rfl, hsz⟩ := okWide_struct ht hv
  obtain ⟨fuel, hf⟩ := h
  obtain ⟨a, a1, a2⟩ := R hf
  exact ⟨cs, a, rfl, a1, a2⟩
/-- An argument that is a slice. -/
theorem argC_slice {P : Program} {α : Type} {C : Codec α} {G : List α → Prop} {t : TypeId} {H : Type} {enc : TypeId × Value → H} {W : World} {base : Nat} {a : Option Addr} {len cap : Nat} {d : DataW H} {p : List MemPlace} (R : Reads P (cRow C) G t)
    (h : ∃ fuel, DataW.trod enc P W base (fun _ => true) true fuel t (Value.slice a len cap).cells.toList = some (d, p)) : ∃ l, RAny C W (.slice a len cap) l ∧ G l := by
  obtain ⟨fuel, hf⟩ := h
  obtain ⟨l, ⟨v, hv, hr⟩, hG⟩ := R hf
  have e : (Value.slice a len cap).cells.toList = [.slice a len cap] := rfl
  rw [e] at hv
  obtain rfl : Value.slice a len cap = v := by simpa using hv
  exact ⟨l, hr, hG⟩
end Go.Proofs.Ythgfaadlnffpcaa.MM
set_option linter.unusedVariables false
namespace Go.Proofs.Ythgfaadlnffpcaa.EV
open Go Go.RowKit Go.Proofs.Ythgfaadlnffpcaa.MM Go.Proofs.Ythgfaadlnffpcaa.EM

def FitS (p : Fld) : Prop := p.1.length ≤ maxLen ∧ p.2.length ≤ maxLen
theorem reads_fld : Reads Try.prog fldC FitS 83 := reads_pair Try.underlying83 rfl rfl (by kernel_rfl) (by kernel_rfl) (by kernel_rfl) (reads_str Try.underlying9) (reads_str Try.underlying9)
def FitEv (e : Ev) : Prop := FitI e.1 ∧ (∀ f ∈ e.2, FitS f) ∧ e.2.length ≤ maxLen
theorem reads_ev : Reads Try.prog evC FitEv 43 := reads_pair Try.underlying43 rfl rfl (by kernel_rfl) (by kernel_rfl) (by kernel_rfl) (reads_int Try.underlying3) (reads_row Try.underlying41 (by kernel_rfl) reads_fld)
/-- An event's cells. -/
theorem ev_cells {S : Nat → Prop} {w : World} {cs : Array Value} {e : Ev} (h : evC.on S w cs.toList e) : ∃ v, cs = #[.int .i64 e.1, v] ∧ ROn fldC S w v e.2 := by
  obtain ⟨v, hv, hr⟩ := ev_on.1 h
  exact ⟨v, by apply Array.toList_inj.1; rw [hv], hr⟩
theorem str_back (s : ByteArray) : s = ⟨s.data.toList.toArray⟩ := by simp
end Go.Proofs.Ythgfaadlnffpcaa.EV
set_option linter.unusedVariables false
namespace Go.Proofs.Ythgfaadlnffpcaa.ST
open Go Go.RowKit Go.Proofs.Ythgfaadlnffpcaa.MM Go.Proofs.Ythgfaadlnffpcaa.EM
open Go.Proofs.Ythgfaadlnffpcaa.EV (docC evC FitEv reads_ev)

def FitDoc (d : SM.Doc) : Prop := FitI d.1 ∧ FitEv d.2
theorem reads_doc : Reads Try.prog docC FitDoc 45 := reads_pair Try.underlying45 rfl rfl (by kernel_rfl) (by kernel_rfl) (by kernel_rfl) (reads_int Try.underlying3) reads_ev
instance : Inhabited SM.Doc := ⟨SM.noDoc⟩
theorem reads_docs : Reads Try.prog (cRow docC) (fun l => (∀ d ∈ l, FitDoc d) ∧ l.length ≤ maxLen) 22 := reads_row Try.underlying22 (by kernel_rfl) reads_doc
theorem fit_docs {l : List SM.Doc} (h : ∀ d ∈ l, FitDoc d) : SM.FitS l := fun d hd => (h d hd).2.1
theorem fit_take {l : List SM.Doc} (h : SM.FitS l) (k : Nat) : SM.FitS (l.take k) := fun d hd => h d (List.mem_of_mem_take hd)
end Go.Proofs.Ythgfaadlnffpcaa.ST
set_option linter.unusedVariables false
namespace Go.Proofs.Ythgfaadlnffpcaa.MM
open Go.ChangeShapes Go.WideShapes Go.ChangeAt Go.RowKit Go.Proofs

/-- A slice of whole numbers that came in: all its cells, spare ones too. -/
theorem argInts {H : Type} {enc : TypeId × Value → H} {W : World} {base : Nat} {T e : TypeId} {a : Option Addr} {len cap : Nat} {d : DataW H} {p : List MemPlace}
    (ht : Try.prog.underlying T = some (.slice e)) (he : Try.prog.underlying e = some (.int .i64)) (hc : Try.prog.cellsOf e = 1)
    (h : ∃ fuel, DataW.trod enc Try.prog W base (fun _ => true) true fuel T (Value.slice a len cap).cells.toList = some (d, p)) :
    ∃ zs, IRow W (.slice a len cap) zs ∧ zs.length = len ∧ len ≤ cap ∧ cap ≤ maxLen ∧ ∀ k, k < zs.length → -9223372036854775808 ≤ zs.getD k 0 ∧ zs.getD k 0 ≤ 9223372036854775807 := by
  obtain ⟨fuel, hf⟩ := h
  rcases open_ints ht he hc hf with ⟨hcs, _⟩ | ⟨x, n, c, zs, hcs, _, hl, hm, hz, _, hcell, hwz⟩
  · simp [Value.cells] at hcs
    obtain ⟨rfl, rfl, rfl⟩ := hcs
    exact ⟨[], IRow.nil_ W, rfl, Nat.le_refl _, by unfold maxLen; omega, fun k hk => by simp at hk⟩
  · simp [Value.cells] at hcs
    obtain ⟨rfl, rfl, rfl⟩ := hcs
    have hzl : zs.length = cap := by simpa using hz
    have hlen : (zs.take len).length = len := by rw [List.length_take]; omega
    refine ⟨zs.take len, row_of_cells (by rw [List.length_map, hlen]) hl hm (fun i u hi => ?_), hlen, hl, hm, fun k hk => ?_⟩
    · have hi2 : i < len := by
        have := (List.getElem?_eq_some_iff.1 hi).1
        rw [List.length_map, hlen] at this
        exact this
      have hlt : i < zs.length := by omega
      have hu : u = .int .i64 (zs[i]) := by
        have hg := hi
        simp only [List.getElem?_map, List.getElem?_take, if_pos hi2, List.getElem?_eq_getElem hlt, Option.map_some, Option.some.injEq] at hg
        exact hg.symm
      rw [hu, hcell i hlt]
      simp [List.getD, hlt]
    · rw [hlen] at hk
      have hlt : k < zs.length := by omega
      have e : (zs.take len).getD k 0 = zs[k] := by simp [List.getD, hk, hlt]
      have hw := hwz zs[k] (List.getElem_mem hlt)
      rw [e]
      simp only [Lit.wf, Bool.and_eq_true, decide_eq_true_eq] at hw
      have h1 : IntKind.i64.min = -9223372036854775808 := by decide
      have h2 : IntKind.i64.max = 9223372036854775807 := by decide
      rw [h1, h2] at hw
      exact hw
end Go.Proofs.Ythgfaadlnffpcaa.MM
set_option linter.unusedVariables false
namespace Go.Proofs.Ythgfaadlnffpcaa.ST
open Go Go.RowKit Go.Proofs.Ythgfaadlnffpcaa.MM Go.Proofs.Ythgfaadlnffpcaa.EM Go.Proofs.Ythgfaadlnffpcaa.SM
open Go.Proofs.Ythgfaadlnffpcaa.EV (docC evC fldC)

theorem owes : Owes where
  check := fun v l w hv => ccheck_any v l w hv
  same := fun u v xs ys w hu hv => csame_any u v xs ys w hu hv
  enc := fun v l w hv hf => (cenc_any v l w hv hf).mono fun e w' ⟨u, h1, h2, h3⟩ => ⟨u, h1, OwnB.brow h2, h3⟩
  dec := fun v bs w h hl => (SR.dec_any v bs w h hl).mono fun e w' ⟨u, h1, h2, h3⟩ => ⟨u, h1, h2.any, h3⟩
  count := fun v bs w h hl => SR.count_any v bs w h hl
  at_ := fun v bs i w h hl _ _ => SR.at_any v bs i w h hl
  find := fun v bs seq w h hl _ _ => SR.find_any v bs seq w h hl
  some_ := fun v bs pv zs w h hl hz hn _ => (SR.some_any v bs pv zs w h hl hz hn).mono fun e w' ⟨u, h1, h2, h3⟩ => ⟨u, h1, h2.any, h3⟩
end Go.Proofs.Ythgfaadlnffpcaa.ST
namespace Go.Proofs.Ythgfaadlnffpcaa.ST
open Go Go.RowKit

theorem ints_all {zs : List Int} (h : ∀ k, k < zs.length → -9223372036854775808 ≤ zs.getD k 0 ∧ zs.getD k 0 ≤ 9223372036854775807) : ∀ z ∈ zs, IntB z := fun z hz => by
  obtain ⟨k, hk, rfl⟩ := List.getElem_of_mem hz
  have := h k hk
  rw [List.getD_eq_getElem?_getD, List.getElem?_eq_getElem hk] at this
  exact this
end Go.Proofs.Ythgfaadlnffpcaa.ST
