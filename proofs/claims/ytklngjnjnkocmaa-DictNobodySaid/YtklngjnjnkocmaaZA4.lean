/-
  From the rows' readings to codecs: what is read as data of a type lies as the type's codec says. No program; no condition.
-/
import Derived.Test.YtklngjnjnkocmaaZA3
import Derived.ChangeArms
import Derived.ChangeSame
import Derived.Deep.Slices
import Derived.ProofKit
import Derived.OpenShut
set_option linter.unusedVariables false
namespace Go.Proofs.Ytklngjnjnkocmaa.MM
open Go Go.RowKit Go.ChangeShapes Go.WideShapes

/-- What is read as data of type t lies as C says, and G holds of it. -/
def Reads (P : Program) {α : Type} (C : Codec α) (G : α → Prop) (t : TypeId) : Prop :=
  ∀ {H : Type} {enc : TypeId × Value → H} {W : World} {base n : Nat} {cs : List Value} {x : DataW H × List MemPlace}, DataW.trod enc P W base (fun _ => true) true n t cs = some x → ∃ a, C.on (fun _ => True) W cs a ∧ G a
def FitI (z : Int) : Prop := -9223372036854775808 ≤ z ∧ z ≤ 9223372036854775807
theorem reads_int {P : Program} {t : TypeId} (ht : P.underlying t = some (.int .i64)) : Reads P cInt FitI t := fun h => by
  obtain ⟨z, rfl, _, hw⟩ := DataW.trod_int ht h
  refine ⟨z, rfl, ?_⟩
  simp only [Lit.wf, Bool.and_eq_true, decide_eq_true_eq] at hw
  have h1 : IntKind.i64.min = -9223372036854775808 := by decide
  have h2 : IntKind.i64.max = 9223372036854775807 := by decide
  rw [h1, h2] at hw
  exact hw
theorem reads_bool {P : Program} {t : TypeId} (ht : P.underlying t = some .bool) : Reads P cBool (fun _ => True) t := fun h => by
  obtain ⟨b, rfl, _⟩ := DataW.trod_bool ht h
  exact ⟨b, rfl, trivial⟩
theorem reads_u8 {P : Program} {t : TypeId} (ht : P.underlying t = some (.int .u8)) : Reads P cU8 (fun _ => True) t := fun h => by
  obtain ⟨z, rfl, _, hw⟩ := DataW.trod_int ht h
  simp only [Lit.wf, Bool.and_eq_true, decide_eq_true_eq] at hw
  have h1 : IntKind.u8.min = 0 := by decide
  have h2 : IntKind.u8.max = 255 := by decide
  rw [h1, h2] at hw
  refine ⟨UInt8.ofNat z.toNat, ?_, trivial⟩
  show [Value.int .u8 z] = [.int .u8 ((UInt8.ofNat z.toNat).toNat : Int)]
  rw [UInt8.toNat_ofNat']
  congr 2
  omega
theorem reads_str {P : Program} {t : TypeId} (ht : P.underlying t = some .string) : Reads P cStr (fun l => l.length ≤ maxLen) t := fun h => by
  obtain ⟨s, rfl, _, hs⟩ := DataW.trod_string ht h
  exact ⟨s.data.toList, rfl, by simpa using hs⟩
/-- A slice. -/
theorem reads_row {P : Program} {α : Type} [Inhabited α] {C : Codec α} {G : α → Prop} {T e : TypeId} (ht : P.underlying T = some (.slice e)) (hc : P.cellsOf e = C.size) (he : Reads P C G e) : Reads P (cRow C) (fun l => (∀ a ∈ l, G a) ∧ l.length ≤ maxLen) T := fun {H enc W base n cs x} h => by
  rcases Deep.open_slice ht h with ⟨rfl, _⟩ | ⟨a, len, cap, m, k, D, Pl, rfl, _, hl, hm, hmm, _, hx⟩
  · exact ⟨[], ⟨_, rfl, ROn.nil_ _ _⟩, by simp, by simp [maxLen]⟩
  · simp only [if_true] at hmm
    subst hmm
    have each : ∀ i, i < len → ∃ q : α × List Value, W.cells? base (a.add (i * C.size)) C.size = some q.2 ∧ C.on (fun _ => True) W q.2 q.1 ∧ G q.1 := fun i hi => by
      obtain ⟨cs', h1, h2⟩ := hx i (by omega)
      obtain ⟨d, h3, h4⟩ := he h2
      rw [hc] at h1
      exact ⟨(d, cs'), h1, h3, h4⟩
    obtain ⟨q, hq⟩ := Deep.choose_lt each
    refine ⟨(List.range len).map fun i => (q i).1, ⟨_, rfl, some a, m, (List.range len).map fun i => (q i).2, by simp, by simpa using hl, hm, (fun h => by cases h), ⟨by simp, fun i hi hi' => ?_⟩, ?_⟩, fun d hd => ?_, by simp; omega⟩
    · have hi2 : i < len := by simpa using hi
      simp only [List.getElem_map, List.getElem_range]
      exact (hq i hi2).2.1
    · by_cases h0 : len = 0
      · left; simp [h0]
      · right
        have hlens : ∀ r ∈ (List.range len).map (fun i => (q i).2), r.length = C.size := fun r hr => by
          obtain ⟨i, hi, rfl⟩ := List.mem_map.1 hr
          exact C.len (hq i (List.mem_range.1 hi)).2.1
        have cell : ∀ i, i < len → ∀ j u, (q i).2[j]? = some u → W.cell? ((a.add (i * C.size)).add j) = some u := fun i hi j u hj => by
          obtain ⟨_, hlen, hcell⟩ := World.cells?_some (hq i hi).1
          have hjl := (List.getElem?_eq_some_iff.1 hj).1
          have := hcell j (by omega)
          rw [this]
          simpa using hj
        have hp := C.pos
        have hl0 := C.len (hq 0 (by omega)).2.1
        obtain ⟨u0, hu0⟩ : ∃ u, (q 0).2[0]? = some u := ⟨_, List.getElem?_eq_getElem (by omega)⟩
        have c0 := cell 0 (by omega) 0 u0 hu0
        obtain ⟨b, off, spot⟩ := a
        have hspot : spot = none := by
          have := World.cell?_spot c0
          simpa [Addr.add] using this
        subst hspot
        refine ⟨b, off, rfl, ?_, trivial, fun j u hj => ?_⟩
        · rw [add_at, add_at] at c0
          by_cases hb : b < W.heap.size
          · exact hb
          · simp [World.cell?, Array.getElem?_eq_none (Nat.le_of_not_lt hb)] at c0
        · have hjl := (List.getElem?_eq_some_iff.1 hj).1
          rw [flat_len hlens, List.length_map, List.length_range] at hjl
          have hi : j / C.size < len := (Nat.div_lt_iff_lt_mul hp).2 hjl
          have hmod := Nat.mod_lt j hp
          have hdm := Nat.div_add_mod j C.size
          have hli := C.len (hq _ hi).2.1
          obtain ⟨u', hu'⟩ : ∃ u, (q (j / C.size)).2[j % C.size]? = some u := ⟨_, List.getElem?_eq_getElem (by omega)⟩
          have hf := flat_get hlens (j / C.size) (by simpa using hi) (j % C.size) u' (by simpa using hu')
          have e : j / C.size * C.size + j % C.size = j := by rw [Nat.mul_comm]; exact hdm
          rw [e, hj] at hf
          obtain rfl := Option.some.inj hf
          have := cell _ hi _ _ hu'
          rw [add_at, add_at, Nat.add_assoc, e] at this
          exact this
    · obtain ⟨i, hi, rfl⟩ := List.mem_map.1 hd
      exact (hq i (List.mem_range.1 hi)).2.2
/-- A struct of two fields. -/
theorem reads_pair {P : Program} {α β : Type} {C : Codec α} {D : Codec β} {G : α → Prop} {F : β → Prop} {t : TypeId} {f0 f1 : Field} (ht : P.underlying t = some (.struct #[f0, f1]))
    (ho0 : f0.offset = 0) (ho1 : f1.offset = C.size) (hc0 : P.cellsOf f0.type = C.size) (hc1 : P.cellsOf f1.type = D.size) (hc : P.cellsOf t = C.size + D.size) (h0 : Reads P C G f0.type) (h1 : Reads P D F f1.type) :
    Reads P (cPair C D) (fun p => G p.1 ∧ F p.2) t := fun {H enc W base n cs x} h => by
  obtain ⟨y0, y1, k, _, hl, g0, g1⟩ := trod_struct2 ht h
  obtain ⟨a, a1, a2⟩ := h0 g0
  obtain ⟨b, b1, b2⟩ := h1 g1
  rw [ho0, hc0, List.drop_zero] at a1
  rw [ho1, hc1] at b1
  rw [hc] at hl
  have e : (cs.drop C.size).take D.size = cs.drop C.size := List.take_of_length_le (by rw [List.length_drop]; omega)
  rw [e] at b1
  exact ⟨(a, b), ⟨cs.take C.size, cs.drop C.size, (List.take_append_drop _ _).symm, a1, b1⟩, a2, b2⟩
/-- The fields of a struct from an offset on. -/
def ReadsFs (P : Program) {α : Type} (C : Codec α) (G : α → Prop) (fs : List Field) (off : Nat) : Prop :=
  ∀ {H : Type} {enc : TypeId × Value → H} {W : World} {base n : Nat} {cs : List Value}, cs.length = off + C.size →
    (∀ (i : Nat) f, fs[i]? = some f → ∃ y : DataW H × List MemPlace, DataW.trod enc P W base (fun _ => true) true n f.type ((cs.drop f.offset).take (P.cellsOf f.type)) = some y) →
    ∃ a, C.on (fun _ => True) W (cs.drop off) a ∧ G a
theorem readsFs_one {P : Program} {α : Type} {C : Codec α} {G : α → Prop} {f : Field} {off : Nat} (ho : f.offset = off) (hc : P.cellsOf f.type = C.size) (h : Reads P C G f.type) : ReadsFs P C G [f] off := fun {H enc W base n cs} hl hf => by
  obtain ⟨y, hy⟩ := hf 0 f rfl
  rw [ho, hc] at hy
  have e : (cs.drop off).take C.size = cs.drop off := List.take_of_length_le (by rw [List.length_drop]; omega)
  rw [e] at hy
  exact h hy
theorem readsFs_cons {P : Program} {α β : Type} {C : Codec α} {D : Codec β} {G : α → Prop} {F : β → Prop} {f : Field} {fs : List Field} {off : Nat} (ho : f.offset = off) (hc : P.cellsOf f.type = C.size) (h : Reads P C G f.type)
    (k : ReadsFs P D F fs (off + C.size)) : ReadsFs P (cPair C D) (fun p => G p.1 ∧ F p.2) (f :: fs) off := fun {H enc W base n cs} hl hf => by
  have hl2 : cs.length = off + (C.size + D.size) := hl
  obtain ⟨y, hy⟩ := hf 0 f rfl
  rw [ho, hc] at hy
  obtain ⟨a, a1, a2⟩ := h hy
  obtain ⟨b, b1, b2⟩ := k (enc := enc) (W := W) (base := base) (n := n) (cs := cs) (by omega) (fun i g hg => hf (i + 1) g (by simpa using hg))
  refine ⟨(a, b), ⟨(cs.drop off).take C.size, cs.drop (off + C.size), ?_, a1, b1⟩, a2, b2⟩
  rw [← List.drop_drop, List.take_append_drop]
/-- A struct. -/
theorem reads_struct {P : Program} {α : Type} {C : Codec α} {G : α → Prop} {t : TypeId} {fs : List Field} (ht : P.underlying t = some (.struct fs.toArray)) (hc : P.cellsOf t = C.size) (h : ReadsFs P C G fs 0) : Reads P C G t := fun {H enc W base n cs x} hx => by
  obtain ⟨xs, k, _, _, hl, hlen, hf⟩ := DataW.trod_struct ht hx
  have := h (enc := enc) (W := W) (base := base) (n := k) (cs := cs) (by rw [hl, hc, Nat.zero_add]) (fun i f hi => by
    have hi2 : fs.toArray[i]? = some f := by simpa using hi
    have hlt : i < xs.length := by
      rw [hlen]
      have := (List.getElem?_eq_some_iff.1 hi).1
      simpa using this
    exact ⟨xs[i], by rw [hf i f hi2, List.getElem?_eq_getElem hlt]⟩)
  rwa [List.drop_zero] at this
/-- An argument that is a struct. -/
theorem argC_struct {P : Program} {α : Type} {C : Codec α} {G : α → Prop} {t : TypeId} {fs : Array Field} {H : Type} {enc : TypeId × Value → H} {W : World} {base base2 : Nat} {v : Value} {d : DataW H} {p : List MemPlace} (R : Reads P C G t) (ht : P.underlying t = some (.struct fs))
    (hv : Value.okWide P W .any base2 t v) (h : ∃ fuel, DataW.trod enc P W base (fun _ => true) true fuel t v.cells.toList = some (d, p)) : ∃ cs a, v = .agg cs ∧ C.on (fun _ => True) W cs.toList a ∧ G a := by
  obtain ⟨cs, rfl, hsz⟩ := okWide_struct ht hv
  obtain ⟨fuel, hf⟩ := h
  obtain ⟨a, a1, a2⟩ := R hf
  exact ⟨cs, a, rfl, a1, a2⟩
/-- An argument that is a slice. -/
theorem argC_slice {P : Program} {α : Type} {C : Codec α} {G : List α → Prop} {t : TypeId} {H : Type} {enc : TypeId × Value → H} {W : World} {base : Nat} {a : Option Addr} {len cap : Nat} {d : DataW H} {p : List MemPlace} (R : Reads P (cRow C) G t)
    (h : ∃ fuel, DataW.trod enc P W base (fun _ => true) true fuel t (Value.slice a len cap).cells.toList = some (d, p)) : ∃ l, RAny C W (.slice a len cap) l ∧ G l := by
  obtain ⟨fuel, hf⟩ := h
  obtain ⟨l, ⟨v, hv, hr⟩, hG⟩ := R hf
  have e : (Value.slice a len cap).cells.toList = [.slice a len cap] := rfl
  rw [e] at hv
  obtain rfl : Value.slice a len cap = v := by simpa using hv
  exact ⟨l, hr, hG⟩
end Go.Proofs.Ytklngjnjnkocmaa.MM
