/-
  What stays while blocks of a set stay; the places' object, its cells, its map of four bytes. No condition.
-/
import Derived.Test.YtoohkhcmakcggaaOwnSet
import Derived.Test.YtoohkhcmakcggaaLzInv
import Derived.Maps.Own
import Derived.Maps.OwnOps
import Derived.Maps.OwnSet
import Derived.Maps.Views
import Derived.DeepKeys4
set_option linter.unusedVariables false
namespace Go.Proofs.Ytoohkhcmakcggaa.LZ
open Go.RowKit Go.Proofs.Ytoohkhcmakcggaa.MM Go.Maps

/-! ### blocks that stay -/
/-- Of the blocks that there were, those of S are as they were. -/
structure Kep (S : Nat → Prop) (w w' : World) : Prop where
  os : w'.os = w.os
  tape : w'.tape = w.tape
  output : w'.output = w.output
  size : w.heap.size ≤ w'.heap.size
  block : ∀ k, k < w.heap.size → S k → w'.heap[k]? = w.heap[k]?
theorem Kep.refl (S : Nat → Prop) (w : World) : Kep S w w := ⟨rfl, rfl, rfl, Nat.le_refl _, fun _ _ _ => rfl⟩
theorem Kep.trans {S : Nat → Prop} {a b c : World} (h : Kep S a b) (k : Kep S b c) : Kep S a c :=
  ⟨k.os.trans h.os, k.tape.trans h.tape, k.output.trans h.output, Nat.le_trans h.size k.size, fun i hi hs => (k.block i (Nat.lt_of_lt_of_le hi h.size) hs).trans (h.block i hi hs)⟩
theorem Kep.mono {S T : Nat → Prop} {a b : World} (h : Kep S a b) (hT : ∀ k, T k → S k) : Kep T a b := ⟨h.os, h.tape, h.output, h.size, fun k hk ht => h.block k hk (hT k ht)⟩
/-- .. of those that there are, it is enough. -/
theorem Kep.mono' {S T : Nat → Prop} {a b : World} (h : Kep S a b) (hT : ∀ k, k < a.heap.size → T k → S k) : Kep T a b := ⟨h.os, h.tape, h.output, h.size, fun k hk ht => h.block k hk (hT k hk ht)⟩
theorem Kep.drew {S : Nat → Prop} {a b : World} (h : Kep S a b) : Kep S a b.drew := ⟨h.os, h.tape, h.output, h.size, h.block⟩
theorem Kep.drewN {S : Nat → Prop} {a b : World} (h : Kep S a b) (n : Nat) : Kep S a (b.drewN n) := ⟨h.os, h.tape, h.output, h.size, h.block⟩
theorem kep_below {w w' : World} (S : Nat → Prop) (h : Below w.heap.size w w') : Kep S w w' := ⟨h.os, h.tape, h.output, h.size, fun k hk _ => h.block k hk⟩
theorem kep_alloc (S : Nat → Prop) (w : World) (o : Obj) : Kep S w (w.alloc o) := kep_below S ((Below.refl _ _).alloc (Nat.le_refl _) o)
theorem kep_set {S : Nat → Prop} {w : World} {g i : Nat} (hg : ¬ S g) (u : Value) : Kep S w (w.setCell ⟨g, i, none⟩ u) :=
  ⟨rfl, rfl, rfl, by simp, fun k _ hs => Below.heap_setCell _ _ _ _ (fun e => hg (by rw [← show k = g from e]; exact hs))⟩
theorem kep_grown {S : Nat → Prop} {w w' : World} {row : Option Nat} (h : w.grownBy w' row) (hr : ∀ k, row = some k → ¬ S k) : Kep S w w' :=
  ⟨h.os, h.tape, h.output, h.size, fun k hk hs => h.block k hk (fun e => hr k e.symm hs)⟩
theorem Kep.below {S : Nat → Prop} {w w' : World} {B : Nat} (h : Kep S w w') (hB : B ≤ w.heap.size) (hS : ∀ k, k < B → S k) : Below B w w' :=
  ⟨h.os, h.tape, h.output, h.size, fun k hk => h.block k (Nat.lt_of_lt_of_le hk hB) (hS k hk)⟩

/-! ### a row of the call's own that lies in none of them -/
def OwnS (S : Nat → Prop) (w : World) (v : Value) (l : List UInt8) : Prop := OwnB 0 w v l ∧ ∀ k, v.ownBlock = some k → ¬ S k
theorem OwnS.own {S : Nat → Prop} {w : World} {v : Value} {l : List UInt8} (h : OwnS S w v l) : OwnB 0 w v l := h.1
theorem OwnS.kep {S T : Nat → Prop} {w w' : World} {v : Value} {l : List UInt8} (h : OwnS S w v l) (hk : Kep T w w') (hT : ∀ k, v.ownBlock = some k → T k) : OwnS S w' v l := by
  refine ⟨⟨h.1.1, ?_⟩, h.2⟩
  rcases h.1.2 with h0 | ⟨g, cap, cur, hv, hg, hh, rest⟩
  · exact .inl h0
  · refine .inr ⟨g, cap, cur, hv, hg, ?_, rest⟩
    rw [hk.block g (Array.getElem?_eq_some_iff.1 hh).1 (hT g (by rw [hv]; rfl))]
    exact hh
theorem OwnS.below {S : Nat → Prop} {w w' : World} {v : Value} {l : List UInt8} (h : OwnS S w v l) (hb : Below w.heap.size w w') : OwnS S w' v l := h.kep (kep_below (fun _ => True) hb) (fun _ _ => trivial)
/-- The row's block holds bytes: it is no block that holds something else. -/
theorem OwnS.apart {w : World} {v : Value} {l : List UInt8} {g : Nat} {o : Obj} (h : OwnB 0 w v l) (hg : w.heap[g]? = some o) (ho : ∀ cs fr, o ≠ .cells cs 5 fr) : ∀ k, v.ownBlock = some k → k ≠ g := by
  intro k hk e
  subst e
  rcases h.2 with ⟨rfl, _⟩ | ⟨g2, cap, cur, rfl, _, hh, _⟩
  · cases hk
  · simp only [Value.ownBlock, Option.some.injEq] at hk
    subst hk
    rw [hg] at hh
    injection hh with hh
    exact ho _ _ hh

/-! ### cells of whole numbers of 32 bits -/
def UAt (w : World) (ub : Nat) (U : List Int) : Prop := ∃ cur : Array Value, w.heap[ub]? = some (.cells cur 58 (0, 0)) ∧ cur.toList.take U.length = U.map (fun c => Value.int .i32 c)
theorem UAt.cell {w : World} {ub i : Nat} {U : List Int} {c : Int} (h : UAt w ub U) (hi : U[i]? = some c) : w.cell? ⟨ub, i, none⟩ = some (.int .i32 c) := by
  obtain ⟨cur, hh, ht⟩ := h
  rw [cell_of_row w ub i _ _ _ hh]
  have := congrArg (fun l => l[i]?) ht
  have hlt := (List.getElem?_eq_some_iff.1 hi).1
  simp only [List.getElem?_take, hlt, if_true, List.getElem?_map, hi, Option.map_some] at this
  simpa using this
theorem UAt.free {w : World} {ub : Nat} {U : List Int} (h : UAt w ub U) (i : Nat) : w.frozen? ⟨ub, i, none⟩ = false := by
  obtain ⟨cur, hh, ht⟩ := h
  exact frozen_of_row w ub i _ _ hh
theorem UAt.lt {w : World} {ub : Nat} {U : List Int} (h : UAt w ub U) : ub < w.heap.size := by
  obtain ⟨cur, hh, ht⟩ := h
  exact (Array.getElem?_eq_some_iff.1 hh).1
theorem UAt.set {w : World} {ub : Nat} {U : List Int} (h : UAt w ub U) (i : Nat) (c : Int) : UAt (w.setCell ⟨ub, i, none⟩ (.int .i32 c)) ub (U.set i c) := by
  obtain ⟨cur, hh, ht⟩ := h
  refine ⟨cur.setIfInBounds i (.int .i32 c), heap_setCell_same w ub i cur _ _ hh, ?_⟩
  rw [List.length_set, Array.toList_setIfInBounds, List.take_set, ht, List.map_set]
theorem UAt.kep {S : Nat → Prop} {w w' : World} {ub : Nat} {U : List Int} (h : UAt w ub U) (hk : Kep S w w') (hS : S ub) : UAt w' ub U := by
  have hlt := h.lt
  obtain ⟨cur, hh, ht⟩ := h
  exact ⟨cur, (hk.block ub hlt hS).trans hh, ht⟩
theorem UAt.below {w w' : World} {ub : Nat} {U : List Int} (h : UAt w ub U) (hb : Below w.heap.size w w') : UAt w' ub U := h.kep (kep_below (fun _ => True) hb) trivial

/-! ### the places' object -/
def PlAt (w : World) (g : Nat) (vb : Value) (mb : Nat) (vu : Value) : Prop := w.heap[g]? = some (.cells #[vb, .map (some mb), vu] 55 (0, 0))
theorem PlAt.bytes {w : World} {g mb : Nat} {vb vu : Value} (h : PlAt w g vb mb vu) : w.cell? ⟨g, 0, none⟩ = some vb := by rw [cell_of_row w g 0 _ _ _ h]; rfl
theorem PlAt.map_ {w : World} {g mb : Nat} {vb vu : Value} (h : PlAt w g vb mb vu) : w.cell? ⟨g, 1, none⟩ = some (.map (some mb)) := by rw [cell_of_row w g 1 _ _ _ h]; rfl
theorem PlAt.under {w : World} {g mb : Nat} {vb vu : Value} (h : PlAt w g vb mb vu) : w.cell? ⟨g, 2, none⟩ = some vu := by rw [cell_of_row w g 2 _ _ _ h]; rfl
theorem PlAt.lt {w : World} {g mb : Nat} {vb vu : Value} (h : PlAt w g vb mb vu) : g < w.heap.size := (Array.getElem?_eq_some_iff.1 h).1
theorem PlAt.kep {S : Nat → Prop} {w w' : World} {g mb : Nat} {vb vu : Value} (h : PlAt w g vb mb vu) (hk : Kep S w w') (hS : S g) : PlAt w' g vb mb vu := (hk.block g h.lt hS).trans h
theorem PlAt.below {w w' : World} {g mb : Nat} {vb vu : Value} (h : PlAt w g vb mb vu) (hb : Below w.heap.size w w') : PlAt w' g vb mb vu := (hb.block g h.lt).trans h

/-! ### its map -/
theorem laidOut : laidOutB Try.prog = true := by kernel_rfl
theorem fourRow : (68 : TypeId) < Try.prog.types.size := of_decide_eq_true (by kernel_rfl)
theorem fourWide : (match Try.prog.underlying 68 with | some (.array _ _) | some (.struct _) => true | _ => false) = true := by rw [Try.underlying68]
theorem fourLaw : Keyed Try.prog 68 := Keyed.of_law (deep_law_laid laidOut (m := 2) (by omega) fourRow (by kernel_rfl) fourWide)
theorem zeroI32 (w : World) : (zeroValue 21).run Try.prog w = .ok (.int .i32 0) w := by kernel_rfl
/-- Four bytes, as the array that is a key. -/
def fourV (c0 c1 c2 c3 : UInt8) : Value := .agg #[.int .u8 (c0.toNat : Int), .int .u8 (c1.toNat : Int), .int .u8 (c2.toNat : Int), .int .u8 (c3.toNat : Int)]
theorem fourCells : Try.prog.cellsOf 68 = 4 := by kernel_rfl
theorem oneCell : Try.prog.cellsOf 5 = 1 := by kernel_rfl
theorem fourType : Try.prog.keyType 68 = true := by kernel_rfl
theorem lit_one (d : Nat) (c : UInt8) : Try.prog.keyLits (d + 1) 5 [.int .u8 (c.toNat : Int)] = some [.int .u8 (c.toNat : Int)] := by
  have hc := c.toNat_lt
  unfold Program.keyLits
  rw [Try.underlying5]
  refine if_pos ⟨rfl, ?_⟩
  simp [Lit.wf, IntKind.min, IntKind.max, IntKind.signed, IntKind.bits]
  omega
theorem byte_key (c : UInt8) : Lit.keyBytes (.int .u8 (c.toNat : Int)) = [c] := by
  have hc := c.toNat_lt
  show bytesBE 1 ((c.toNat : Int) % 2 ^ 8).toNat = [c]
  have e : ((c.toNat : Int) % 2 ^ 8).toNat = c.toNat := by omega
  rw [e]
  simp [bytesBE, bytesLE]
theorem fourKey (c0 c1 c2 c3 : UInt8) : keyOf Try.prog 68 (fourV c0 c1 c2 c3) = some (.string [c0, c1, c2, c3]) := by
  obtain ⟨d, hd⟩ : ∃ d, Try.prog.types.size = d + 1 := ⟨Try.prog.types.size - 1, (Nat.succ_pred_eq_of_pos (Nat.lt_of_le_of_lt (Nat.zero_le _) fourRow)).symm⟩
  have hf : (fourV c0 c1 c2 c3).formed Try.prog 68 = true := by simp [fourV, Value.formed, Try.underlying68, fourCells]
  have hl : Try.prog.keyLits (Try.prog.types.size + 1) 68 [.int .u8 (c0.toNat : Int), .int .u8 (c1.toNat : Int), .int .u8 (c2.toNat : Int), .int .u8 (c3.toNat : Int)] = some [.int .u8 (c0.toNat : Int), .int .u8 (c1.toNat : Int), .int .u8 (c2.toNat : Int), .int .u8 (c3.toNat : Int)] := by
    rw [hd]
    unfold Program.keyLits
    rw [Try.underlying68]
    simp [fourCells, oneCell, List.range_succ, lit_one]
  unfold keyOf
  rw [Try.underlying68]
  simp only [fourType, hf, Bool.and_self, if_true]
  rw [show (fourV c0 c1 c2 c3).cells.toList = [.int .u8 (c0.toNat : Int), .int .u8 (c1.toNat : Int), .int .u8 (c2.toNat : Int), .int .u8 (c3.toNat : Int)] from rfl, hl]
  simp [keyBytes, byte_key]
abbrev MapAt (w : World) (mb n : Nat) (D : DataW Unit) : Prop := w.ownsMap Try.prog 68 (plainElem Try.prog 21) mb n D
theorem MapAt.kep {S : Nat → Prop} {w w' : World} {mb n : Nat} {D : DataW Unit} (h : MapAt w mb n D) (hk : Kep S w w') (hS : S mb) : MapAt w' mb n D := by
  have hlt := World.ownsMap.lt h
  obtain ⟨es, clock, hb, F, hs, hD⟩ := h
  exact ⟨es, clock, (hk.block mb hlt hS).trans hb, F, hs, hD⟩
theorem MapAt.below {w w' : World} {mb n : Nat} {D : DataW Unit} (h : MapAt w mb n D) (hb : Below w.heap.size w w') : MapAt w' mb n D := h.kep (kep_below (fun _ => True) hb) trivial
/-- The tops that a map tells. -/
def topD (D : DataW Unit) (key : List UInt8) : Int := if Maps.has D (.string key) then (match D.atKey (.string key) (.lit (.int .i32 0)) with | .lit (.int _ c) => c | _ => 0) else -65536
theorem topD_none : topD (.map []) = fun _ => -65536 := by funext key; rfl
theorem topD_put {D : DataW Unit} {key : List UInt8} (hD : IsMap D) (hk : WideAt.IsKeyLit (.string key)) (c : Int) : topD (D.put (.string key) (.lit (.int .i32 c))) = topped (topD D) key c := by
  funext k
  unfold topD topped
  by_cases e : k = key
  · subst e
    rw [if_pos rfl, if_pos (has_put_same hD hk _), atKey_put_same hD hk]
  · have hne : (Lit.string k) ≠ Lit.string key := fun h => e (by injection h)
    rw [if_neg e, has_put_other hne, atKey_put_other hne]
end Go.Proofs.Ytoohkhcmakcggaa.LZ
