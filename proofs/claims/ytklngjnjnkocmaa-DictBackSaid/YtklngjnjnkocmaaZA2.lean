/-
  A row of the call's own: what it is, a store into it. No condition. What stays while blocks of a set stay. No condition. Slices that read as lists of texts. No condition.
-/
import Derived.Test.YtklngjnjnkocmaaZA1
set_option linter.unusedVariables false
namespace Go.Proofs.Ytklngjnjnkocmaa.MM
open Go.RowKit
/-! ### a row of the call's own: what it is, a store into it -/
theorem OwnB.shape {B : Nat} {w : World} {v : Value} {l : List UInt8} (h : OwnB B w v l) (hl : l.length ≠ 0) : ∃ g cap, v = .slice (some ⟨g, 0, none⟩) l.length cap ∧ B ≤ g ∧ l.length ≤ cap ∧ cap ≤ maxLen := by
  rcases h.2 with ⟨_, h0⟩ | ⟨g, cap, cur, hv, hb, _, hn, hm, _⟩
  · exact absurd h0 hl
  · exact ⟨g, cap, hv, hb, hn, hm⟩
theorem OwnB.free {B : Nat} {w : World} {g n cap : Nat} {l : List UInt8} (h : OwnB B w (.slice (some ⟨g, 0, none⟩) n cap) l) (j : Nat) : w.frozen? ⟨g, j, none⟩ = false := by
  rcases h.2 with ⟨hv, _⟩ | ⟨g', cap', cur, hv, hb, hh, _⟩
  · cases hv
  · simp only [Value.slice.injEq, Option.some.injEq, Addr.mk.injEq] at hv
    obtain ⟨⟨rfl, _⟩, _⟩ := hv
    exact frozen_of_row w g j cur _ hh
theorem OwnB.cell {B : Nat} {w : World} {g n cap j : Nat} {l : List UInt8} {c : UInt8} (h : OwnB B w (.slice (some ⟨g, 0, none⟩) n cap) l) (hj : l[j]? = some c) : w.cell? ⟨g, j, none⟩ = some (.int .u8 (c.toNat : Int)) := by
  obtain ⟨hlt, he⟩ := List.getElem?_eq_some_iff.1 hj
  obtain ⟨b, off, hp, _, hc⟩ := h.brow.at_ hlt
  rcases h.2 with ⟨hv, _⟩ | ⟨g', cap', cur, hv, hb, hh, hn, hm, hs, ht⟩
  · cases hv
  · simp only [Value.slice.injEq, Option.some.injEq, Addr.mk.injEq] at hv hp
    obtain ⟨⟨rfl, _⟩, _⟩ := hv
    obtain ⟨rfl, rfl, _⟩ := hp
    rw [he, Nat.zero_add] at hc
    exact hc
theorem OwnB.set {B : Nat} {w : World} {g n cap j : Nat} {l : List UInt8} (h : OwnB B w (.slice (some ⟨g, 0, none⟩) n cap) l) (c : UInt8) :
    OwnB B (w.setCell ⟨g, j, none⟩ (.int .u8 (c.toNat : Int))) (.slice (some ⟨g, 0, none⟩) n cap) (l.set j c) := by
  refine ⟨by rw [byteCells_len]; omega, ?_⟩
  rcases h.2 with ⟨hv, _⟩ | ⟨g', cap', cur, hv, hb, hh, hn, hm, hs, ht⟩
  · cases hv
  · have hv' := hv
    simp only [Value.slice.injEq, Option.some.injEq, Addr.mk.injEq] at hv
    obtain ⟨⟨rfl, _⟩, hnn, rfl⟩ := hv
    refine .inr ⟨g, cap, cur.setIfInBounds j (.int .u8 (c.toNat : Int)), by rw [List.length_set, hnn], hb, heap_setCell_same w g j cur _ _ hh, by rw [List.length_set]; exact hn, hm, by rw [Array.size_setIfInBounds]; exact hs, ?_⟩
    rw [List.length_set, Array.toList_setIfInBounds, List.take_set, ht]
    simp [Lib.byteCells, List.map_set]
end Go.Proofs.Ytklngjnjnkocmaa.MM
set_option linter.unusedVariables false
namespace Go.Proofs.Ytklngjnjnkocmaa.MM
open Go.RowKit

/-! ### blocks that stay -/
/-- Of the blocks that there were, those of S are as they were. -/
structure Kep (S : Nat → Prop) (w w' : World) : Prop where
  os : w'.os = w.os
  tape : w'.tape = w.tape
  output : w'.output = w.output
  size : w.heap.size ≤ w'.heap.size
  block : ∀ k, k < w.heap.size → S k → w'.heap[k]? = w.heap[k]?
theorem Kep.refl (S : Nat → Prop) (w : World) : Kep S w w := ⟨rfl, rfl, rfl, Nat.le_refl _, fun _ _ _ => rfl⟩
theorem Kep.trans {S : Nat → Prop} {a b c : World} (h : Kep S a b) (k : Kep S b c) : Kep S a c :=
  ⟨k.os.trans h.os, k.tape.trans h.tape, k.output.trans h.output, Nat.le_trans h.size k.size, fun i hi hs => (k.block i (Nat.lt_of_lt_of_le hi h.size) hs).trans (h.block i hi hs)⟩
theorem Kep.mono {S T : Nat → Prop} {a b : World} (h : Kep S a b) (hT : ∀ k, T k → S k) : Kep T a b := ⟨h.os, h.tape, h.output, h.size, fun k hk ht => h.block k hk (hT k ht)⟩
/-- .. of those that there are, it is enough. -/
theorem Kep.mono' {S T : Nat → Prop} {a b : World} (h : Kep S a b) (hT : ∀ k, k < a.heap.size → T k → S k) : Kep T a b := ⟨h.os, h.tape, h.output, h.size, fun k hk ht => h.block k hk (hT k hk ht)⟩
theorem Kep.drew {S : Nat → Prop} {a b : World} (h : Kep S a b) : Kep S a b.drew := ⟨h.os, h.tape, h.output, h.size, h.block⟩
theorem Kep.drewN {S : Nat → Prop} {a b : World} (h : Kep S a b) (n : Nat) : Kep S a (b.drewN n) := ⟨h.os, h.tape, h.output, h.size, h.block⟩
theorem kep_below {w w' : World} (S : Nat → Prop) (h : Below w.heap.size w w') : Kep S w w' := ⟨h.os, h.tape, h.output, h.size, fun k hk _ => h.block k hk⟩
theorem kep_alloc (S : Nat → Prop) (w : World) (o : Obj) : Kep S w (w.alloc o) := kep_below S ((Below.refl _ _).alloc (Nat.le_refl _) o)
theorem kep_set {S : Nat → Prop} {w : World} {g i : Nat} (hg : ¬ S g) (u : Value) : Kep S w (w.setCell ⟨g, i, none⟩ u) :=
  ⟨rfl, rfl, rfl, by simp, fun k _ hs => Below.heap_setCell _ _ _ _ (fun e => hg (by rw [← show k = g from e]; exact hs))⟩
theorem kep_grown {S : Nat → Prop} {w w' : World} {row : Option Nat} (h : w.grownBy w' row) (hr : ∀ k, row = some k → ¬ S k) : Kep S w w' :=
  ⟨h.os, h.tape, h.output, h.size, fun k hk hs => h.block k hk (fun e => hr k e.symm hs)⟩
theorem Kep.below {S : Nat → Prop} {w w' : World} {B : Nat} (h : Kep S w w') (hB : B ≤ w.heap.size) (hS : ∀ k, k < B → S k) : Below B w w' :=
  ⟨h.os, h.tape, h.output, h.size, fun k hk => h.block k (Nat.lt_of_lt_of_le hk hB) (hS k hk)⟩

/-- .. the second step need keep of the first world's blocks alone. -/
theorem Kep.andThen {S T : Nat → Prop} {a b c : World} (h : Kep S a b) (k : Kep T b c) (hT : ∀ i, i < a.heap.size → S i → T i) : Kep S a c :=
  ⟨k.os.trans h.os, k.tape.trans h.tape, k.output.trans h.output, Nat.le_trans h.size k.size, fun i hi hs => (k.block i (Nat.lt_of_lt_of_le hi h.size) (hT i hi hs)).trans (h.block i hi hs)⟩
theorem kep_draw (S : Nat → Prop) (w : World) : Kep S w w.drew := (Kep.refl S w).drew
theorem Kep.cell {S : Nat → Prop} {w w' : World} (h : Kep S w w') {b : Nat} (hb : b < w.heap.size) (hS : S b) (i : Nat) : w'.cell? ⟨b, i, none⟩ = w.cell? ⟨b, i, none⟩ := World.cell?_of_block (a := ⟨b, i, none⟩) (h.block b hb hS)
end Go.Proofs.Ytklngjnjnkocmaa.MM
set_option linter.unusedVariables false
namespace Go.Proofs.Ytklngjnjnkocmaa.MM
open Go.RowKit

theorem infoStr : (Try.prog.info? 9).map (fun i => (i.zero, i.size, i.bytes)) = some (some (.string ⟨#[]⟩), 1, 16) := by kernel_rfl
def strV (l : List UInt8) : Value := .string ⟨l.toArray⟩
/-- A slice value that reads as these texts, which lie below block B. -/
def TIn (B : Nat) (w : World) (v : Value) (ss : List (List UInt8)) : Prop := RowIn B w v (ss.map strV)
def TRow (w : World) (v : Value) (ss : List (List UInt8)) : Prop := TIn w.heap.size w v ss
/-- .. of the call's own, from block B on. -/
def OwnT (B : Nat) (w : World) (v : Value) (ss : List (List UInt8)) : Prop := w.ownsRow B 9 1 v ss.length (ss.map strV)
theorem OwnT.trow {B : Nat} {w : World} {v : Value} {ss : List (List UInt8)} (h : OwnT B w v ss) : TRow w v ss := Row.of_own h
theorem OwnT.keep {w w' : World} {B : Nat} {v : Value} {ss : List (List UInt8)} (h : OwnT B w v ss) (hb : Below w.heap.size w w') : OwnT B w' v ss := own_keep (B := 0) h hb
theorem OwnT.weaken {w : World} {B B' : Nat} {v : Value} {ss : List (List UInt8)} (h : OwnT B w v ss) (hB : B' ≤ B) : OwnT B' w v ss := by
  refine ⟨h.1, ?_⟩
  rcases h.2 with h0 | ⟨g, cap, cur, hv, hg, rest⟩
  · exact .inl h0
  · exact .inr ⟨g, cap, cur, hv, Nat.le_trans hB hg, rest⟩
theorem OwnT.nil_ (B : Nat) (w : World) : OwnT B w (.slice none 0 0) [] := World.ownsRow_nil _ _ _ _
theorem OwnT.shape {w : World} {B : Nat} {v : Value} {ss : List (List UInt8)} (h : OwnT B w v ss) : ∃ p cap, v = .slice p ss.length cap ∧ ss.length ≤ cap ∧ cap ≤ maxLen := by
  obtain ⟨p, cap, hv, h1, h2, _, _⟩ := h.trow
  rw [List.length_map] at hv h1
  exact ⟨p, cap, hv, h1, h2⟩
theorem TRow.below {w w' : World} {v : Value} {ss : List (List UInt8)} (h : TRow w v ss) (hb : Below w.heap.size w w') : TRow w' v ss := Row.below (B := 0) h hb
theorem TIn.below {B : Nat} {w w' : World} {v : Value} {ss : List (List UInt8)} (h : TIn B w v ss) (hb : Below B w w') : TIn B w' v ss := RowIn.below h hb
theorem TIn.mono {B B' : Nat} {w : World} {v : Value} {ss : List (List UInt8)} (h : TIn B w v ss) (hB : B ≤ B') : TIn B' w v ss := RowIn.mono h hB
theorem TRow.nil_ (w : World) : TRow w (.slice none 0 0) [] := Row.nil_ w
theorem TIn.shape {B : Nat} {w : World} {v : Value} {ss : List (List UInt8)} (h : TIn B w v ss) : ∃ p cap, v = .slice p ss.length cap ∧ ss.length ≤ cap ∧ cap ≤ maxLen := by
  obtain ⟨p, cap, hv, h1, h2, _, _⟩ := h
  rw [List.length_map] at hv h1
  exact ⟨p, cap, hv, h1, h2⟩
theorem TIn.at_ {B : Nat} {w : World} {p : Option Addr} {n cap : Nat} {ss : List (List UInt8)} (h : TIn B w (.slice p n cap) ss) {k : Nat} (hk : k < ss.length) :
    ∃ b off, p = some ⟨b, off, none⟩ ∧ b < B ∧ w.cell? ⟨b, off + k, none⟩ = some (.string ⟨(ss[k]).toArray⟩) := by
  obtain ⟨p', cap', hv, _, _, _, h⟩ := h
  simp only [Value.slice.injEq] at hv
  obtain ⟨rfl, _, _⟩ := hv
  rcases h with h | ⟨b, off, hp, hlt, hc⟩
  · have : ss = [] := List.map_eq_nil_iff.1 h
    subst this
    simp at hk
  · exact ⟨b, off, hp, hlt, hc k _ (by simp [hk, strV])⟩
/-- append(row, s). -/
theorem wpList_append_str {w : World} {ops : Array Oper} {rest : List Oper} {o : Oper} {a : Act} {Q : Exit → Act → World → Prop} (hgd : o.guard = none) (s x : Operand)
    (ho : o.op = .call { callee := .builtin .append, args := #[s, x], argTypes := #[40, 40] }) (B : Nat) (v : Value) (ss : List (List UInt8)) (w0 : World) (z : List UInt8) (hw : w = w0.alloc (.cells #[.string ⟨z.toArray⟩] 9)) (hs : a.eval s = v) (hown : OwnT B w0 v ss)
    (hx : a.eval x = .slice (some ⟨w0.heap.size, 0, none⟩) 1 1) (hlen : ss.length ≤ 1000000000000) (hbase : B ≤ w0.heap.size)
    (h : ∀ v' w', OwnT B w' v' (ss ++ [z]) → Below B w0 w' → wpList Try.prog ops Q rest (a.put o.dst v') w') : wpList Try.prog ops Q (o :: rest) a w := by
  subst hw
  obtain ⟨i0, hi, hz0, hz1, hz2⟩ := info_parts infoStr
  have hlo : ∀ k, v.ownBlock = some k → B ≤ k := fun k hk => (World.ownsRow.lt hown k hk).1
  refine wpList_append_own _ hgd s x 40 ho B 9 i0 (.string ⟨#[]⟩) 1 16 Try.underlying40 hi hz0 hz1 hz2 rfl (by decide) v ss.length _ hs (World.ownsRow.alloc hown _) ⟨w0.heap.size, 0, none⟩ 1 1 [.string ⟨z.toArray⟩] hx rfl (cell_new1 _ _ _) (by intro u hu; simp at hu; subst hu; rfl)
    (by unfold maxLen; omega) (by omega) (by simp; omega) (fun v' w' h1 hg _ => h v' w' ?_ (below_app (Below.refl B w0) hbase hlo hg))
  unfold OwnT
  rw [List.length_append, List.map_append]
  exact h1
/-- A literal of one text. -/
theorem trow_one (w : World) (z : List UInt8) : TRow (w.alloc (.cells #[.string ⟨z.toArray⟩] 9)) (.slice (some ⟨w.heap.size, 0, none⟩) 1 1) [z] :=
  Row.of_own (own_lit w [.string ⟨z.toArray⟩] 9 0 (Nat.zero_le _) (by unfold maxLen; simp))
/-- Two texts held against each other, as the walk spells it. -/
theorem same_list (l m : List UInt8) : ((⟨l.toArray⟩ : ByteArray).toList == (⟨m.toArray⟩ : ByteArray).toList) = decide (l = m) := by
  rw [Lib.toList_data, Lib.toList_data]
  by_cases h : l = m
  · subst h; simp
  · simp [h]
end Go.Proofs.Ytklngjnjnkocmaa.MM
