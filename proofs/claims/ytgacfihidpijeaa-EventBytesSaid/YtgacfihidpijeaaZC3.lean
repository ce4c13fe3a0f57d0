/-
  A row of the call's own: what it is, a store into it. No condition. What stays while blocks of a set stay. No condition. A region that draws its order, as in RegK, where two operations that stand alone may come up at once: both orders are walked. No condition.
-/
import Derived.Test.YtgacfihidpijeaaZC2
import Derived.OrdersHeld
import Derived.RegionTactic
import Derived.Below
set_option linter.unusedVariables false
namespace Go.Proofs.Ytgacfihidpijeaa.MM
open Go.RowKit
/-! ### a row of the call's own: what it is, a store into it -/
theorem OwnB.shape {B : Nat} {w : World} {v : Value} {l : List UInt8} (h : OwnB B w v l) (hl : l.length ≠ 0) : ∃ g cap, v = .slice (some ⟨g, 0, none⟩) l.length cap ∧ B ≤ g ∧ l.length ≤ cap ∧ cap ≤ maxLen := by
  rcases h.2 with ⟨_, h0⟩ | ⟨g, cap, cur, hv, hb, _, hn, hm, _⟩
  · exact absurd h0 hl
  · exact ⟨g, cap, hv, hb, hn, hm⟩
theorem OwnB.free {B : Nat} {w : World} {g n cap : Nat} {l : List UInt8} (h : OwnB B w (.slice (some ⟨g, 0, none⟩) n cap) l) (j : Nat) : w.frozen? ⟨g, j, none⟩ = false := by
  rcases h.2 with ⟨hv, _⟩ | ⟨g', cap', cur, hv, hb, hh, _⟩
  · cases hv
  · simp only [Value.slice.injEq, Option.some.injEq, Addr.mk.injEq] at hv
    obtain ⟨⟨rfl, _⟩, _⟩ := hv
    exact frozen_of_row w g j cur _ hh
theorem OwnB.cell {B : Nat} {w : World} {g n cap j : Nat} {l : List UInt8} {c : UInt8} (h : OwnB B w (.slice (some ⟨g, 0, none⟩) n cap) l) (hj : l[j]? = some c) : w.cell? ⟨g, j, none⟩ = some (.int .u8 (c.toNat : Int)) := by
  obtain ⟨hlt, he⟩ := List.getElem?_eq_some_iff.1 hj
  obtain ⟨b, off, hp, _, hc⟩ := h.brow.at_ hlt
  rcases h.2 with ⟨hv, _⟩ | ⟨g', cap', cur, hv, hb, hh, hn, hm, hs, ht⟩
  · cases hv
  · simp only [Value.slice.injEq, Option.some.injEq, Addr.mk.injEq] at hv hp
    obtain ⟨⟨rfl, _⟩, _⟩ := hv
    obtain ⟨rfl, rfl, _⟩ := hp
    rw [he, Nat.zero_add] at hc
    exact hc
theorem OwnB.set {B : Nat} {w : World} {g n cap j : Nat} {l : List UInt8} (h : OwnB B w (.slice (some ⟨g, 0, none⟩) n cap) l) (c : UInt8) :
    OwnB B (w.setCell ⟨g, j, none⟩ (.int .u8 (c.toNat : Int))) (.slice (some ⟨g, 0, none⟩) n cap) (l.set j c) := by
  refine ⟨by rw [byteCells_len]; omega, ?_⟩
  rcases h.2 with ⟨hv, _⟩ | ⟨g', cap', cur, hv, hb, hh, hn, hm, hs, ht⟩
  · cases hv
  · have hv' := hv
    simp only [Value.slice.injEq, Option.some.injEq, Addr.mk.injEq] at hv
    obtain ⟨⟨rfl, _⟩, hnn, rfl⟩ := hv
    refine .inr ⟨g, cap, cur.setIfInBounds j (.int .u8 (c.toNat : Int)), by rw [List.length_set, hnn], hb, heap_setCell_same w g j cur _ _ hh, by rw [List.length_set]; exact hn, hm, by rw [Array.size_setIfInBounds]; exact hs, ?_⟩
    rw [List.length_set, Array.toList_setIfInBounds, List.take_set, ht]
    simp [Lib.byteCells, List.map_set]
end Go.Proofs.Ytgacfihidpijeaa.MM
set_option linter.unusedVariables false
namespace Go.Proofs.Ytgacfihidpijeaa.MM
open Go.RowKit

/-! ### blocks that stay -/
/-- Of the blocks that there were, those of S are as they were. -/
structure Kep (S : Nat → Prop) (w w' : World) : Prop where
  os : w'.os = w.os
  tape : w'.tape = w.tape
  output : w'.output = w.output
  size : w.heap.size ≤ w'.heap.size
  block : ∀ k, k < w.heap.size → S k → w'.heap[k]? = w.heap[k]?
theorem Kep.refl (S : Nat → Prop) (w : World) : Kep S w w := ⟨rfl, rfl, rfl, Nat.le_refl _, fun _ _ _ => rfl⟩
theorem Kep.trans {S : Nat → Prop} {a b c : World} (h : Kep S a b) (k : Kep S b c) : Kep S a c :=
  ⟨k.os.trans h.os, k.tape.trans h.tape, k.output.trans h.output, Nat.le_trans h.size k.size, fun i hi hs => (k.block i (Nat.lt_of_lt_of_le hi h.size) hs).trans (h.block i hi hs)⟩
theorem Kep.mono {S T : Nat → Prop} {a b : World} (h : Kep S a b) (hT : ∀ k, T k → S k) : Kep T a b := ⟨h.os, h.tape, h.output, h.size, fun k hk ht => h.block k hk (hT k ht)⟩
/-- .. of those that there are, it is enough. -/
theorem Kep.mono' {S T : Nat → Prop} {a b : World} (h : Kep S a b) (hT : ∀ k, k < a.heap.size → T k → S k) : Kep T a b := ⟨h.os, h.tape, h.output, h.size, fun k hk ht => h.block k hk (hT k hk ht)⟩
theorem Kep.drew {S : Nat → Prop} {a b : World} (h : Kep S a b) : Kep S a b.drew := ⟨h.os, h.tape, h.output, h.size, h.block⟩
theorem Kep.drewN {S : Nat → Prop} {a b : World} (h : Kep S a b) (n : Nat) : Kep S a (b.drewN n) := ⟨h.os, h.tape, h.output, h.size, h.block⟩
theorem kep_below {w w' : World} (S : Nat → Prop) (h : Below w.heap.size w w') : Kep S w w' := ⟨h.os, h.tape, h.output, h.size, fun k hk _ => h.block k hk⟩
theorem kep_alloc (S : Nat → Prop) (w : World) (o : Obj) : Kep S w (w.alloc o) := kep_below S ((Below.refl _ _).alloc (Nat.le_refl _) o)
theorem kep_set {S : Nat → Prop} {w : World} {g i : Nat} (hg : ¬ S g) (u : Value) : Kep S w (w.setCell ⟨g, i, none⟩ u) :=
  ⟨rfl, rfl, rfl, by simp, fun k _ hs => Below.heap_setCell _ _ _ _ (fun e => hg (by rw [← show k = g from e]; exact hs))⟩
theorem kep_grown {S : Nat → Prop} {w w' : World} {row : Option Nat} (h : w.grownBy w' row) (hr : ∀ k, row = some k → ¬ S k) : Kep S w w' :=
  ⟨h.os, h.tape, h.output, h.size, fun k hk hs => h.block k hk (fun e => hr k e.symm hs)⟩
theorem Kep.below {S : Nat → Prop} {w w' : World} {B : Nat} (h : Kep S w w') (hB : B ≤ w.heap.size) (hS : ∀ k, k < B → S k) : Below B w w' :=
  ⟨h.os, h.tape, h.output, h.size, fun k hk => h.block k (Nat.lt_of_lt_of_le hk hB) (hS k hk)⟩

/-- .. the second step need keep of the first world's blocks alone. -/
theorem Kep.andThen {S T : Nat → Prop} {a b c : World} (h : Kep S a b) (k : Kep T b c) (hT : ∀ i, i < a.heap.size → S i → T i) : Kep S a c :=
  ⟨k.os.trans h.os, k.tape.trans h.tape, k.output.trans h.output, Nat.le_trans h.size k.size, fun i hi hs => (k.block i (Nat.lt_of_lt_of_le hi h.size) (hT i hi hs)).trans (h.block i hi hs)⟩
theorem kep_draw (S : Nat → Prop) (w : World) : Kep S w w.drew := (Kep.refl S w).drew
theorem Kep.cell {S : Nat → Prop} {w w' : World} (h : Kep S w w') {b : Nat} (hb : b < w.heap.size) (hS : S b) (i : Nat) : w'.cell? ⟨b, i, none⟩ = w.cell? ⟨b, i, none⟩ := World.cell?_of_block (a := ⟨b, i, none⟩) (h.block b hb hS)
end Go.Proofs.Ytgacfihidpijeaa.MM
namespace Go.Proofs.Ytgacfihidpijeaa.RT
open Go Go.RowKit Go.Proofs.Ytgacfihidpijeaa.MM

/-- An order, that may part in two: an operation that yields one value in whatever world in which the blocks stay; one that stands alone; two that stand alone, in either order. -/
inductive Plan (α : Type) where
  | done : Plan α
  | take (i : α) (r : Plan α) : Plan α
  | alone (i : α) (r : Plan α) : Plan α
  | both (i j : α) (r s : Plan α) : Plan α
def Plan.len {α : Type} : Plan α → Nat
  | .done => 0
  | .take _ r => r.len + 1
  | .alone _ r => r.len + 1
  | .both _ _ r _ => r.len + 1

section
variable {T : Nat → Prop} {P : Program} {ops : Array Oper} {Q : Exit → Act → World → Prop} {md : Region.Mode}

theorem held_weaken {S S' : World → Prop} (hS : ∀ w, S' w → S w) : ∀ (fuel : Nat) (listed : Array Bool) (a : Act) (w : World), wpAnyH P md ops Q S' fuel listed a w → wpAnyH P md ops Q S fuel listed a w
  | 0, _, _, _, h => h
  | fuel + 1, _, _, _, h => ⟨h.1, fun i hi => wpOp_mono (fun a' w' h' => ⟨hS _ h'.1, held_weaken hS fuel _ a' w' h'.2⟩) (h.2 i hi)⟩

/-- A way on, kept from the walk. -/
def Way (p : Prop) : Prop := p
theorem Way.out {p : Prop} (h : Way p) : p := h

/-- An operation that stands alone, and what follows. -/
def Step (T : Nat → Prop) (P : Program) (ops : Array Oper) (Q : Exit → Act → World → Prop) (o : Option Oper) (N : Act → World → Prop) (a : Act) (w : World) : Prop :=
  match o with
  | some o => ∀ K : Act → World → Prop, (∀ a' w', Kep T w w' → N a' w' → K a' w') → if Region.wanted o (yielded ops a.tmps) = true then o.wp P a w K Q else K (a.put o.dst undef) w
  | none => False
def walk (T : Nat → Prop) (P : Program) (ops : Array Oper) (Q : Exit → Act → World → Prop) : Plan (Option Oper) → Act → World → Prop
  | .done, a, w => Q .normal a w
  | .take (some o) r, a, w => ∃ v, YieldsIf P ops (Kep T w) o v a ∧ walk T P ops Q r (a.put o.dst v) w
  | .take none _, _, _ => False
  | .alone o r, a, w => Step T P ops Q o (walk T P ops Q r) a w
  | .both o o' r s, a, w => Step T P ops Q o (walk T P ops Q r) a w ∧ Step T P ops Q o' (walk T P ops Q s) a w
/-- The operations in the order of a plan. -/
def ordered (ops : Array Oper) : Plan Nat → Plan (Option Oper)
  | .done => .done
  | .take i r => .take ops[i]? (ordered ops r)
  | .alone i r => .alone ops[i]? (ordered ops r)
  | .both i j r s => .both ops[i]? ops[j]? (ordered ops r) (ordered ops s)

/-- The order is one: each operation may come up, and is free, or alone, or one of two. -/
def planned (md : Region.Mode) (ops : Array Oper) : Plan Nat → Array Bool → Bool
  | .done, listed => (Region.ready md ops listed).isEmpty
  | .take i r, listed => Region.free md ops listed i && (Region.ready md ops listed).contains i && planned md ops r (listed.setIfInBounds i true)
  | .alone i r, listed => (Region.ready md ops listed == [i]) && planned md ops r (listed.setIfInBounds i true)
  | .both i j r s, listed => (Region.ready md ops listed == [i, j]) && (r.len == s.len) && planned md ops r (listed.setIfInBounds i true) && planned md ops s (listed.setIfInBounds j true)

theorem held_of_walk (hs : Region.noSelect ops = true) (hQ : ∀ c a d v w, Q (.panic c) (Act.put a d v) w → Q (.panic c) a w) :
    ∀ (l : Plan Nat) (listed : Array Bool) (a : Act) (w : World), planned md ops l listed = true → walk T P ops Q (ordered ops l) a w → wpAnyH P md ops Q (Kep T w) l.len listed a w
  | .done, listed, a, w, hp, h => ⟨by simpa [planned] using hp, h⟩
  | .take i r, listed, a, w, hp, h => by
    have h' : walk T P ops Q (.take ops[i]? (ordered ops r)) a w := h
    cases ho : ops[i]? with
    | none => rw [ho] at h'; exact h'.elim
    | some o =>
      rw [ho] at h'
      obtain ⟨v, hy, hr⟩ := h'
      simp only [planned, Bool.and_eq_true] at hp
      exact wpAnyH_take ho hs hp.1.1 hp.1.2 (fun c a w => hQ c a _ _ w) hy (Kep.refl _ w) (held_of_walk hs hQ r _ _ _ hp.2 hr)
  | .alone i r, listed, a, w, hp, h => by
    have h' : Step T P ops Q ops[i]? (walk T P ops Q (ordered ops r)) a w := h
    cases ho : ops[i]? with
    | none => rw [ho] at h'; exact h'.elim
    | some o =>
      rw [ho] at h'
      simp only [planned, Bool.and_eq_true] at hp
      refine wpAnyH_all (rs := [i]) (by simpa using hp.1) (by simp) (fun j hj => ?_)
      obtain rfl : j = i := by simpa using hj
      exact wpOp_step ho (fun K hK => h' K (fun a' w' h1 h2 => hK a' w' ⟨h1, held_weaken (fun W hW => h1.trans hW) _ _ _ _ (held_of_walk hs hQ r _ _ _ hp.2 h2)⟩))
  | .both i j r s, listed, a, w, hp, h => by
    have h' : Step T P ops Q ops[i]? (walk T P ops Q (ordered ops r)) a w ∧ Step T P ops Q ops[j]? (walk T P ops Q (ordered ops s)) a w := h
    obtain ⟨h1, h2⟩ := h'
    simp only [planned, Bool.and_eq_true, beq_iff_eq] at hp
    cases ho : ops[i]? with
    | none => rw [ho] at h1; exact h1.elim
    | some o =>
      cases ho' : ops[j]? with
      | none => rw [ho'] at h2; exact h2.elim
      | some o' =>
        rw [ho] at h1
        rw [ho'] at h2
        refine wpAnyH_all (rs := [i, j]) (by simpa using hp.1.1.1) (by simp) (fun k hk => ?_)
        simp only [List.mem_cons, List.not_mem_nil, or_false] at hk
        rcases hk with rfl | rfl
        · exact wpOp_step ho (fun K hK => h1 K (fun a' w' g1 g2 => hK a' w' ⟨g1, held_weaken (fun W hW => g1.trans hW) _ _ _ _ (held_of_walk hs hQ r _ _ _ hp.1.2 g2)⟩))
        · refine wpOp_step ho' (fun K hK => h2 K (fun a' w' g1 g2 => hK a' w' ⟨g1, held_weaken (fun W hW => g1.trans hW) _ _ _ _ ?_⟩))
          rw [hp.1.1.2]
          exact held_of_walk hs hQ s _ _ _ hp.2 g2

/-- THE BEGINNING. -/
theorem begin_ (l : Plan Nat) {id : Nat} {a : Act} {w : World} (hm : P.follows .mixedOrders = true) (hs : Region.noSelect ops = true) (hl : l.len = ops.size)
    (hp : planned .any ops l (Array.replicate ops.size false) = true) (hQ : ∀ c a d v w, Q (.panic c) (Act.put a d v) w → Q (.panic c) a w)
    (h : walk T P ops Q (ordered ops l) a w.drew) : (Code.region id ops true).wp P Q a w := by
  refine wp_region_held (S := Kep T w.drew) hm ?_
  rw [← hl]
  have := held_of_walk (md := .any) hs hQ l (Array.replicate ops.size false) a w.drew hp h
  rw [← hl] at this
  exact this

/-- THE STEPS. -/
theorem take {r : Plan (Option Oper)} {a : Act} {w : World} {o : Oper} {v : Value} (hw : Region.wanted o (yielded ops a.tmps) = true)
    (hy : ∀ W, Kep T w W → (execOp a.eval o).run P W = .ok (.value v) W) (h : walk T P ops Q r (a.put o.dst v) w) : walk T P ops Q (.take (some o) r) a w :=
  ⟨v, .inl ⟨hw, hy⟩, h⟩
theorem skip {r : Plan (Option Oper)} {a : Act} {w : World} {o : Oper} (hw : Region.wanted o (yielded ops a.tmps) = false)
    (h : walk T P ops Q r (a.put o.dst undef) w) : walk T P ops Q (.take (some o) r) a w :=
  ⟨undef, .inr ⟨hw, rfl⟩, h⟩
theorem step {N : Act → World → Prop} {a : Act} {w : World} {o : Oper} (hw : Region.wanted o (yielded ops a.tmps) = true)
    (h : ∀ K : Act → World → Prop, Way (∀ a' w', Kep T w w' → N a' w' → K a' w') → o.wp P a w K Q) : Step T P ops Q (some o) N a w := by
  intro K hK
  rw [if_pos hw]
  exact h K hK
theorem step_skip {N : Act → World → Prop} {a : Act} {w : World} {o : Oper} (hw : Region.wanted o (yielded ops a.tmps) = false)
    (h : N (a.put o.dst undef) w) : Step T P ops Q (some o) N a w := by
  intro K hK
  rw [if_neg (by rw [hw]; exact Bool.false_ne_true)]
  exact hK _ _ (Kep.refl _ w) h
theorem alone {r : Plan (Option Oper)} {a : Act} {w : World} {o : Oper} (h : Step T P ops Q (some o) (walk T P ops Q r) a w) : walk T P ops Q (.alone (some o) r) a w := h
theorem both {r s : Plan (Option Oper)} {a : Act} {w : World} {o o' : Oper} (h : Step T P ops Q (some o) (walk T P ops Q r) a w) (h' : Step T P ops Q (some o') (walk T P ops Q s) a w) : walk T P ops Q (.both (some o) (some o') r s) a w := ⟨h, h'⟩
theorem done {a : Act} {w : World} (h : Q .normal a w) : walk T P ops Q .done a w := h
end
end Go.Proofs.Ytgacfihidpijeaa.RT
