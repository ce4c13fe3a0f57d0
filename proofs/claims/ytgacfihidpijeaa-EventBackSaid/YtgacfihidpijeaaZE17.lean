/-
  A region that draws its order, as in RegK, where two operations that stand alone may come up at once: both orders are walked. No condition. A row by a codec that is filled from its head on, element by element. No program; no condition.
-/
import Derived.Test.YtgacfihidpijeaaZE2
import Derived.OrdersHeld
import Derived.RegionTactic
import Derived.Below
import Derived.Test.YtgacfihidpijeaaZE16
import Derived.Deep.MidRow
namespace Go.Proofs.Ytgacfihidpijeaa.RT
open Go Go.RowKit Go.Proofs.Ytgacfihidpijeaa.MM

/-- An order, that may part in two: an operation that yields one value in whatever world in which the blocks stay; one that stands alone; two that stand alone, in either order. -/
inductive Plan (α : Type) where
  | done : Plan α
  | take (i : α) (r : Plan α) : Plan α
  | alone (i : α) (r : Plan α) : Plan α
  | both (i j : α) (r s : Plan α) : Plan α
def Plan.len {α : Type} : Plan α → Nat
  | .done => 0
  | .take _ r => r.len + 1
  | .alone _ r => r.len + 1
  | .both _ _ r _ => r.len + 1

section
variable {T : Nat → Prop} {P : Program} {ops : Array Oper} {Q : Exit → Act → World → Prop} {md : Region.Mode}

theorem held_weaken {S S' : World → Prop} (hS : ∀ w, S' w → S w) : ∀ (fuel : Nat) (listed : Array Bool) (a : Act) (w : World), wpAnyH P md ops Q S' fuel listed a w → wpAnyH P md ops Q S fuel listed a w
  | 0, _, _, _, h => h
  | fuel + 1, _, _, _, h => ⟨h.1, fun i hi => wpOp_mono (fun a' w' h' => ⟨hS _ h'.1, held_weaken hS fuel _ a' w' h'.2⟩) (h.2 i hi)⟩

/-- A way on, kept from the walk. -/
def Way (p : Prop) : Prop := p
theorem Way.out {p : Prop} (h : Way p) : p := h

/-- An operation that stands alone, and what follows. -/
def Step (T : Nat → Prop) (P : Program) (ops : Array Oper) (Q : Exit → Act → World → Prop) (o : Option Oper) (N : Act → World → Prop) (a : Act) (w : World) : Prop :=
  match o with
  | some o => ∀ K : Act → World → Prop, (∀ a' w', Kep T w w' → N a' w' → K a' w') → if Region.wanted o (yielded ops a.tmps) = true then o.wp P a w K Q else K (a.put o.dst undef) w
  | none => False
def walk (T : Nat → Prop) (P : Program) (ops : Array Oper) (Q : Exit → Act → World → Prop) : Plan (Option Oper) → Act → World → Prop
  | .done, a, w => Q .normal a w
  | .take (some o) r, a, w => ∃ v, YieldsIf P ops (Kep T w) o v a ∧ walk T P ops Q r (a.put o.dst v) w
  | .take none _, _, _ => False
  | .alone o r, a, w => Step T P ops Q o (walk T P ops Q r) a w
  | .both o o' r s, a, w => Step T P ops Q o (walk T P ops Q r) a w ∧ Step T P ops Q o' (walk T P ops Q s) a w
/-- The operations in the order of a plan. -/
def ordered (ops : Array Oper) : Plan Nat → Plan (Option Oper)
  | .done => .done
  | .take i r => .take ops[i]? (ordered ops r)
  | .alone i r => .alone ops[i]? (ordered ops r)
  | .both i j r s => .both ops[i]? ops[j]? (ordered ops r) (ordered ops s)

/-- The order is one: each operation may come up, and is free, or alone, or one of two. -/
def planned (md : Region.Mode) (ops : Array Oper) : Plan Nat → Array Bool → Bool
  | .done, listed => (Region.ready md ops listed).isEmpty
  | .take i r, listed => Region.free md ops listed i && (Region.ready md ops listed).contains i && planned md ops r (listed.setIfInBounds i true)
  | .alone i r, listed => (Region.ready md ops listed == [i]) && planned md ops r (listed.setIfInBounds i true)
  | .both i j r s, listed => (Region.ready md ops listed == [i, j]) && (r.len == s.len) && planned md ops r (listed.setIfInBounds i true) && planned md ops s (listed.setIfInBounds j true)

theorem held_of_walk (hs : Region.noSelect ops = true) (hQ : ∀ c a d v w, Q (.panic c) (Act.put a d v) w → Q (.panic c) a w) :
    ∀ (l : Plan Nat) (listed : Array Bool) (a : Act) (w : World), planned md ops l listed = true → walk T P ops Q (ordered ops l) a w → wpAnyH P md ops Q (Kep T w) l.len listed a w
  | .done, listed, a, w, hp, h => ⟨by simpa [planned] using hp, h⟩
  | .take i r, listed, a, w, hp, h => by
    have h' : walk T P ops Q (.take ops[i]? (ordered ops r)) a w := h
    cases ho : ops[i]? with
    | none => rw [ho] at h'; exact h'.elim
    | some o =>
      rw [ho] at h'
      obtain ⟨v, hy, hr⟩ := h'
      simp only [planned, Bool.and_eq_true] at hp
      exact wpAnyH_take ho hs hp.1.1 hp.1.2 (fun c a w => hQ c a _ _ w) hy (Kep.refl _ w) (held_of_walk hs hQ r _ _ _ hp.2 hr)
  | .alone i r, listed, a, w, hp, h => by
    have h' : Step T P ops Q ops[i]? (walk T P ops Q (ordered ops r)) a w := h
    cases ho : ops[i]? with
    | none => rw [ho] at h'; exact h'.elim
    | some o =>
      rw [ho] at h'
      simp only [planned, Bool.and_eq_true] at hp
      refine wpAnyH_all (rs := [i]) (by simpa using hp.1) (by simp) (fun j hj => ?_)
      obtain rfl : j = i := by simpa using hj
      exact wpOp_step ho (fun K hK => h' K (fun a' w' h1 h2 => hK a' w' ⟨h1, held_weaken (fun W hW => h1.trans hW) _ _ _ _ (held_of_walk hs hQ r _ _ _ hp.2 h2)⟩))
  | .both i j r s, listed, a, w, hp, h => by
    have h' : Step T P ops Q ops[i]? (walk T P ops Q (ordered ops r)) a w ∧ Step T P ops Q ops[j]? (walk T P ops Q (ordered ops s)) a w := h
    obtain ⟨h1, h2⟩ := h'
    simp only [planned, Bool.and_eq_true, beq_iff_eq] at hp
    cases ho : ops[i]? with
    | none => rw [ho] at h1; exact h1.elim
    | some o =>
      cases ho' : ops[j]? with
      | none => rw [ho'] at h2; exact h2.elim
      | some o' =>
        rw [ho] at h1
        rw [ho'] at h2
        refine wpAnyH_all (rs := [i, j]) (by simpa using hp.1.1.1) (by simp) (fun k hk => ?_)
        simp only [List.mem_cons, List.not_mem_nil, or_false] at hk
        rcases hk with rfl | rfl
        · exact wpOp_step ho (fun K hK => h1 K (fun a' w' g1 g2 => hK a' w' ⟨g1, held_weaken (fun W hW => g1.trans hW) _ _ _ _ (held_of_walk hs hQ r _ _ _ hp.1.2 g2)⟩))
        · refine wpOp_step ho' (fun K hK => h2 K (fun a' w' g1 g2 => hK a' w' ⟨g1, held_weaken (fun W hW => g1.trans hW) _ _ _ _ ?_⟩))
          rw [hp.1.1.2]
          exact held_of_walk hs hQ s _ _ _ hp.2 g2

/-- THE BEGINNING. -/
theorem begin_ (l : Plan Nat) {id : Nat} {a : Act} {w : World} (hm : P.follows .mixedOrders = true) (hs : Region.noSelect ops = true) (hl : l.len = ops.size)
    (hp : planned .any ops l (Array.replicate ops.size false) = true) (hQ : ∀ c a d v w, Q (.panic c) (Act.put a d v) w → Q (.panic c) a w)
    (h : walk T P ops Q (ordered ops l) a w.drew) : (Code.region id ops true).wp P Q a w := by
  refine wp_region_held (S := Kep T w.drew) hm ?_
  rw [← hl]
  have := held_of_walk (md := .any) hs hQ l (Array.replicate ops.size false) a w.drew hp h
  rw [← hl] at this
  exact this

/-- THE STEPS. -/
theorem take {r : Plan (Option Oper)} {a : Act} {w : World} {o : Oper} {v : Value} (hw : Region.wanted o (yielded ops a.tmps) = true)
    (hy : ∀ W, Kep T w W → (execOp a.eval o).run P W = .ok (.value v) W) (h : walk T P ops Q r (a.put o.dst v) w) : walk T P ops Q (.take (some o) r) a w :=
  ⟨v, .inl ⟨hw, hy⟩, h⟩
theorem skip {r : Plan (Option Oper)} {a : Act} {w : World} {o : Oper} (hw : Region.wanted o (yielded ops a.tmps) = false)
    (h : walk T P ops Q r (a.put o.dst undef) w) : walk T P ops Q (.take (some o) r) a w :=
  ⟨undef, .inr ⟨hw, rfl⟩, h⟩
theorem step {N : Act → World → Prop} {a : Act} {w : World} {o : Oper} (hw : Region.wanted o (yielded ops a.tmps) = true)
    (h : ∀ K : Act → World → Prop, Way (∀ a' w', Kep T w w' → N a' w' → K a' w') → o.wp P a w K Q) : Step T P ops Q (some o) N a w := by
  intro K hK
  rw [if_pos hw]
  exact h K hK
theorem step_skip {N : Act → World → Prop} {a : Act} {w : World} {o : Oper} (hw : Region.wanted o (yielded ops a.tmps) = false)
    (h : N (a.put o.dst undef) w) : Step T P ops Q (some o) N a w := by
  intro K hK
  rw [if_neg (by rw [hw]; exact Bool.false_ne_true)]
  exact hK _ _ (Kep.refl _ w) h
theorem alone {r : Plan (Option Oper)} {a : Act} {w : World} {o : Oper} (h : Step T P ops Q (some o) (walk T P ops Q r) a w) : walk T P ops Q (.alone (some o) r) a w := h
theorem both {r s : Plan (Option Oper)} {a : Act} {w : World} {o o' : Oper} (h : Step T P ops Q (some o) (walk T P ops Q r) a w) (h' : Step T P ops Q (some o') (walk T P ops Q s) a w) : walk T P ops Q (.both (some o) (some o') r s) a w := ⟨h, h'⟩
theorem done {a : Act} {w : World} (h : Q .normal a w) : walk T P ops Q .done a w := h
end
end Go.Proofs.Ytgacfihidpijeaa.RT
set_option linter.unusedVariables false
namespace Go.Proofs.Ytgacfihidpijeaa.MM
open Go Go.RowKit

section
variable {α : Type} (C : Codec α)
def HalfX (e : TypeId) (S : Nat → Prop) (w : World) (g n : Nat) (es : List α) : Prop :=
  g < w.heap.size ∧ w.there g 0 (n * C.size) ∧ ∃ raw, Mean C S w raw es ∧ w.rangeAt g 0 raw.flatten
variable {C}
theorem HalfX.start {e : TypeId} {S : Nat → Prop} {B : Nat} {w : World} {g n : Nat} {xs : List Value} (h : w.ownsRow B e C.size (.slice (some ⟨g, 0, none⟩) n n) n xs) : HalfX C e S w g n [] := by
  rcases h.2 with ⟨hv, _⟩ | ⟨g', cap, cur, hv, hb, hh, hn, hm, hs, ht⟩
  · cases hv
  · simp only [Value.slice.injEq, Option.some.injEq, Addr.mk.injEq] at hv
    obtain ⟨⟨rfl, _⟩, _, rfl⟩ := hv
    refine ⟨(Array.getElem?_eq_some_iff.1 hh).1, fun j hj => ⟨?_, frozen_of_row w g _ cur _ hh⟩, [], Mean.nil_ _ _, fun j v hj => by simp at hj⟩
    obtain ⟨u, hu⟩ : ∃ u, (cur.toList.take (n * C.size))[j]? = some u := ⟨_, List.getElem?_eq_getElem (by rw [List.length_take, Array.length_toList]; omega)⟩
    have := Lib.cells_of_row hh (n * C.size) j u hu
    rw [add_at] at this
    rw [this]; rfl
theorem HalfX.keep {e : TypeId} {S T : Nat → Prop} {w w' : World} {g n : Nat} {es : List α} (h : HalfX C e S w g n es) (hk : Kep T w w') (hg : T g) (hS : ∀ b, b < w.heap.size → S b → T b) : HalfX C e S w' g n es := by
  obtain ⟨h1, h2, raw, hm, hr⟩ := h
  refine ⟨Nat.lt_of_lt_of_le h1 hk.size, fun j hj => ?_, raw, ⟨hm.1, fun i hi hi' => ?_⟩, fun j v hj => ?_⟩
  · have hb := hk.block g h1 hg
    rw [World.cell?_of_block (a := ⟨g, 0 + j, none⟩) hb, World.frozen?_of_block (a := ⟨g, 0 + j, none⟩) hb]
    exact h2 j hj
  · exact C.keep (C.keep (hm.2 i hi hi') (Kep.refl _ _) (T := fun b => S b ∧ b < w.heap.size) fun b hb hs => ⟨hs, hb⟩) (hk.mono' (T := fun b => S b ∧ b < w.heap.size) fun b hb hs => hS b hb hs.1) fun b hb hs => hs.1
  · rw [hk.cell h1 hg]; exact hr j v hj
theorem kep_sets {g : Nat} (vs : List Value) : ∀ (w : World) (o : Nat), Kep (fun b => b ≠ g) w (w.setCells g o vs) := by
  induction vs with
  | nil => exact fun w _ => Kep.refl _ w
  | cons v vs ih => exact fun w o => (kep_set (fun h => h rfl) v).trans (ih _ _)
theorem HalfX.there {e : TypeId} {S : Nat → Prop} {w : World} {g n : Nat} {es : List α} (h : HalfX C e S w g n es) {k : Nat} (hk : k < n) : w.there g (k * C.size) C.size := fun j hj => by
  have hm := Nat.mul_le_mul_right C.size (show k + 1 ≤ n from hk)
  rw [Nat.succ_mul] at hm
  have := h.2.1 (k * C.size + j) (by omega)
  rw [Nat.zero_add] at this
  exact this
/-- The next element is stored. -/
theorem HalfX.next {e : TypeId} {S : Nat → Prop} {w : World} {g n : Nat} {es : List α} (h : HalfX C e S w g n es) (hk : es.length < n) {vs : List Value} {d : α} (hd : C.on S w vs d) (hS : ¬ S g) :
    HalfX C e S (w.setCells g (es.length * C.size) vs) g n (es ++ [d]) := by
  have hth := h.there hk
  obtain ⟨h1, h2, raw, hm, hr⟩ := h
  have hl := C.len hd
  have hks : Kep (fun b => b ≠ g) w (w.setCells g (es.length * C.size) vs) := kep_sets vs w _
  have hkS : Kep S w (w.setCells g (es.length * C.size) vs) := hks.mono fun b hb e => hS (e ▸ hb)
  refine ⟨Nat.lt_of_lt_of_le h1 hks.size, World.there_setCells h2 _ _ _, raw ++ [vs], (hm.append (Mean.single hd)).keep hkS fun _ _ h => h, ?_⟩
  have hfl := flat_len hm.lens
  have e1 := World.rangeAt_setCells_apart hr g (es.length * C.size) vs (.inr (.inl (by rw [hfl, hm.1]; omega)))
  have e2 := World.rangeAt_setCells_same w g (es.length * C.size) vs (by rw [hl]; exact hth)
  intro j v hj
  rw [List.flatten_append, List.flatten_singleton] at hj
  by_cases hlt : j < raw.flatten.length
  · rw [List.getElem?_append_left hlt] at hj
    exact e1 j v hj
  · rw [List.getElem?_append_right (by omega)] at hj
    have := e2 _ v hj
    rw [hfl, hm.1] at this
    rw [hfl, hm.1] at hlt
    rw [show es.length * C.size + (j - es.length * C.size) = 0 + j by omega] at this
    exact this
theorem HalfX.ron {e : TypeId} {S T : Nat → Prop} {w : World} {g n : Nat} {es : List α} (h : HalfX C e S w g n es) (hn : es.length = n) (hm : n ≤ maxLen) (hg : T g) (hS : ∀ b, b < w.heap.size → S b → T b) : ROn C T w (.slice (some ⟨g, 0, none⟩) n n) es := by
  obtain ⟨h1, h2, raw, hmn, hr⟩ := h
  subst hn
  exact ⟨some ⟨g, 0, none⟩, es.length, raw, rfl, Nat.le_refl _, hm, (fun h => by cases h), hmn.keep (Kep.refl _ _) hS, .inr ⟨g, 0, rfl, h1, hg, hr⟩⟩
end
end Go.Proofs.Ytgacfihidpijeaa.MM
