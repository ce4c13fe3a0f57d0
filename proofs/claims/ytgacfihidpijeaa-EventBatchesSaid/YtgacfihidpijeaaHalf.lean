/-
  A row by a codec that is filled from its head on, element by element. No program; no condition.
-/
import Derived.Test.YtgacfihidpijeaaCodecMore
import Derived.Deep.MidRow
set_option linter.unusedVariables false
namespace Go.Proofs.Ytgacfihidpijeaa.MM
open Go Go.RowKit

section
variable {α : Type} (C : Codec α)
def HalfX (e : TypeId) (S : Nat → Prop) (w : World) (g n : Nat) (es : List α) : Prop :=
  g < w.heap.size ∧ w.there g 0 (n * C.size) ∧ ∃ raw, Mean C S w raw es ∧ w.rangeAt g 0 raw.flatten
variable {C}
theorem HalfX.start {e : TypeId} {S : Nat → Prop} {B : Nat} {w : World} {g n : Nat} {xs : List Value} (h : w.ownsRow B e C.size (.slice (some ⟨g, 0, none⟩) n n) n xs) : HalfX C e S w g n [] := by
  rcases h.2 with ⟨hv, _⟩ | ⟨g', cap, cur, hv, hb, hh, hn, hm, hs, ht⟩
  · cases hv
  · simp only [Value.slice.injEq, Option.some.injEq, Addr.mk.injEq] at hv
    obtain ⟨⟨rfl, _⟩, _, rfl⟩ := hv
    refine ⟨(Array.getElem?_eq_some_iff.1 hh).1, fun j hj => ⟨?_, frozen_of_row w g _ cur _ hh⟩, [], Mean.nil_ _ _, fun j v hj => by simp at hj⟩
    obtain ⟨u, hu⟩ : ∃ u, (cur.toList.take (n * C.size))[j]? = some u := ⟨_, List.getElem?_eq_getElem (by rw [List.length_take, Array.length_toList]; omega)⟩
    have := Lib.cells_of_row hh (n * C.size) j u hu
    rw [add_at] at this
    rw [this]; rfl
theorem HalfX.keep {e : TypeId} {S T : Nat → Prop} {w w' : World} {g n : Nat} {es : List α} (h : HalfX C e S w g n es) (hk : Kep T w w') (hg : T g) (hS : ∀ b, b < w.heap.size → S b → T b) : HalfX C e S w' g n es := by
  obtain ⟨h1, h2, raw, hm, hr⟩ := h
  refine ⟨Nat.lt_of_lt_of_le h1 hk.size, fun j hj => ?_, raw, ⟨hm.1, fun i hi hi' => ?_⟩, fun j v hj => ?_⟩
  · have hb := hk.block g h1 hg
    rw [World.cell?_of_block (a := ⟨g, 0 + j, none⟩) hb, World.frozen?_of_block (a := ⟨g, 0 + j, none⟩) hb]
    exact h2 j hj
  · exact C.keep (C.keep (hm.2 i hi hi') (Kep.refl _ _) (T := fun b => S b ∧ b < w.heap.size) fun b hb hs => ⟨hs, hb⟩) (hk.mono' (T := fun b => S b ∧ b < w.heap.size) fun b hb hs => hS b hb hs.1) fun b hb hs => hs.1
  · rw [hk.cell h1 hg]; exact hr j v hj
theorem kep_sets {g : Nat} (vs : List Value) : ∀ (w : World) (o : Nat), Kep (fun b => b ≠ g) w (w.setCells g o vs) := by
  induction vs with
  | nil => exact fun w _ => Kep.refl _ w
  | cons v vs ih => exact fun w o => (kep_set (fun h => h rfl) v).trans (ih _ _)
theorem HalfX.there {e : TypeId} {S : Nat → Prop} {w : World} {g n : Nat} {es : List α} (h : HalfX C e S w g n es) {k : Nat} (hk : k < n) : w.there g (k * C.size) C.size := fun j hj => by
  have hm := Nat.mul_le_mul_right C.size (show k + 1 ≤ n from hk)
  rw [Nat.succ_mul] at hm
  have := h.2.1 (k * C.size + j) (by omega)
  rw [Nat.zero_add] at this
  exact this
/-- The next element is stored. -/
theorem HalfX.next {e : TypeId} {S : Nat → Prop} {w : World} {g n : Nat} {es : List α} (h : HalfX C e S w g n es) (hk : es.length < n) {vs : List Value} {d : α} (hd : C.on S w vs d) (hS : ¬ S g) :
    HalfX C e S (w.setCells g (es.length * C.size) vs) g n (es ++ [d]) := by
  have hth := h.there hk
  obtain ⟨h1, h2, raw, hm, hr⟩ := h
  have hl := C.len hd
  have hks : Kep (fun b => b ≠ g) w (w.setCells g (es.length * C.size) vs) := kep_sets vs w _
  have hkS : Kep S w (w.setCells g (es.length * C.size) vs) := hks.mono fun b hb e => hS (e ▸ hb)
  refine ⟨Nat.lt_of_lt_of_le h1 hks.size, World.there_setCells h2 _ _ _, raw ++ [vs], (hm.append (Mean.single hd)).keep hkS fun _ _ h => h, ?_⟩
  have hfl := flat_len hm.lens
  have e1 := World.rangeAt_setCells_apart hr g (es.length * C.size) vs (.inr (.inl (by rw [hfl, hm.1]; omega)))
  have e2 := World.rangeAt_setCells_same w g (es.length * C.size) vs (by rw [hl]; exact hth)
  intro j v hj
  rw [List.flatten_append, List.flatten_singleton] at hj
  by_cases hlt : j < raw.flatten.length
  · rw [List.getElem?_append_left hlt] at hj
    exact e1 j v hj
  · rw [List.getElem?_append_right (by omega)] at hj
    have := e2 _ v hj
    rw [hfl, hm.1] at this
    rw [hfl, hm.1] at hlt
    rw [show es.length * C.size + (j - es.length * C.size) = 0 + j by omega] at this
    exact this
theorem HalfX.ron {e : TypeId} {S T : Nat → Prop} {w : World} {g n : Nat} {es : List α} (h : HalfX C e S w g n es) (hn : es.length = n) (hm : n ≤ maxLen) (hg : T g) (hS : ∀ b, b < w.heap.size → S b → T b) : ROn C T w (.slice (some ⟨g, 0, none⟩) n n) es := by
  obtain ⟨h1, h2, raw, hmn, hr⟩ := h
  subst hn
  exact ⟨some ⟨g, 0, none⟩, es.length, raw, rfl, Nat.le_refl _, hm, (fun h => by cases h), hmn.keep (Kep.refl _ _) hS, .inr ⟨g, 0, rfl, h1, hg, hr⟩⟩
end
end Go.Proofs.Ytgacfihidpijeaa.MM
