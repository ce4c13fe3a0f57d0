/-
  The way down a tree of places, step by step: what holds at each, so that bytes known to be alike need not be asked for. No program; no condition.
-/
import Derived.Test.YtoohkhcmakcggaaLzInv
set_option linter.unusedVariables false
namespace Go.Proofs.Ytoohkhcmakcggaa.LZ

structure Way (b : List UInt8) (a : Nat) (t : Tree) (c : Int) (V : List Int) (lo hi al ar : Nat) : Prop where
  rep : Rep V c t
  ok : Ok b (most b a) t
  lt : ∀ x, t.has x → x < a
  loLt : lo < V.length
  hiLt : hi < V.length
  ne : lo ≠ hi
  alo : Apart t lo
  ahi : Apart t hi
  low : ∀ x, t.has x → Le b al a x
  high : ∀ x, t.has x → Le b ar x a
  alK : al ≤ most b a
  arK : ar ≤ most b a
theorem Way.start {b : List UInt8} {a : Nat} {t : Tree} {c : Int} {U : List Int} (ha : a + 4 ≤ b.length) (hU : U.length = 2 * b.length) (hr : Rep U c t) (h : Holds4 b a (four b a) t) : Way b a t c U (2 * a) (2 * a + 1) 4 4 where
  rep := hr
  ok := h.1
  lt := fun x hx => (h.2.1 x hx).1
  loLt := by omega
  hiLt := by omega
  ne := by omega
  alo := fun x hx => by have := (h.2.1 x hx).1; omega
  ahi := fun x hx => by have := (h.2.1 x hx).1; omega
  low := fun x hx => by
    have h2 := h.2.1 x hx
    exact ((take_same (by omega) (by omega)).1 h2.2.2).symm.le
  high := fun x hx => by
    have h2 := h.2.1 x hx
    exact ((take_same (by omega) (by omega)).1 h2.2.2).le
  alK := by unfold most; omega
  arK := by unfold most; omega
theorem Way.known {b : List UInt8} {a p : Nat} {l r : Tree} {c : Int} {V : List Int} {lo hi al ar : Nat} (h : Way b a (.node p l r) c V lo hi al ar) : Same b (min al ar) p a :=
  ((h.high p (.inl rfl)).mono (by omega)).anti ((h.low p (.inl rfl)).mono (by omega))
theorem rep_low {V : List Int} : ∀ {t : Tree} {c : Int}, Rep V c t → -65536 ≤ c
  | .leaf, c, h => by unfold Rep at h; omega
  | .node p _ _, c, ⟨h, _⟩ => by omega
theorem rep_lt {V : List Int} {p : Nat} : ∀ {t : Tree} {c : Int}, Rep V c t → (∀ x, t.has x → x < p) → c < (p : Int)
  | .leaf, c, h, _ => by unfold Rep at h; omega
  | .node q _ _, c, ⟨h, _⟩, hx => by have := hx q (.inl rfl); omega
/-- The cells under a place. -/
theorem Way.cells {b : List UInt8} {a p : Nat} {l r : Tree} {c : Int} {V : List Int} {lo hi al ar : Nat} (h : Way b a (.node p l r) c V lo hi al ar) :
    c = (p : Int) ∧ ∃ cl cr, V[2 * p]? = some cl ∧ V[2 * p + 1]? = some cr ∧ Rep V cl l ∧ Rep V cr r ∧ -65536 ≤ cl ∧ -65536 ≤ cr ∧ cl < (p : Int) ∧ cr < (p : Int) ∧ p < a ∧ lo ≠ 2 * p ∧ lo ≠ 2 * p + 1 ∧ hi ≠ 2 * p ∧ hi ≠ 2 * p + 1 := by
  obtain ⟨h0, cl, cr, h1, h2, h3, h4⟩ := h.rep
  obtain ⟨o1, o2, _, _, _⟩ := h.ok
  exact ⟨h0, cl, cr, h1, h2, h3, h4, rep_low h3, rep_low h4, rep_lt h3 fun x hx => (o1 x hx).1, rep_lt h4 fun x hx => (o2 x hx).1, h.lt p (.inl rfl), (h.alo p (.inl rfl)).1, (h.alo p (.inl rfl)).2, (h.ahi p (.inl rfl)).1, (h.ahi p (.inl rfl)).2⟩
theorem Way.right {b : List UInt8} {a p : Nat} {l r : Tree} {c cr : Int} {V : List Int} {lo hi al ar : Nat} (ha : a ≤ b.length) (h : Way b a (.node p l r) c V lo hi al ar) (hcr : Rep V cr r) : Way b a r cr (V.set lo (p : Int)) (2 * p + 1) hi (alikeAt b p a) ar := by
  have hp := h.lt p (.inl rfl)
  obtain ⟨h0, cl, cr', h1, h2, h3, h4⟩ := h.rep
  obtain ⟨o1, o2, _, _, o5⟩ := h.ok
  have hlen := (List.getElem?_eq_some_iff.1 h2).1
  have hset : ∀ i, i ≠ lo → (V.set lo (p : Int))[i]? = V[i]? := fun i h => by rw [List.getElem?_set_ne (Ne.symm h)]
  exact
  { rep := hcr.same fun x hx => ⟨hset _ (Ne.symm (h.alo x (.inr (.inr hx))).1), hset _ (Ne.symm (h.alo x (.inr (.inr hx))).2)⟩
    ok := o5
    lt := fun x hx => h.lt x (.inr (.inr hx))
    loLt := by simpa using hlen
    hiLt := by simpa using h.hiLt
    ne := Ne.symm (h.ahi p (.inl rfl)).2
    alo := fun x hx => by have := (o2 x hx).1; omega
    ahi := fun x hx => h.ahi x (.inr (.inr hx))
    low := fun x hx => (alike_same (Nat.le_of_lt hp) ha).symm.le_of ((o2 x hx).2.mono (alike_most (Nat.le_of_lt hp) ha))
    high := fun x hx => h.high x (.inr (.inr hx))
    alK := alike_most (Nat.le_of_lt hp) ha
    arK := h.arK }
theorem Way.left {b : List UInt8} {a p : Nat} {l r : Tree} {c cl : Int} {V : List Int} {lo hi al ar : Nat} (ha : a ≤ b.length) (h : Way b a (.node p l r) c V lo hi al ar) (hcl : Rep V cl l) : Way b a l cl (V.set hi (p : Int)) lo (2 * p) al (alikeAt b p a) := by
  have hp := h.lt p (.inl rfl)
  obtain ⟨h0, cl', cr', h1, h2, h3, h4⟩ := h.rep
  obtain ⟨o1, o2, _, o4, _⟩ := h.ok
  have hlen := (List.getElem?_eq_some_iff.1 h1).1
  have hset : ∀ i, i ≠ hi → (V.set hi (p : Int))[i]? = V[i]? := fun i h => by rw [List.getElem?_set_ne (Ne.symm h)]
  exact
  { rep := hcl.same fun x hx => ⟨hset _ (Ne.symm (h.ahi x (.inr (.inl hx))).1), hset _ (Ne.symm (h.ahi x (.inr (.inl hx))).2)⟩
    ok := o4
    lt := fun x hx => h.lt x (.inr (.inl hx))
    loLt := by simpa using h.loLt
    hiLt := by simpa using hlen
    ne := (h.alo p (.inl rfl)).1
    alo := fun x hx => h.alo x (.inr (.inl hx))
    ahi := fun x hx => by have := (o1 x hx).1; omega
    low := fun x hx => h.low x (.inr (.inl hx))
    high := fun x hx => ((o1 x hx).2.mono (alike_most (Nat.le_of_lt hp) ha)).of_same (alike_same (Nat.le_of_lt hp) ha)
    alK := h.alK
    arK := alike_most (Nat.le_of_lt hp) ha }
/-- Of the bytes that count from two places on, so many are alike. -/
theorem alike_counts {b : List UInt8} {p a K : Nat} (hp : p ≤ a) (hK : most b a = K) (ha : a + K ≤ b.length) : alikeL ((b.drop a).take K).length ((b.drop p).take K) ((b.drop a).take K) = alikeAt b p a := by
  have hal : a ≤ b.length := by omega
  have l1 : ((b.drop p).take K).length = K := by rw [List.length_take, List.length_drop]; omega
  have l2 : ((b.drop a).take K).length = K := by rw [List.length_take, List.length_drop]; omega
  have hm := alike_most hp hal
  rw [hK] at hm
  have hs := alike_same hp hal
  rw [l2]
  refine alikeL_stop ?_ hm (by omega) (by omega) ?_
  · rw [List.take_take, List.take_take, Nat.min_eq_left hm]
    exact (take_same (by omega) (by omega)).2 hs
  · by_cases e : alikeAt b p a = K
    · exact .inl e
    · have hne := alike_part hp hal (by rw [hK]; exact e)
      refine .inr (.inr (.inr ⟨by omega, by omega, ?_⟩))
      rw [List.getElem_take, List.getElem_take, List.getElem_drop, List.getElem_drop]
      rw [at_get (by omega), at_get (by omega)] at hne
      exact fun h => hne (congrArg UInt8.toNat h)
end Go.Proofs.Ytoohkhcmakcggaa.LZ
