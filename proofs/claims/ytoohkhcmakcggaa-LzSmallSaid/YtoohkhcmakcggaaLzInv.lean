/-
  Trees of places, one for each four bytes: what they tell at a place is its match; what is left behind it. No program. Condition: a place is below 65536.
-/
import Derived.Test.YtoohkhcmakcggaaLzTree
set_option linter.unusedVariables false
namespace Go.Proofs.Ytoohkhcmakcggaa.LZ

/-- The four bytes from a place on. -/
def four (b : List UInt8) (x : Nat) : List UInt8 := (b.drop x).take 4
/-- This tree holds what places of these bytes there were: nearer ones stand for such as are alike. -/
def Holds4 (b : List UInt8) (a : Nat) (key : List UInt8) (t : Tree) : Prop :=
  Ok b (most b a) t ∧ (∀ x, t.has x → x < a ∧ x + 4 ≤ b.length ∧ four b x = key) ∧ (∀ x, x < a → x + 4 ≤ b.length → four b x = key → ∃ y, t.has y ∧ x ≤ y ∧ Same b (most b a) x y)
/-- Cells that hold, for each four bytes, the tree of them. -/
def Places (b : List UInt8) (a : Nat) (U : List Int) (tops : List UInt8 → Int) : Prop :=
  U.length = 2 * b.length ∧ ∀ key, ∃ t, Rep U (tops key) t ∧ Holds4 b a key t
/-- Places with one more top. -/
def topped (tops : List UInt8 → Int) (key : List UInt8) (c : Int) : List UInt8 → Int := fun k => if k = key then c else tops k

theorem Places.none (b : List UInt8) (U : List Int) (hU : U.length = 2 * b.length) : Places b 0 U (fun _ => -65536) :=
  ⟨hU, fun key => ⟨.leaf, rfl, trivial, fun x h => h.elim, fun x h => absurd h (Nat.not_lt_zero _)⟩⟩
theorem Holds4.next {b : List UInt8} {a : Nat} {key : List UInt8} {t : Tree} (h : Holds4 b a key t) (hno : a + 4 ≤ b.length → four b a ≠ key) : Holds4 b (a + 1) key t := by
  obtain ⟨h1, h2, h3⟩ := h
  refine ⟨h1.mono (most_mono b a), fun x hx => ⟨by have := (h2 x hx).1; omega, (h2 x hx).2⟩, fun x hx hl hk => ?_⟩
  by_cases e : x = a
  · subst e; exact absurd hk (hno hl)
  · obtain ⟨y, y1, y2, y3⟩ := h3 x (by omega) hl hk
    exact ⟨y, y1, y2, y3.mono (most_mono b a)⟩
/-- Where fewer than four bytes are left, nothing is told. -/
theorem match_end {b : List UInt8} {a : Nat} (h : b.length < a + 4) : matchL b a = (0, 0) :=
  matchL_none fun d h1 h2 _ => by have := alikeAt_le b (a - d) a; omega
theorem Places.pass {b : List UInt8} {a : Nat} {U : List Int} {tops : List UInt8 → Int} (h : Places b a U tops) (hl : b.length < a + 4) : Places b (a + 1) U tops :=
  ⟨h.1, fun key => by obtain ⟨t, h1, h2⟩ := h.2 key; exact ⟨t, h1, h2.next fun h => by omega⟩⟩

/-- What the way down tells is the match. -/
theorem holds_match {b : List UInt8} {a : Nat} {t : Tree} {U : List Int} {lo hi : Nat} (ha : a + 4 ≤ b.length) (h6 : a ≤ 65535) (h : Holds4 b a (four b a) t) : ((go b a t U lo hi 0 0).2.2, (go b a t U lo hi 0 0).2.1) = matchL b a := by
  obtain ⟨h1, h2, h3⟩ := h
  have hal : a ≤ b.length := by omega
  obtain ⟨g1, _, g3⟩ := go_best hal t U lo hi 0 0 h1 fun x hx => (h2 x hx).1
  have h4 : ∀ x, t.has x → 4 ≤ alikeAt b x a := fun x hx => (four_alike (Nat.le_of_lt (h2 x hx).1)).2 ⟨ha, (h2 x hx).2.2⟩
  -- any place of four that are alike is told by one that is there
  have hrep : ∀ x, x < a → 4 ≤ alikeAt b x a → ∃ y, t.has y ∧ x ≤ y ∧ alikeAt b y a = alikeAt b x a := by
    intro x hx hx4
    have hk := (four_alike (Nat.le_of_lt hx)).1 hx4
    obtain ⟨y, y1, y2, y3⟩ := h3 x hx (by omega) hk.2
    have hy := (h2 y y1).1
    refine ⟨y, y1, y2, ?_⟩
    have ex : ∀ m, m ≤ alikeAt b y a ↔ m ≤ alikeAt b x a := fun m => by
      rw [le_alike (Nat.le_of_lt hy) hal, le_alike (Nat.le_of_lt hx) hal]
      constructor
      · rintro ⟨q1, q2⟩; exact ⟨q1, (y3.mono q1).trans q2⟩
      · rintro ⟨q1, q2⟩; exact ⟨q1, (y3.mono q1).symm.trans q2⟩
    exact Nat.le_antisymm ((ex _).1 (Nat.le_refl _)) ((ex _).2 (Nat.le_refl _))
  generalize go b a t U lo hi 0 0 = G at *
  obtain ⟨V, s, d⟩ := G
  simp only at g1 g3 ⊢
  rcases g3 with g3 | ⟨p, p1, p2, p3, p4⟩
  · simp only [Prod.mk.injEq] at g3
    obtain ⟨rfl, rfl⟩ := g3
    refine (matchL_none fun d d1 d2 _ => ?_).symm
    by_cases hd : alikeAt b (a - d) a < 4
    · exact hd
    · obtain ⟨y, y1, _, _⟩ := hrep (a - d) (by omega) (by omega)
      have := h4 y y1
      have := g1 y y1
      omega
  · simp only [Prod.mk.injEq] at p3
    obtain ⟨rfl, rfl⟩ := p3
    have hp := (h2 p p1).1
    have hp4 := h4 p p1
    have e : a - (a - p) = p := by omega
    have := matchL_best (b := b) (a := a) (x := a - p) (by omega) (by omega) (by omega) (by rw [e]; exact hp4) (fun d d1 d2 => ?_) (fun d d1 d2 _ => ?_)
    · rw [this, e]
    · rw [e]
      by_cases hd : alikeAt b (a - d) a < 4
      · omega
      · obtain ⟨y, y1, y2, y3⟩ := hrep (a - d) (by omega) (by omega)
        have q1 := g1 y y1
        have q2 := p4 y y1
        rw [y3] at q1 q2
        by_cases he : alikeAt b (a - d) a = alikeAt b p a
        · have := q2 he; omega
        · omega
    · rw [e]
      by_cases hd : alikeAt b (a - d) a < 4
      · omega
      · obtain ⟨y, y1, y2, y3⟩ := hrep (a - d) (by omega) (by omega)
        have q1 := g1 y y1
        omega

/-- The place becomes the top; the tree is parted under it. -/
theorem Places.add {b : List UInt8} {a : Nat} {U : List Int} {tops : List UInt8 → Int} {t : Tree} (h : Places b a U tops) (ha : a + 4 ≤ b.length) (hr : Rep U (tops (four b a)) t) (ht : Holds4 b a (four b a) t) :
    Places b (a + 1) (go b a t U (2 * a) (2 * a + 1) 0 0).1 (topped tops (four b a) a) := by
  obtain ⟨h1, h2, h3⟩ := ht
  have hal : a ≤ b.length := by omega
  have hlt : ∀ x, t.has x → x < a := fun x hx => (h2 x hx).1
  obtain ⟨g1, g2, cl, cr, g3, g4, g5, g6⟩ := go_rep hal t (tops (four b a)) U (2 * a) (2 * a + 1) 0 0 hr h1 hlt (by have := h.1; omega) (by have := h.1; omega) (by omega)
    (fun x hx => by have := hlt x hx; omega) (fun x hx => by have := hlt x hx; omega)
  obtain ⟨s1, s2, s3, s4, s5⟩ := split_ok hal t h1 hlt
  refine ⟨by rw [g1]; exact h.1, fun key => ?_⟩
  by_cases hk : key = four b a
  · subst hk
    refine ⟨.node a (split b a t).1 (split b a t).2, by unfold topped; rw [if_pos rfl]; exact ⟨rfl, cl, cr, g3, g4, g5, g6⟩, ?_, fun x hx => ?_, fun x hx hl hk => ?_⟩
    · exact Ok.mono (most_mono b a) (show Ok b (most b a) (.node a (split b a t).1 (split b a t).2) from ⟨fun x hx => ⟨hlt x ((split_has t x).1 hx), s3 x hx⟩, fun x hx => ⟨hlt x ((split_has t x).2 hx), s4 x hx⟩, s5, s1, s2⟩)
    · rcases hx with rfl | hx | hx
      · exact ⟨by omega, ha, rfl⟩
      · have := h2 x ((split_has t x).1 hx); exact ⟨by omega, this.2⟩
      · have := h2 x ((split_has t x).2 hx); exact ⟨by omega, this.2⟩
    · by_cases e : x = a
      · exact ⟨a, .inl rfl, by omega, fun i _ => by rw [e]⟩
      · obtain ⟨y, y1, y2, y3⟩ := h3 x (by omega) hl hk
        rcases split_all t y y1 with q | q | q
        · exact ⟨y, .inr (.inl q), y2, y3.mono (most_mono b a)⟩
        · exact ⟨y, .inr (.inr q), y2, y3.mono (most_mono b a)⟩
        · have := alike_same (Nat.le_of_lt (hlt y y1)) hal
          rw [q] at this
          exact ⟨a, .inl rfl, by omega, (y3.trans this).mono (most_mono b a)⟩
  · obtain ⟨t2, r2, k2⟩ := h.2 key
    refine ⟨t2, ?_, k2.next fun _ e => hk e.symm⟩
    unfold topped
    rw [if_neg hk]
    refine r2.same fun x hx => ?_
    have hx2 := k2.2.1 x hx
    have hne : ∀ y, t.has y → y ≠ x := fun y hy e => hk (by rw [← hx2.2.2, ← e, (h2 y hy).2.2])
    exact ⟨g2 _ (by omega) (by omega) fun y hy => by have := hne y hy; omega, g2 _ (by omega) (by omega) fun y hy => by have := hne y hy; omega⟩
end Go.Proofs.Ytoohkhcmakcggaa.LZ
