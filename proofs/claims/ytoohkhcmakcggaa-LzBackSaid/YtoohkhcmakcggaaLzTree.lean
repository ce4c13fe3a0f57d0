/-
  Places as trees: the nearest at the top, from side to side sorted by the bytes from them on; what the way down finds is the nearest of the longest; how it parts the tree. No program; no condition.
-/
import Derived.Test.YtoohkhcmakcggaaLzFind
set_option linter.unusedVariables false
namespace Go.Proofs.Ytoohkhcmakcggaa.LZ

/-! ### the bytes from a place on, in order -/
def at_ (b : List UInt8) (i : Nat) : Nat := (b.getD i 0).toNat
def Same (b : List UInt8) (k x y : Nat) : Prop := ∀ i, i < k → at_ b (x + i) = at_ b (y + i)
/-- Of k bytes from here and from there on, the first that part rise. -/
def Le (b : List UInt8) (k x y : Nat) : Prop := ∀ n, n < k → Same b n x y → at_ b (x + n) ≤ at_ b (y + n)
theorem Same.mono {b : List UInt8} {k j x y : Nat} (h : Same b k x y) (hj : j ≤ k) : Same b j x y := fun i hi => h i (by omega)
theorem Same.symm {b : List UInt8} {k x y : Nat} (h : Same b k x y) : Same b k y x := fun i hi => (h i hi).symm
theorem Same.trans {b : List UInt8} {k x y z : Nat} (h : Same b k x y) (h2 : Same b k y z) : Same b k x z := fun i hi => (h i hi).trans (h2 i hi)
theorem Le.mono {b : List UInt8} {k j x y : Nat} (h : Le b k x y) (hj : j ≤ k) : Le b j x y := fun n hn => h n (by omega)
theorem Same.le {b : List UInt8} {k x y : Nat} (h : Same b k x y) : Le b k x y := fun n hn _ => Nat.le_of_eq (h n hn)
/-- What stands between two that are alike is as they. -/
theorem same_between {b : List UInt8} {k x y z : Nat} (h1 : Le b k x y) (h2 : Le b k y z) : ∀ n, n ≤ k → Same b n x z → Same b n x y
  | 0, _, _ => fun i hi => absurd hi (Nat.not_lt_zero _)
  | n + 1, hn, h => by
    have ih := same_between h1 h2 n (by omega) (h.mono (by omega))
    intro i hi
    by_cases e : i = n
    · subst e
      have a1 := h1 i (by omega) ih
      have a2 := h2 i (by omega) (ih.symm.trans (h.mono (by omega)))
      have a3 := h i (by omega)
      omega
    · exact ih i (by omega)
theorem Le.trans {b : List UInt8} {k x y z : Nat} (h1 : Le b k x y) (h2 : Le b k y z) : Le b k x z := by
  intro n hn hs
  have h := same_between h1 h2 n (by omega) hs
  have a1 := h1 n hn h
  have a2 := h2 n hn (h.symm.trans hs)
  omega
theorem Le.anti {b : List UInt8} {k x y : Nat} (h1 : Le b k x y) (h2 : Le b k y x) : Same b k x y :=
  same_between h1 h2 k (Nat.le_refl _) (fun _ _ => rfl)
theorem Same.le_of {b : List UInt8} {k x y z : Nat} (h : Same b k x y) (h2 : Le b k y z) : Le b k x z := h.le.trans h2
theorem Le.of_same {b : List UInt8} {k x y z : Nat} (h : Le b k x y) (h2 : Same b k y z) : Le b k x z := h.trans h2.le
/-- The first that parts tells which is less. -/
theorem le_first {b : List UInt8} {k n x y : Nat} (h : Same b n x y) (hl : at_ b (x + n) < at_ b (y + n)) : Le b k x y := by
  intro m hm hs
  rcases Nat.lt_trichotomy m n with hmn | rfl | hmn
  · exact Nat.le_of_eq (h m hmn)
  · omega
  · have := hs n hmn; omega

/-- How many bytes count at a place. -/
def most (b : List UInt8) (a : Nat) : Nat := min 131 (b.length - a)
theorem most_mono (b : List UInt8) (a : Nat) : most b (a + 1) ≤ most b a := by unfold most; omega
theorem at_get {b : List UInt8} {i : Nat} (h : i < b.length) : at_ b i = b[i].toNat := by simp [at_, List.getD_eq_getElem?_getD, List.getElem?_eq_getElem h]
theorem take_same {b : List UInt8} {k x y : Nat} (hx : x + k ≤ b.length) (hy : y + k ≤ b.length) : (b.drop x).take k = (b.drop y).take k ↔ Same b k x y := by
  constructor
  · intro h i hi
    have := congrArg (fun l => l[i]?) h
    simp only [List.getElem?_take, List.getElem?_drop, hi, if_true] at this
    simp [at_, List.getD_eq_getElem?_getD, this]
  · intro h
    apply List.ext_getElem?
    intro i
    by_cases hi : i < k
    · have := h i hi
      rw [at_get (by omega), at_get (by omega)] at this
      simp only [List.getElem?_take, List.getElem?_drop, hi, if_true]
      rw [List.getElem?_eq_getElem (by omega), List.getElem?_eq_getElem (by omega)]
      exact congrArg some (UInt8.toNat_inj.1 this)
    · simp [List.getElem?_take, hi]
/-- So many are alike, just if they are within what counts, and alike. -/
theorem le_alike {b : List UInt8} {x a m : Nat} (hx : x ≤ a) (ha : a ≤ b.length) : m ≤ alikeAt b x a ↔ m ≤ most b a ∧ Same b m x a := by
  have hle := alikeAt_le b x a
  have ht : (b.drop x).take (alikeAt b x a) = (b.drop a).take (alikeAt b x a) := alikeL_take 131 (b.drop x) (b.drop a)
  rw [take_same (by omega) (by omega)] at ht
  constructor
  · intro h
    exact ⟨by unfold most; omega, ht.mono h⟩
  · rintro ⟨h1, h2⟩
    unfold most at h1
    by_cases hm : m ≤ alikeAt b x a
    · exact hm
    · exfalso
      generalize hA : alikeAt b x a = A at *
      have l1 : A < (b.drop x).length := by rw [List.length_drop]; omega
      have l2 : A < (b.drop a).length := by rw [List.length_drop]; omega
      have e : (b.drop x)[A] = (b.drop a)[A] := by
        have := h2 A (by omega)
        rw [at_get (by omega), at_get (by omega)] at this
        simp only [List.getElem_drop]
        exact UInt8.toNat_inj.1 this
      have := alikeL_next (k := 131) l1 l2 (by omega) ((take_same (by omega) (by omega)).2 ht) e
      unfold alikeAt at hA
      omega
theorem alike_same {b : List UInt8} {x a : Nat} (hx : x ≤ a) (ha : a ≤ b.length) : Same b (alikeAt b x a) x a := ((le_alike hx ha).1 (Nat.le_refl _)).2
theorem alike_most {b : List UInt8} {x a : Nat} (hx : x ≤ a) (ha : a ≤ b.length) : alikeAt b x a ≤ most b a := ((le_alike hx ha).1 (Nat.le_refl _)).1
/-- Where fewer are alike than count, the next ones part. -/
theorem alike_part {b : List UInt8} {x a : Nat} (hx : x ≤ a) (ha : a ≤ b.length) (h : alikeAt b x a ≠ most b a) : at_ b (x + alikeAt b x a) ≠ at_ b (a + alikeAt b x a) := by
  intro e
  have h1 := alike_most hx ha
  have hs := alike_same hx ha
  have := (le_alike (m := alikeAt b x a + 1) hx ha).2 ⟨by omega, fun i hi => by
    by_cases e2 : i = alikeAt b x a
    · rw [e2]; exact e
    · exact hs i (by omega)⟩
  omega

/-! ### trees -/
inductive Tree where
  | leaf : Tree
  | node : Nat → Tree → Tree → Tree
def Tree.has : Tree → Nat → Prop
  | .leaf, _ => False
  | .node p l r, x => x = p ∨ l.has x ∨ r.has x
/-- Cells read as a tree, of which this is the top. -/
def Rep (U : List Int) : Int → Tree → Prop
  | c, .leaf => c = -65536
  | c, .node p l r => c = (p : Int) ∧ ∃ cl cr, U[2 * p]? = some cl ∧ U[2 * p + 1]? = some cr ∧ Rep U cl l ∧ Rep U cr r
/-- Nearer ones above, sorted from side to side, none twice. -/
def Ok (b : List UInt8) (k : Nat) : Tree → Prop
  | .leaf => True
  | .node p l r => (∀ x, l.has x → x < p ∧ Le b k x p) ∧ (∀ x, r.has x → x < p ∧ Le b k p x) ∧ (∀ x, l.has x → ¬ r.has x) ∧ Ok b k l ∧ Ok b k r
theorem Ok.mono {b : List UInt8} {k j : Nat} (hj : j ≤ k) : ∀ {t : Tree}, Ok b k t → Ok b j t
  | .leaf, _ => trivial
  | .node p l r, ⟨h1, h2, h3, h4, h5⟩ => ⟨fun x hx => ⟨(h1 x hx).1, (h1 x hx).2.mono hj⟩, fun x hx => ⟨(h2 x hx).1, (h2 x hx).2.mono hj⟩, h3, h4.mono hj, h5.mono hj⟩
theorem Rep.same {U V : List Int} : ∀ {t : Tree} {c : Int}, Rep U c t → (∀ x, t.has x → V[2 * x]? = U[2 * x]? ∧ V[2 * x + 1]? = U[2 * x + 1]?) → Rep V c t
  | .leaf, _, h, _ => h
  | .node p l r, c, ⟨h0, cl, cr, h1, h2, h3, h4⟩, hs =>
    ⟨h0, cl, cr, by rw [(hs p (.inl rfl)).1]; exact h1, by rw [(hs p (.inl rfl)).2]; exact h2, h3.same fun x hx => hs x (.inr (.inl hx)), h4.same fun x hx => hs x (.inr (.inr hx))⟩

/-- A tree parted at a place: what is below its bytes, what is above. -/
def split (b : List UInt8) (a : Nat) : Tree → Tree × Tree
  | .leaf => (.leaf, .leaf)
  | .node p l r =>
    if alikeAt b p a = most b a then (l, r)
    else if at_ b (p + alikeAt b p a) < at_ b (a + alikeAt b p a) then (.node p l (split b a r).1, (split b a r).2)
    else ((split b a l).1, .node p (split b a l).2 r)
/-- The way down: the cells behind it, the longest, how far back. -/
def go (b : List UInt8) (a : Nat) : Tree → List Int → Nat → Nat → Nat → Nat → List Int × Nat × Nat
  | .leaf, U, lo, hi, s, d => ((U.set lo (-65536)).set hi (-65536), s, d)
  | .node p l r, U, lo, hi, s, d =>
    if alikeAt b p a = most b a then ((U.set lo (U.getD (2 * p) 0)).set hi (U.getD (2 * p + 1) 0), if s < alikeAt b p a then alikeAt b p a else s, if s < alikeAt b p a then a - p else d)
    else if at_ b (p + alikeAt b p a) < at_ b (a + alikeAt b p a) then go b a r (U.set lo p) (2 * p + 1) hi (if s < alikeAt b p a then alikeAt b p a else s) (if s < alikeAt b p a then a - p else d)
    else go b a l (U.set hi p) lo (2 * p) (if s < alikeAt b p a then alikeAt b p a else s) (if s < alikeAt b p a then a - p else d)

theorem split_has {b : List UInt8} {a : Nat} : ∀ (t : Tree) (x : Nat), ((split b a t).1.has x → t.has x) ∧ ((split b a t).2.has x → t.has x)
  | .leaf, x => ⟨id, id⟩
  | .node p l r, x => by
    have h1 := split_has (b := b) (a := a) l x
    have h2 := split_has (b := b) (a := a) r x
    unfold split
    split
    · exact ⟨fun h => .inr (.inl h), fun h => .inr (.inr h)⟩
    · split
      · exact ⟨fun h => by rcases h with h | h | h; exact .inl h; exact .inr (.inl h); exact .inr (.inr (h2.1 h)), fun h => .inr (.inr (h2.2 h))⟩
      · exact ⟨fun h => .inr (.inl (h1.1 h)), fun h => by rcases h with h | h | h; exact .inl h; exact .inr (.inl (h1.2 h)); exact .inr (.inr h)⟩
theorem split_all {b : List UInt8} {a : Nat} : ∀ (t : Tree) (x : Nat), t.has x → (split b a t).1.has x ∨ (split b a t).2.has x ∨ alikeAt b x a = most b a
  | .leaf, x, h => h.elim
  | .node p l r, x, h => by
    have h1 := split_all (b := b) (a := a) l x
    have h2 := split_all (b := b) (a := a) r x
    unfold split
    split
    · rename_i hk
      rcases h with rfl | h | h
      · exact .inr (.inr hk)
      · exact .inl h
      · exact .inr (.inl h)
    · split
      · rcases h with rfl | h | h
        · exact .inl (.inl rfl)
        · exact .inl (.inr (.inl h))
        · rcases h2 h with h | h | h
          · exact .inl (.inr (.inr h))
          · exact .inr (.inl h)
          · exact .inr (.inr h)
      · rcases h with rfl | h | h
        · exact .inr (.inl (.inl rfl))
        · rcases h1 h with h | h | h
          · exact .inl h
          · exact .inr (.inl (.inr (.inl h)))
          · exact .inr (.inr h)
        · exact .inr (.inl (.inr (.inr h)))
theorem split_ok {b : List UInt8} {a : Nat} (ha : a ≤ b.length) : ∀ (t : Tree), Ok b (most b a) t → (∀ x, t.has x → x < a) →
    Ok b (most b a) (split b a t).1 ∧ Ok b (most b a) (split b a t).2 ∧ (∀ x, (split b a t).1.has x → Le b (most b a) x a) ∧ (∀ x, (split b a t).2.has x → Le b (most b a) a x) ∧ (∀ x, (split b a t).1.has x → ¬ (split b a t).2.has x)
  | .leaf, _, _ => ⟨trivial, trivial, fun x h => h.elim, fun x h => h.elim, fun x h => h.elim⟩
  | .node p l r, ⟨h1, h2, h3, h4, h5⟩, hlt => by
    have i1 := split_ok ha l h4 fun x hx => hlt x (.inr (.inl hx))
    have i2 := split_ok ha r h5 fun x hx => hlt x (.inr (.inr hx))
    have hp : p < a := hlt p (.inl rfl)
    have hs := alike_same (b := b) (Nat.le_of_lt hp) ha
    have hpart := alike_part (b := b) (Nat.le_of_lt hp) ha
    unfold split
    split
    · rename_i hk
      rw [hk] at hs
      exact ⟨h4, h5, fun x hx => (h1 x hx).2.of_same hs, fun x hx => hs.symm.le_of (h2 x hx).2, h3⟩
    · rename_i hk
      split
      · rename_i hl
        have hle : Le b (most b a) p a := le_first hs hl
        refine ⟨⟨h1, fun x hx => h2 x ((split_has r x).1 hx), fun x hx hx2 => h3 x hx ((split_has r x).1 hx2), h4, i2.1⟩, i2.2.1, fun x hx => ?_, i2.2.2.2.1, fun x hx hx2 => ?_⟩
        · rcases hx with rfl | hx | hx
          · exact hle
          · exact (h1 x hx).2.trans hle
          · exact i2.2.2.1 x hx
        · rcases hx with rfl | hx | hx
          · have := (h2 x ((split_has r x).2 hx2)).1; omega
          · exact h3 x hx ((split_has r x).2 hx2)
          · exact i2.2.2.2.2 x hx hx2
      · rename_i hl
        have hle : Le b (most b a) a p := le_first hs.symm (by have := hpart hk; omega)
        refine ⟨i1.1, ⟨fun x hx => h1 x ((split_has l x).2 hx), h2, fun x hx hx2 => h3 x ((split_has l x).2 hx) hx2, i1.2.1, h5⟩, i1.2.2.1, fun x hx => ?_, fun x hx hx2 => ?_⟩
        · rcases hx with rfl | hx | hx
          · exact hle
          · exact i1.2.2.2.1 x hx
          · exact hle.trans (h2 x hx).2
        · rcases hx2 with rfl | hx2 | hx2
          · have := (h1 x ((split_has l x).1 hx)).1; omega
          · exact i1.2.2.2.2 x hx hx2
          · exact h3 x ((split_has l x).1 hx) hx2

/-- Neither cell is one of the tree's. -/
def Apart (t : Tree) (i : Nat) : Prop := ∀ x, t.has x → i ≠ 2 * x ∧ i ≠ 2 * x + 1
theorem go_rep {b : List UInt8} {a : Nat} (ha : a ≤ b.length) : ∀ (t : Tree) (c : Int) (U : List Int) (lo hi s d : Nat), Rep U c t → Ok b (most b a) t → (∀ x, t.has x → x < a) → lo < U.length → hi < U.length → lo ≠ hi → Apart t lo → Apart t hi →
    (go b a t U lo hi s d).1.length = U.length ∧ (∀ i, i ≠ lo → i ≠ hi → Apart t i → (go b a t U lo hi s d).1[i]? = U[i]?) ∧
    ∃ cl cr, (go b a t U lo hi s d).1[lo]? = some cl ∧ (go b a t U lo hi s d).1[hi]? = some cr ∧ Rep (go b a t U lo hi s d).1 cl (split b a t).1 ∧ Rep (go b a t U lo hi s d).1 cr (split b a t).2
  | .leaf, c, U, lo, hi, s, d, h, _, _, hlo, hhi, hne, _, _ => by
    unfold go split
    refine ⟨by simp, fun i h1 h2 _ => by rw [List.getElem?_set_ne (Ne.symm h2), List.getElem?_set_ne (Ne.symm h1)], -65536, -65536, ?_, ?_, rfl, rfl⟩
    · rw [List.getElem?_set_ne (Ne.symm hne), List.getElem?_set_self hlo]
    · rw [List.getElem?_set_self (by simpa using hhi)]
  | .node p l r, c, U, lo, hi, s, d, ⟨h0, cl, cr, hl, hr, rl, rr⟩, ⟨h1, h2, h3, h4, h5⟩, hlt, hlo, hhi, hne, alo, ahi => by
    have hp : p < a := hlt p (.inl rfl)
    have blo := alo p (.inl rfl)
    have bhi := ahi p (.inl rfl)
    have hl2 := (List.getElem?_eq_some_iff.1 hl).1
    have hr2 := (List.getElem?_eq_some_iff.1 hr).1
    unfold go split
    split
    · have e1 : U.getD (2 * p) 0 = cl := by rw [List.getD_eq_getElem?_getD, hl]; rfl
      have e2 : U.getD (2 * p + 1) 0 = cr := by rw [List.getD_eq_getElem?_getD, hr]; rfl
      rw [e1, e2]
      have hoth : ∀ i, i ≠ lo → i ≠ hi → ((U.set lo cl).set hi cr)[i]? = U[i]? := fun i h1 h2 => by rw [List.getElem?_set_ne (Ne.symm h2), List.getElem?_set_ne (Ne.symm h1)]
      refine ⟨by simp, fun i h1 h2 _ => hoth i h1 h2, cl, cr, ?_, ?_, ?_, ?_⟩
      · rw [List.getElem?_set_ne (Ne.symm hne), List.getElem?_set_self hlo]
      · rw [List.getElem?_set_self (by simpa using hhi)]
      · refine rl.same fun x hx => ?_
        have q1 := alo x (.inr (.inl hx))
        have q2 := ahi x (.inr (.inl hx))
        exact ⟨hoth _ (Ne.symm q1.1) (Ne.symm q2.1), hoth _ (Ne.symm q1.2) (Ne.symm q2.2)⟩
      · refine rr.same fun x hx => ?_
        have q1 := alo x (.inr (.inr hx))
        have q2 := ahi x (.inr (.inr hx))
        exact ⟨hoth _ (Ne.symm q1.1) (Ne.symm q2.1), hoth _ (Ne.symm q1.2) (Ne.symm q2.2)⟩
    · split
      · have hset : ∀ i, i ≠ lo → (U.set lo (p : Int))[i]? = U[i]? := fun i h => by rw [List.getElem?_set_ne (Ne.symm h)]
        have ih := go_rep ha r cr (U.set lo (p : Int)) (2 * p + 1) hi (if s < alikeAt b p a then alikeAt b p a else s) (if s < alikeAt b p a then a - p else d)
          (rr.same fun x hx => ⟨hset _ (Ne.symm (alo x (.inr (.inr hx))).1), hset _ (Ne.symm (alo x (.inr (.inr hx))).2)⟩) h5 (fun x hx => hlt x (.inr (.inr hx)))
          (by simpa using hr2) (by simpa using hhi) (Ne.symm bhi.2) (fun x hx => by have := (h2 x hx).1; omega) (fun x hx => ahi x (.inr (.inr hx)))
        generalize go b a r (U.set lo (p : Int)) (2 * p + 1) hi (if s < alikeAt b p a then alikeAt b p a else s) (if s < alikeAt b p a then a - p else d) = G at ih ⊢
        obtain ⟨g1, g2, cl2, cr2, g3, g4, g5, g6⟩ := ih
        refine ⟨by rw [g1]; simp, fun i i1 i2 i3 => ?_, (p : Int), cr2, ?_, g4, ⟨rfl, cl, cl2, ?_, g3, ?_, g5⟩, g6⟩
        · rw [g2 i (i3 p (.inl rfl)).2 i2 fun x hx => i3 x (.inr (.inr hx)), hset i i1]
        · rw [g2 lo blo.2 hne fun x hx => alo x (.inr (.inr hx)), List.getElem?_set_self hlo]
        · rw [g2 (2 * p) (by omega) (Ne.symm bhi.1) fun x hx => by have := (h2 x hx).1; omega, hset _ (Ne.symm blo.1)]; exact hl
        · refine rl.same fun x hx => ?_
          have q0 := (h1 x hx).1
          have q1 := alo x (.inr (.inl hx))
          have q2 := ahi x (.inr (.inl hx))
          have q3 : ∀ y, r.has y → y ≠ x := fun y hy e => h3 x hx (e ▸ hy)
          exact ⟨by rw [g2 (2 * x) (by omega) (Ne.symm q2.1) (fun y hy => by have := q3 y hy; omega), hset _ (Ne.symm q1.1)], by rw [g2 (2 * x + 1) (by omega) (Ne.symm q2.2) (fun y hy => by have := q3 y hy; omega), hset _ (Ne.symm q1.2)]⟩
      · have hset : ∀ i, i ≠ hi → (U.set hi (p : Int))[i]? = U[i]? := fun i h => by rw [List.getElem?_set_ne (Ne.symm h)]
        have ih := go_rep ha l cl (U.set hi (p : Int)) lo (2 * p) (if s < alikeAt b p a then alikeAt b p a else s) (if s < alikeAt b p a then a - p else d)
          (rl.same fun x hx => ⟨hset _ (Ne.symm (ahi x (.inr (.inl hx))).1), hset _ (Ne.symm (ahi x (.inr (.inl hx))).2)⟩) h4 (fun x hx => hlt x (.inr (.inl hx)))
          (by simpa using hlo) (by simpa using hl2) blo.1 (fun x hx => alo x (.inr (.inl hx))) (fun x hx => by have := (h1 x hx).1; omega)
        generalize go b a l (U.set hi (p : Int)) lo (2 * p) (if s < alikeAt b p a then alikeAt b p a else s) (if s < alikeAt b p a then a - p else d) = G at ih ⊢
        obtain ⟨g1, g2, cl2, cr2, g3, g4, g5, g6⟩ := ih
        refine ⟨by rw [g1]; simp, fun i i1 i2 i3 => ?_, cl2, (p : Int), g3, ?_, g5, ⟨rfl, cr2, cr, g4, ?_, g6, ?_⟩⟩
        · rw [g2 i i1 (i3 p (.inl rfl)).1 fun x hx => i3 x (.inr (.inl hx)), hset i i2]
        · rw [g2 hi (Ne.symm hne) bhi.1 fun x hx => ahi x (.inr (.inl hx)), List.getElem?_set_self hhi]
        · rw [g2 (2 * p + 1) (Ne.symm blo.2) (by omega) fun x hx => by have := (h1 x hx).1; omega, hset _ (Ne.symm bhi.2)]; exact hr
        · refine rr.same fun x hx => ?_
          have q0 := (h2 x hx).1
          have q1 := alo x (.inr (.inr hx))
          have q2 := ahi x (.inr (.inr hx))
          have q3 : ∀ y, l.has y → y ≠ x := fun y hy e => h3 y hy (e ▸ hx)
          exact ⟨by rw [g2 (2 * x) (Ne.symm q1.1) (by omega) (fun y hy => by have := q3 y hy; omega), hset _ (Ne.symm q2.1)], by rw [g2 (2 * x + 1) (Ne.symm q1.2) (by omega) (fun y hy => by have := q3 y hy; omega), hset _ (Ne.symm q2.2)]⟩

/-- What is found: the nearest of the longest, unless what was found ahead is as long. -/
theorem go_best {b : List UInt8} {a : Nat} (ha : a ≤ b.length) : ∀ (t : Tree) (U : List Int) (lo hi s d : Nat), Ok b (most b a) t → (∀ x, t.has x → x < a) →
    (∀ x, t.has x → alikeAt b x a ≤ (go b a t U lo hi s d).2.1) ∧ s ≤ (go b a t U lo hi s d).2.1 ∧
    ((go b a t U lo hi s d).2 = (s, d) ∨ ∃ p, t.has p ∧ s < alikeAt b p a ∧ (go b a t U lo hi s d).2 = (alikeAt b p a, a - p) ∧ ∀ x, t.has x → alikeAt b x a = alikeAt b p a → x ≤ p)
  | .leaf, U, lo, hi, s, d, _, _ => ⟨fun x h => h.elim, Nat.le_refl _, .inl rfl⟩
  | .node p l r, U, lo, hi, s, d, ⟨h1, h2, h3, h4, h5⟩, hlt => by
    have hp : p < a := hlt p (.inl rfl)
    have hs := alike_same (b := b) (Nat.le_of_lt hp) ha
    have hpart := alike_part (b := b) (Nat.le_of_lt hp) ha
    have hmost := alike_most (b := b) (Nat.le_of_lt hp) ha
    have hall : ∀ x, (Tree.node p l r).has x → x ≤ p := fun x hx => by
      rcases hx with rfl | hx | hx
      · exact Nat.le_refl _
      · exact Nat.le_of_lt (h1 x hx).1
      · exact Nat.le_of_lt (h2 x hx).1
    unfold go
    split
    · rename_i hk
      refine ⟨fun x hx => ?_, ?_, ?_⟩
      · have := alike_most (b := b) (Nat.le_of_lt (hlt x hx)) ha
        show _ ≤ if _ then _ else _
        split <;> omega
      · show s ≤ if _ then _ else _
        split <;> omega
      · by_cases hsn : s < alikeAt b p a
        · refine .inr ⟨p, .inl rfl, hsn, by rw [if_pos hsn, if_pos hsn], fun x hx _ => hall x hx⟩
        · exact .inl (by rw [if_neg hsn, if_neg hsn])
    · rename_i hk
      -- the side that is not looked at holds none that is longer than the top
      have hside : ∀ x, x < a → (Le b (most b a) x p ∧ Le b (most b a) p a ∨ Le b (most b a) a p ∧ Le b (most b a) p x) → alikeAt b x a ≤ alikeAt b p a := by
        intro x hxa hx
        have hm := alike_most (b := b) (Nat.le_of_lt hxa) ha
        have hsx := alike_same (b := b) (Nat.le_of_lt hxa) ha
        refine (le_alike (Nat.le_of_lt hp) ha).2 ⟨hm, ?_⟩
        rcases hx with ⟨q1, q2⟩ | ⟨q1, q2⟩
        · exact (same_between q1 q2 _ hm hsx).symm.trans hsx
        · exact (same_between q1 q2 _ hm hsx.symm).symm
      have step : ∀ (t2 : Tree) (G : List Int × Nat × Nat), (∀ x, t2.has x → (Tree.node p l r).has x) → (∀ x, (Tree.node p l r).has x → t2.has x ∨ alikeAt b x a ≤ alikeAt b p a) →
          ((∀ x, t2.has x → alikeAt b x a ≤ G.2.1) ∧ (if s < alikeAt b p a then alikeAt b p a else s) ≤ G.2.1 ∧
            (G.2 = ((if s < alikeAt b p a then alikeAt b p a else s), (if s < alikeAt b p a then a - p else d)) ∨ ∃ q, t2.has q ∧ (if s < alikeAt b p a then alikeAt b p a else s) < alikeAt b q a ∧ G.2 = (alikeAt b q a, a - q) ∧ ∀ x, t2.has x → alikeAt b x a = alikeAt b q a → x ≤ q)) →
          (∀ x, (Tree.node p l r).has x → alikeAt b x a ≤ G.2.1) ∧ s ≤ G.2.1 ∧
            (G.2 = (s, d) ∨ ∃ p2, (Tree.node p l r).has p2 ∧ s < alikeAt b p2 a ∧ G.2 = (alikeAt b p2 a, a - p2) ∧ ∀ x, (Tree.node p l r).has x → alikeAt b x a = alikeAt b p2 a → x ≤ p2) := by
        rintro t2 ⟨V, s2, d2⟩ k1 k2 ⟨g1, g2, g3⟩
        simp only at g1 g2 g3 ⊢
        have hmax : alikeAt b p a ≤ s2 ∧ s ≤ s2 := by split at g2 <;> omega
        refine ⟨fun x hx => ?_, hmax.2, ?_⟩
        · rcases k2 x hx with h | h
          · exact g1 x h
          · omega
        · rcases g3 with g3 | ⟨q, q1, q2, q3, q4⟩
          · by_cases hsn : s < alikeAt b p a
            · rw [if_pos hsn, if_pos hsn] at g3
              exact .inr ⟨p, .inl rfl, hsn, g3, fun x hx _ => hall x hx⟩
            · rw [if_neg hsn, if_neg hsn] at g3
              exact .inl g3
          · refine .inr ⟨q, k1 q q1, by split at q2 <;> omega, q3, fun x hx hxe => ?_⟩
            rcases k2 x hx with h | h
            · exact q4 x h hxe
            · exfalso; split at q2 <;> omega
      split
      · rename_i hl
        have hle : Le b (most b a) p a := le_first hs hl
        refine step r _ (fun x hx => .inr (.inr hx)) (fun x hx => ?_) (go_best ha r _ _ _ _ _ h5 fun x hx => hlt x (.inr (.inr hx)))
        rcases hx with rfl | hx | hx
        · exact .inr (Nat.le_refl _)
        · exact .inr (hside x (hlt x (.inr (.inl hx))) (.inl ⟨(h1 x hx).2, hle⟩))
        · exact .inl hx
      · rename_i hl
        have hle : Le b (most b a) a p := le_first hs.symm (by have := hpart hk; omega)
        refine step l _ (fun x hx => .inr (.inl hx)) (fun x hx => ?_) (go_best ha l _ _ _ _ _ h4 fun x hx => hlt x (.inr (.inl hx)))
        rcases hx with rfl | hx | hx
        · exact .inr (Nat.le_refl _)
        · exact .inl hx
        · exact .inr (hside x (hlt x (.inr (.inr hx))) (.inr ⟨hle, (h2 x hx).2⟩))
end Go.Proofs.Ytoohkhcmakcggaa.LZ
