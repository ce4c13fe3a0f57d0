/-
  An event's terms by definition: rising, once each, with their places; no two places are the same. No program; no condition. Slices that read as lists of whole numbers. No condition. Slices that read as lists of texts. No condition. The reference's reading of one rune (more, row, Decode): each returns what the plain lists say. Conditions: places within the text's length.
-/
import Derived.Test.YtgacfihidpijeaaZE4
import Derived.Test.YtgacfihidpijeaaZE1
import Derived.Test.YtgacfihidpijeaaProg
import Derived.WalkKit
import Derived.Below
import Derived.Lib.Hide
import Derived.LoopTactic
import Derived.Outline
import Derived.Shelf.Unicode.DecodeSlow
set_option linter.unusedVariables false
namespace Go.Proofs.Ytgacfihidpijeaa.EM
open Go
open Go.Proofs.Ytgacfihidpijeaa.TK (wordsB)

/-! ### which text stands ahead -/
def lessL : List UInt8 → List UInt8 → Bool
  | [], [] => false
  | [], _ :: _ => true
  | _ :: _, [] => false
  | a :: x, b :: y => if a = b then lessL x y else decide (a.toNat < b.toNat)
theorem lessL_irr : ∀ x, lessL x x = false
  | [] => rfl
  | a :: x => by rw [lessL, if_pos rfl, lessL_irr x]
theorem lessL_trans : ∀ {x y z}, lessL x y = true → lessL y z = true → lessL x z = true
  | [], [], _, h, _ => by simp [lessL] at h
  | [], _ :: _, [], _, h => by simp [lessL] at h
  | [], _ :: _, _ :: _, _, _ => rfl
  | _ :: _, [], _, h, _ => by simp [lessL] at h
  | _ :: _, _ :: _, [], _, h => by simp [lessL] at h
  | a :: x, b :: y, c :: z, h1, h2 => by
    rw [lessL] at h1 h2 ⊢
    by_cases e1 : a = b
    · subst e1
      rw [if_pos rfl] at h1
      by_cases e2 : a = c
      · subst e2
        rw [if_pos rfl] at h2 ⊢
        exact lessL_trans h1 h2
      · rw [if_neg e2] at h2 ⊢
        exact h2
    · rw [if_neg e1] at h1
      have h1' := of_decide_eq_true h1
      by_cases e2 : b = c
      · subst e2
        rw [if_neg e1]
        exact h1
      · rw [if_neg e2] at h2
        have h2' := of_decide_eq_true h2
        have e3 : a ≠ c := by rintro rfl; omega
        rw [if_neg e3]
        exact decide_eq_true (by omega)
theorem lessL_total : ∀ {x y}, lessL x y = false → x ≠ y → lessL y x = true
  | [], [], _, h => absurd rfl h
  | [], _ :: _, h, _ => by simp [lessL] at h
  | _ :: _, [], _, _ => rfl
  | a :: x, b :: y, h, hn => by
    rw [lessL] at h ⊢
    by_cases e : a = b
    · subst e
      rw [if_pos rfl] at h ⊢
      exact lessL_total h (fun e2 => hn (by rw [e2]))
    · rw [if_neg e] at h
      rw [if_neg (fun e2 => e e2.symm)]
      have h' := of_decide_eq_false h
      have : a.toNat ≠ b.toNat := fun e2 => e (UInt8.toNat_inj.1 e2)
      exact decide_eq_true (by omega)
theorem lessL_ne {x y : List UInt8} (h : lessL x y = true) : x ≠ y := by rintro rfl; rw [lessL_irr] at h; cases h
theorem lessL_asym {x y : List UInt8} (h : lessL x y = true) : lessL y x = false := by
  cases hh : lessL y x with
  | false => rfl
  | true => have := lessL_trans h hh; rw [lessL_irr] at this; cases this
/-- .. as '<' of two texts tells it (the walk spells 'Op.bytesLess s.toList t.toList'). -/
theorem less_bytes : ∀ x y, Op.bytesLess x y = lessL x y
  | [], [] => by simp [Op.bytesLess, lessL]
  | [], _ :: _ => by simp [Op.bytesLess, lessL]
  | _ :: _, [] => by simp [Op.bytesLess, lessL]
  | a :: x, b :: y => by
    rw [Op.bytesLess, lessL, less_bytes x y]
    by_cases e : a = b
    · subst e
      simp
    · have : a.toNat ≠ b.toNat := fun e2 => e (UInt8.toNat_inj.1 e2)
      simp [e, UInt8.lt_iff_toNat_lt]
/-- .. as a loop over both texts tells it. -/
theorem lessL_drop {x y : List UInt8} {i : Nat} (hx : i < x.length) (hy : i < y.length) : lessL (x.drop i) (y.drop i) = if x[i] = y[i] then lessL (x.drop (i + 1)) (y.drop (i + 1)) else decide (x[i].toNat < y[i].toNat) := by
  rw [List.drop_eq_getElem_cons hx, List.drop_eq_getElem_cons hy, lessL]
theorem lessL_end {x y : List UInt8} {i : Nat} (h : x.length ≤ i ∨ y.length ≤ i) (hi : i ≤ x.length) (hj : i ≤ y.length) : lessL (x.drop i) (y.drop i) = decide (x.length < y.length) := by
  rcases h with h | h
  · rw [List.drop_of_length_le h]
    cases hd : y.drop i with
    | nil =>
      have := congrArg List.length hd
      rw [List.length_drop] at this
      simp at this
      rw [lessL]
      exact (decide_eq_false (by omega)).symm
    | cons c r =>
      have := congrArg List.length hd
      rw [List.length_drop] at this
      simp at this
      rw [lessL]
      exact (decide_eq_true (by omega)).symm
  · rw [List.drop_of_length_le (l := y) h]
    cases hd : x.drop i with
    | nil =>
      have := congrArg List.length hd
      rw [List.length_drop] at this
      simp at this
      rw [lessL]
      exact (decide_eq_false (by omega)).symm
    | cons c r =>
      rw [lessL]
      exact (decide_eq_false (by omega)).symm

/-! ### terms -/
/-- A text with what stands of it. -/
abbrev Tr (α : Type) := List UInt8 × List α
abbrev Trm := Tr Int
variable {α : Type}
/-- A place more of a term. -/
def addP : List (Tr α) → List UInt8 → α → List (Tr α)
  | [], s, p => [(s, [p])]
  | t :: r, s, p => if lessL t.1 s = true then t :: addP r s p else if t.1 = s then (s, t.2 ++ [p]) :: r else (s, [p]) :: t :: r
theorem addP_hit : ∀ {l : List (Tr α)} {s : List UInt8} {k : Nat} (p : α) (hk : k < l.length), (∀ j (hj : j < l.length), j < k → lessL l[j].1 s = true) → l[k].1 = s →
    addP l s p = l.take k ++ (s, l[k].2 ++ [p]) :: l.drop (k + 1)
  | [], s, k, p, hk, _, _ => by simp at hk
  | t :: r, s, 0, p, _, _, h => by
    simp only [List.getElem_cons_zero] at h
    rw [addP, if_neg (by rw [h, lessL_irr]; exact Bool.false_ne_true), if_pos h]
    simp
  | t :: r, s, k + 1, p, hk, h1, h2 => by
    have ht := h1 0 (by simp) (by omega)
    simp only [List.getElem_cons_zero] at ht
    rw [addP, if_pos ht, addP_hit (l := r) (s := s) (k := k) p (by simpa using hk) (fun j hj hjk => h1 (j + 1) (Nat.succ_lt_succ hj) (by omega)) (by simpa using h2)]
    simp
theorem addP_miss : ∀ {l : List (Tr α)} {s : List UInt8} {k : Nat} (p : α), k ≤ l.length → (∀ j (hj : j < l.length), j < k → lessL l[j].1 s = true) → (∀ hk : k < l.length, lessL l[k].1 s = false ∧ l[k].1 ≠ s) →
    addP l s p = l.take k ++ (s, [p]) :: l.drop k
  | [], s, k, p, hk, _, _ => by
    have : k = 0 := by simpa using hk
    subst this
    simp [addP]
  | t :: r, s, 0, p, _, _, h => by
    have h0 := h (by simp)
    simp only [List.getElem_cons_zero] at h0
    rw [addP, if_neg (by rw [h0.1]; exact Bool.false_ne_true), if_neg h0.2]
    simp
  | t :: r, s, k + 1, p, hk, h1, h2 => by
    have ht := h1 0 (by simp) (by omega)
    simp only [List.getElem_cons_zero] at ht
    rw [addP, if_pos ht, addP_miss (l := r) (s := s) (k := k) p (by simpa using hk) (fun j hj hjk => h1 (j + 1) (Nat.succ_lt_succ hj) (by omega)) (fun hk => h2 (Nat.succ_lt_succ hk))]
    simp
def foldP (l : List (Tr α)) (qs : List (List UInt8 × α)) : List (Tr α) := qs.foldl (fun l q => addP l q.1 q.2) l
theorem foldP_nil (l : List (Tr α)) : foldP l [] = l := rfl
theorem foldP_append (l : List (Tr α)) (a b : List (List UInt8 × α)) : foldP l (a ++ b) = foldP (foldP l a) b := by simp [foldP]
theorem foldP_one (l : List (Tr α)) (s : List UInt8) (p : α) : foldP l [(s, p)] = addP l s p := rfl
/-- A field's words with their places, from the base on. -/
def pairsW (n : List UInt8) (ws : List (List UInt8)) (base : Int) : List (List UInt8 × Int) := ws.zipIdx.map fun p => (n ++ 58 :: p.1, base + (p.2 : Int))
theorem pairsW_next (n : List UInt8) {ws : List (List UInt8)} {k : Nat} (hk : k < ws.length) (base : Int) : pairsW n (ws.take (k + 1)) base = pairsW n (ws.take k) base ++ [(n ++ 58 :: ws[k], base + (k : Int))] := by
  unfold pairsW
  rw [List.take_succ_eq_append_getElem hk, List.zipIdx_append, List.map_append]
  simp [Nat.min_eq_left (Nat.le_of_lt hk)]
def pairsF : Int → List Fld → List (List UInt8 × Int)
  | _, [] => []
  | base, f :: r => pairsW f.1 (wordsB f.2) base ++ pairsF (base + ((wordsB f.2).length : Int) + 64) r
/-- The base of the field behind the first k. -/
def baseF (fs : List Fld) : Int := (fs.map fun f => ((wordsB f.2).length : Int) + 64).sum
theorem baseF_next {fs : List Fld} {k : Nat} (hk : k < fs.length) : baseF (fs.take (k + 1)) = baseF (fs.take k) + ((wordsB fs[k].2).length : Int) + 64 := by
  unfold baseF
  rw [List.take_succ_eq_append_getElem hk, List.map_append, List.sum_append]
  simp
  omega
theorem pairsF_append : ∀ (a b : List Fld) (base : Int), pairsF base (a ++ b) = pairsF base a ++ pairsF (base + baseF a) b
  | [], b, base => by simp [pairsF, baseF]
  | f :: a, b, base => by
    rw [List.cons_append, pairsF, pairsF, pairsF_append a b, List.append_assoc]
    congr 3
    simp [baseF]
    omega
theorem pairsF_next {fs : List Fld} {k : Nat} (hk : k < fs.length) : pairsF 0 (fs.take (k + 1)) = pairsF 0 (fs.take k) ++ pairsW fs[k].1 (wordsB fs[k].2) (baseF (fs.take k)) := by
  rw [List.take_succ_eq_append_getElem hk, pairsF_append, pairsF, pairsF, List.append_nil, Int.zero_add]
def termsF (fs : List Fld) : List Trm := foldP [] (pairsF 0 fs)
def termsE (e : Ev) : List Trm := if checkE e ≠ 0 then [] else termsF e.2

/-! ### rising, once each -/
def Rising (l : List (Tr α)) : Prop := l.Pairwise fun a b => lessL a.1 b.1 = true
theorem addP_mem : ∀ {l : List (Tr α)} {s : List UInt8} {p : α} {t : Tr α}, t ∈ addP l s p → t.1 = s ∨ ∃ u ∈ l, u.1 = t.1
  | [], s, p, t, h => by simp [addP] at h; exact .inl (by rw [h])
  | u :: r, s, p, t, h => by
    rw [addP] at h
    split at h
    · rcases List.mem_cons.1 h with rfl | h
      · exact .inr ⟨t, by simp, rfl⟩
      · rcases addP_mem h with h | ⟨v, hv, he⟩
        · exact .inl h
        · exact .inr ⟨v, by simp [hv], he⟩
    · split at h
      · rcases List.mem_cons.1 h with rfl | h
        · exact .inl rfl
        · exact .inr ⟨t, by simp [h], rfl⟩
      · rcases List.mem_cons.1 h with rfl | h
        · exact .inl rfl
        · exact .inr ⟨t, by simpa using h, rfl⟩
theorem addP_rising : ∀ {l : List (Tr α)} (s : List UInt8) (p : α), Rising l → Rising (addP l s p)
  | [], s, p, _ => by simp [addP, Rising]
  | t :: r, s, p, h => by
    unfold Rising at h ⊢
    rw [addP]
    rw [List.pairwise_cons] at h
    split
    · rename_i ht
      rw [List.pairwise_cons]
      refine ⟨fun u hu => ?_, addP_rising s p h.2⟩
      rcases addP_mem hu with hu | ⟨v, hv, he⟩
      · rw [hu]; exact ht
      · rw [← he]; exact h.1 v hv
    · split
      · rename_i h1 h2
        rw [List.pairwise_cons]
        exact ⟨fun u hu => by rw [← h2]; exact h.1 u hu, h.2⟩
      · rename_i h1 h2
        have hs : lessL s t.1 = true := lessL_total (by simpa using h1) h2
        rw [List.pairwise_cons, List.pairwise_cons]
        refine ⟨fun u hu => ?_, h.1, h.2⟩
        rcases List.mem_cons.1 hu with rfl | hu
        · exact hs
        · exact lessL_trans hs (h.1 u hu)
theorem foldP_rising : ∀ (qs : List (List UInt8 × α)) {l : List (Tr α)}, Rising l → Rising (foldP l qs)
  | [], _, h => h
  | q :: qs, l, h => foldP_rising qs (addP_rising q.1 q.2 h)
/-- A term's places. -/
def posOf : List (Tr α) → List UInt8 → List α
  | [], _ => []
  | t :: r, s => if t.1 = s then t.2 else posOf r s
theorem posOf_none : ∀ {l : List (Tr α)} {s : List UInt8}, (∀ t ∈ l, t.1 ≠ s) → posOf l s = []
  | [], _, _ => rfl
  | t :: r, s, h => by
    rw [posOf, if_neg (h t (by simp))]
    exact posOf_none fun u hu => h u (by simp [hu])
theorem posOf_add : ∀ {l : List (Tr α)} (s : List UInt8) (p : α) (x : List UInt8), Rising l → posOf (addP l s p) x = if x = s then posOf l s ++ [p] else posOf l x
  | [], s, p, x, _ => by
    simp only [addP, posOf]
    by_cases h : s = x
    · subst h; simp
    · rw [if_neg h, if_neg (fun e => h e.symm)]
  | t :: r, s, p, x, h => by
    unfold Rising at h
    rw [List.pairwise_cons] at h
    rw [addP]
    split
    · rename_i ht
      have hne := lessL_ne ht
      rw [posOf, posOf_add s p x h.2]
      by_cases hx : x = s
      · subst hx
        rw [if_neg hne, if_pos rfl, if_pos rfl, posOf, if_neg hne]
      · rw [if_neg hx, if_neg hx, posOf]
    · split
      · rename_i h1 h2
        by_cases hx : x = s
        · subst hx
          simp only [posOf, h2, if_true]
        · simp only [posOf]
          rw [if_neg (fun e => hx e.symm), if_neg hx, if_neg (fun e => hx (by rw [← h2, e]))]
      · rename_i h1 h2
        by_cases hx : x = s
        · subst hx
          have hs : lessL x t.1 = true := lessL_total (by simpa using h1) h2
          have hn : posOf (t :: r) x = [] := posOf_none fun u hu e => by
            rcases List.mem_cons.1 hu with rfl | hu
            · exact h2 e
            · have := lessL_trans hs (h.1 u hu)
              rw [e] at this
              exact lessL_ne this rfl
          rw [posOf, if_pos rfl, if_pos rfl, hn]
          rfl
        · rw [posOf, if_neg (fun e => hx e.symm), if_neg hx]
theorem posOf_fold : ∀ (qs : List (List UInt8 × α)) {l : List (Tr α)} (x : List UInt8), Rising l → posOf (foldP l qs) x = posOf l x ++ (qs.filter (fun q => q.1 = x)).map (·.2)
  | [], l, x, _ => by simp [foldP]
  | q :: qs, l, x, h => by
    have e : foldP l (q :: qs) = foldP (addP l q.1 q.2) qs := rfl
    rw [e, posOf_fold qs x (addP_rising _ _ h), posOf_add _ _ _ h]
    by_cases hx : x = q.1
    · subst hx
      simp
    · rw [if_neg hx, List.filter_cons_of_neg (by simpa using fun e => hx e.symm)]
theorem termsF_pos (fs : List Fld) (x : List UInt8) : posOf (termsF fs) x = ((pairsF 0 fs).filter (fun q => q.1 = x)).map (·.2) := by
  unfold termsF
  rw [posOf_fold _ _ (by simp [Rising])]
  rfl
theorem termsF_rising (fs : List Fld) : Rising (termsF fs) := foldP_rising _ (by simp [Rising])
theorem addP_ne : ∀ {l : List (Tr α)} (s : List UInt8) (p : α), (∀ t ∈ l, t.2 ≠ []) → ∀ t ∈ addP l s p, t.2 ≠ []
  | [], s, p, _ => by simp [addP]
  | u :: r, s, p, h => by
    intro t ht
    rw [addP] at ht
    split at ht
    · rcases List.mem_cons.1 ht with rfl | ht
      · exact h t (by simp)
      · exact addP_ne s p (fun v hv => h v (by simp [hv])) t ht
    · split at ht
      · rcases List.mem_cons.1 ht with rfl | ht
        · simp
        · exact h t (by simp [ht])
      · rcases List.mem_cons.1 ht with rfl | ht
        · simp
        · exact h t (by simpa using ht)
theorem foldP_ne : ∀ (qs : List (List UInt8 × α)) {l : List (Tr α)}, (∀ t ∈ l, t.2 ≠ []) → ∀ t ∈ foldP l qs, t.2 ≠ []
  | [], _, h => h
  | q :: qs, l, h => foldP_ne qs (addP_ne q.1 q.2 h)
theorem termsF_ne (fs : List Fld) : ∀ t ∈ termsF fs, t.2 ≠ [] := foldP_ne _ (by simp)
/-- Rising rows of terms that have the same places are the same. -/
theorem rising_unique : ∀ {a b : List (Tr α)}, Rising a → Rising b → (∀ t ∈ a, t.2 ≠ []) → (∀ t ∈ b, t.2 ≠ []) → (∀ x, posOf a x = posOf b x) → a = b
  | [], [], _, _, _, _, _ => rfl
  | [], t :: r, _, _, _, h2, h => by
    have := h t.1
    rw [posOf, posOf, if_pos rfl] at this
    exact absurd this.symm (h2 t (by simp))
  | t :: r, [], _, _, h1, _, h => by
    have := h t.1
    rw [posOf, posOf, if_pos rfl] at this
    exact absurd this (h1 t (by simp))
  | t :: r, u :: q, ha, hb, h1, h2, h => by
    unfold Rising at ha hb
    rw [List.pairwise_cons] at ha hb
    have none_a : ∀ x, lessL x t.1 = true → posOf (t :: r) x = [] := fun x hx => posOf_none fun v hv e => by
      rcases List.mem_cons.1 hv with rfl | hv
      · rw [e] at hx; exact lessL_ne hx rfl
      · have := lessL_trans hx (ha.1 v hv); rw [e] at this; exact lessL_ne this rfl
    have none_b : ∀ x, lessL x u.1 = true → posOf (u :: q) x = [] := fun x hx => posOf_none fun v hv e => by
      rcases List.mem_cons.1 hv with rfl | hv
      · rw [e] at hx; exact lessL_ne hx rfl
      · have := lessL_trans hx (hb.1 v hv); rw [e] at this; exact lessL_ne this rfl
    have e1 : t.1 = u.1 := by
      apply Classical.byContradiction
      intro hn
      cases hl : lessL t.1 u.1 with
      | true =>
        have h3 := h t.1
        rw [none_b t.1 hl, posOf, if_pos rfl] at h3
        exact h1 t (by simp) h3
      | false =>
        have h3 := h u.1
        rw [none_a u.1 (lessL_total hl hn)] at h3
        rw [posOf, if_pos rfl] at h3
        exact h2 u (by simp) h3.symm
    have e2 : t.2 = u.2 := by
      have h3 := h t.1
      rw [posOf, if_pos rfl, posOf, if_pos e1.symm] at h3
      exact h3
    have e3 : t = u := Prod.ext e1 e2
    subst e3
    have hr : r = q := rising_unique ha.2 hb.2 (fun v hv => h1 v (by simp [hv])) (fun v hv => h2 v (by simp [hv])) (fun x => by
      have h3 := h x
      rw [posOf, posOf] at h3
      by_cases hx : t.1 = x
      · subst hx
        rw [posOf_none fun v hv e => by have := ha.1 v hv; rw [e] at this; exact lessL_ne this rfl, posOf_none fun v hv e => by have := hb.1 v hv; rw [e] at this; exact lessL_ne this rfl]
      · rw [if_neg hx, if_neg hx] at h3
        exact h3)
    rw [hr]

/-! ### apart -/
def placesT (l : List (Tr α)) : List α := l.flatMap (·.2)
theorem addP_perm : ∀ (l : List (Tr α)) (s : List UInt8) (p : α), (placesT (addP l s p)).Perm (placesT l ++ [p])
  | [], s, p => by simp [addP, placesT]
  | t :: r, s, p => by
    rw [addP]
    split
    · show (t.2 ++ placesT (addP r s p)).Perm ((t.2 ++ placesT r) ++ [p])
      rw [List.append_assoc]
      exact List.Perm.append_left _ (addP_perm r s p)
    · split
      · show ((t.2 ++ [p]) ++ placesT r).Perm ((t.2 ++ placesT r) ++ [p])
        rw [List.append_assoc, List.append_assoc]
        exact List.Perm.append_left _ List.perm_append_comm
      · show ([p] ++ (t.2 ++ placesT r)).Perm ((t.2 ++ placesT r) ++ [p])
        exact List.perm_append_comm
theorem foldP_perm : ∀ (qs : List (List UInt8 × α)) (l : List (Tr α)), (placesT (foldP l qs)).Perm (placesT l ++ qs.map (·.2))
  | [], l => by simp [foldP]
  | q :: qs, l => by
    have e : foldP l (q :: qs) = foldP (addP l q.1 q.2) qs := rfl
    rw [e]
    refine (foldP_perm qs _).trans ?_
    refine (List.Perm.append_right _ (addP_perm l q.1 q.2)).trans ?_
    rw [List.append_assoc]
    exact List.Perm.refl _
/-- All places of fields. -/
def allF (fs : List Fld) : List Int := (pairsF 0 fs).map (·.2)
theorem termsF_perm (fs : List Fld) : (placesT (termsF fs)).Perm (allF fs) := by
  exact foldP_perm (pairsF 0 fs) []
theorem pairsW_snd (n : List UInt8) (ws : List (List UInt8)) (base : Int) : (pairsW n ws base).map (·.2) = (List.range ws.length).map (fun k : Nat => base + (k : Int)) := by
  apply List.ext_getElem
  · simp [pairsW]
  · intro i h1 h2
    simp [pairsW]
theorem pairsF_bounds : ∀ (fs : List Fld) (base : Int), ∀ v ∈ (pairsF base fs).map (·.2), base ≤ v
  | [], base, v, h => by simp [pairsF] at h
  | f :: r, base, v, h => by
    rw [pairsF, List.map_append, List.mem_append, pairsW_snd] at h
    rcases h with h | h
    · obtain ⟨k, _, rfl⟩ := List.mem_map.1 h
      omega
    · have := pairsF_bounds r _ v h
      omega
theorem pairsF_rise : ∀ (fs : List Fld) (base : Int), ((pairsF base fs).map (·.2)).Pairwise (· < ·)
  | [], base => by simp [pairsF]
  | f :: r, base => by
    rw [pairsF, List.map_append, List.pairwise_append, pairsW_snd]
    refine ⟨?_, pairsF_rise r _, ?_⟩
    · rw [List.pairwise_map]
      exact List.pairwise_lt_range.imp fun h => by omega
    · intro a ha b hb
      obtain ⟨k, hk, rfl⟩ := List.mem_map.1 ha
      have := pairsF_bounds r _ b hb
      have := List.mem_range.1 hk
      omega
theorem allF_nodup (fs : List Fld) : (allF fs).Nodup := (pairsF_rise fs 0).imp fun h => by omega
theorem allF_mem {fs : List Fld} {i k : Nat} (hi : i < fs.length) (hk : k < (wordsB fs[i].2).length) : baseF (fs.take i) + (k : Int) ∈ allF fs := by
  unfold allF
  have e : pairsF 0 fs = pairsF 0 (fs.take (i + 1)) ++ pairsF (0 + baseF (fs.take (i + 1))) (fs.drop (i + 1)) := by rw [← pairsF_append, List.take_append_drop]
  have h := pairsF_next hi
  rw [e, h, List.map_append, List.map_append, pairsW_snd]
  simp only [List.mem_append]
  exact .inl (.inr (List.mem_map.2 ⟨k, by simpa using hk, rfl⟩))
theorem count_one : ∀ {l : List Int} {v : Int}, l.Nodup → v ∈ l → l.count v = 1
  | [], v, _, h => by simp at h
  | a :: r, v, hn, h => by
    rw [List.nodup_cons] at hn
    by_cases e : a = v
    · subst e
      rw [List.count_cons_self, List.count_eq_zero.2 hn.1]
    · rw [List.count_cons_of_ne e]
      rcases List.mem_cons.1 h with rfl | h
      · exact absurd rfl e
      · exact count_one hn.2 h
/-- Each place is found once. -/
theorem places_once {fs : List Fld} {i k : Nat} (hi : i < fs.length) (hk : k < (wordsB fs[i].2).length) : (placesT (termsF fs)).count (baseF (fs.take i) + (k : Int)) = 1 := by
  rw [(termsF_perm fs).count_eq]
  exact count_one (allF_nodup fs) (allF_mem hi hk)
def wordsN (fs : List Fld) : Nat := (fs.map fun f => (wordsB f.2).length).sum
theorem wordsN_next {fs : List Fld} {k : Nat} (hk : k < fs.length) : wordsN (fs.take (k + 1)) = wordsN (fs.take k) + (wordsB fs[k].2).length := by
  unfold wordsN
  rw [List.take_succ_eq_append_getElem hk, List.map_append, List.sum_append]
  simp
theorem pairsF_len : ∀ (fs : List Fld) (base : Int), (pairsF base fs).length = wordsN fs
  | [], base => rfl
  | f :: r, base => by
    rw [pairsF, List.length_append, pairsF_len r]
    simp [pairsW, wordsN]
theorem places_len (fs : List Fld) : (placesT (termsF fs)).length = wordsN fs := by
  rw [(termsF_perm fs).length_eq]
  unfold allF
  rw [List.length_map, pairsF_len]
end Go.Proofs.Ytgacfihidpijeaa.EM
set_option linter.unusedVariables false
namespace Go.Proofs.Ytgacfihidpijeaa.MM
open Go.RowKit

/-! ### whole numbers -/
theorem infoInt : (Try.prog.info? 3).map (fun i => (i.zero, i.size, i.bytes)) = some (some (.int .i64 0), 1, 8) := by kernel_rfl
/-- A slice value that reads as these numbers. -/
def IRow (w : World) (v : Value) (zs : List Int) : Prop := Row w v (zs.map (Value.int .i64))
def OwnI (B : Nat) (w : World) (v : Value) (zs : List Int) : Prop := w.ownsRow B 3 1 v zs.length (zs.map (Value.int .i64))
theorem OwnI.irow {B : Nat} {w : World} {v : Value} {zs : List Int} (h : OwnI B w v zs) : IRow w v zs := Row.of_own h
theorem OwnI.keep {w w' : World} {B : Nat} {v : Value} {zs : List Int} (h : OwnI B w v zs) (hb : Below w.heap.size w w') : OwnI B w' v zs := own_keep (B := 0) h hb
theorem OwnI.nil_ (B : Nat) (w : World) : OwnI B w (.slice none 0 0) [] := World.ownsRow_nil _ _ _ _
theorem IRow.below {w w' : World} {v : Value} {zs : List Int} (h : IRow w v zs) (hb : Below w.heap.size w w') : IRow w' v zs := Row.below (B := 0) h hb
theorem IRow.nil_ (w : World) : IRow w (.slice none 0 0) [] := Row.nil_ w
theorem IRow.shape {w : World} {v : Value} {zs : List Int} (h : IRow w v zs) : ∃ p cap, v = .slice p zs.length cap ∧ zs.length ≤ cap ∧ cap ≤ maxLen := by
  obtain ⟨p, cap, hv, h1, h2, _, _⟩ := h
  rw [List.length_map] at hv h1
  exact ⟨p, cap, hv, h1, h2⟩
theorem IRow.at_ {w : World} {p : Option Addr} {n cap : Nat} {zs : List Int} (h : IRow w (.slice p n cap) zs) {k : Nat} (hk : k < zs.length) :
    ∃ b off, p = some ⟨b, off, none⟩ ∧ b < w.heap.size ∧ w.cell? ⟨b, off + k, none⟩ = some (.int .i64 (zs.getD k 0)) := by
  obtain ⟨p', cap', hv, _, _, _, h⟩ := h
  simp only [Value.slice.injEq] at hv
  obtain ⟨rfl, _, _⟩ := hv
  rcases h with h | ⟨b, off, hp, hlt, hc⟩
  · have : zs = [] := List.map_eq_nil_iff.1 h
    subst this
    simp at hk
  · exact ⟨b, off, hp, hlt, hc k _ (by simp [List.getD, hk])⟩
theorem IRow.take {w : World} {p : Option Addr} {n cap : Nat} {zs : List Int} (h : IRow w (.slice p n cap) zs) (k : Nat) (hk : k ≤ n) : IRow w (.slice p k cap) (zs.take k) := by
  have := RowIn.take h k hk
  rw [← List.map_take] at this
  exact this
/-- append(row, n). -/
theorem wpList_append_int {w : World} {ops : Array Oper} {rest : List Oper} {o : Oper} {a : Act} {Q : Exit → Act → World → Prop} (hgd : o.guard = none) (s x : Operand)
    (ho : o.op = .call { callee := .builtin .append, args := #[s, x], argTypes := #[60, 60] }) (B : Nat) (v : Value) (zs : List Int) (w0 : World) (z : Int) (hw : w = w0.alloc (.cells #[.int .i64 z] 3)) (hs : a.eval s = v) (hown : OwnI B w0 v zs)
    (hx : a.eval x = .slice (some ⟨w0.heap.size, 0, none⟩) 1 1) (hlen : zs.length ≤ 4398046511104) (hbase : B ≤ w0.heap.size)
    (h : ∀ v' w', OwnI B w' v' (zs ++ [z]) → Below B w0 w' → wpList Try.prog ops Q rest (a.put o.dst v') w') : wpList Try.prog ops Q (o :: rest) a w := by
  subst hw
  obtain ⟨i0, hi, hz0, hz1, hz2⟩ := info_parts infoInt
  have hlo : ∀ k, v.ownBlock = some k → B ≤ k := fun k hk => (World.ownsRow.lt hown k hk).1
  refine wpList_append_own _ hgd s x 60 ho B 3 i0 (.int .i64 0) 1 8 Try.underlying60 hi hz0 hz1 hz2 rfl (by decide) v zs.length _ hs (World.ownsRow.alloc hown _) ⟨w0.heap.size, 0, none⟩ 1 1 [.int .i64 z] hx rfl (cell_new1 _ _ _) (int_one _ _)
    (by unfold maxLen; omega) (by omega) (by simp; omega) (fun v' w' h1 hg _ => h v' w' ?_ (below_app (Below.refl B w0) hbase hlo hg))
  unfold OwnI
  rw [List.length_append, List.map_append]
  exact h1
end Go.Proofs.Ytgacfihidpijeaa.MM
set_option linter.unusedVariables false
namespace Go.Proofs.Ytgacfihidpijeaa.MM
open Go.RowKit

theorem infoStr : (Try.prog.info? 9).map (fun i => (i.zero, i.size, i.bytes)) = some (some (.string ⟨#[]⟩), 1, 16) := by kernel_rfl
def strV (l : List UInt8) : Value := .string ⟨l.toArray⟩
/-- A slice value that reads as these texts, which lie below block B. -/
def TIn (B : Nat) (w : World) (v : Value) (ss : List (List UInt8)) : Prop := RowIn B w v (ss.map strV)
def TRow (w : World) (v : Value) (ss : List (List UInt8)) : Prop := TIn w.heap.size w v ss
/-- .. of the call's own, from block B on. -/
def OwnT (B : Nat) (w : World) (v : Value) (ss : List (List UInt8)) : Prop := w.ownsRow B 9 1 v ss.length (ss.map strV)
theorem OwnT.trow {B : Nat} {w : World} {v : Value} {ss : List (List UInt8)} (h : OwnT B w v ss) : TRow w v ss := Row.of_own h
theorem OwnT.keep {w w' : World} {B : Nat} {v : Value} {ss : List (List UInt8)} (h : OwnT B w v ss) (hb : Below w.heap.size w w') : OwnT B w' v ss := own_keep (B := 0) h hb
theorem OwnT.weaken {w : World} {B B' : Nat} {v : Value} {ss : List (List UInt8)} (h : OwnT B w v ss) (hB : B' ≤ B) : OwnT B' w v ss := by
  refine ⟨h.1, ?_⟩
  rcases h.2 with h0 | ⟨g, cap, cur, hv, hg, rest⟩
  · exact .inl h0
  · exact .inr ⟨g, cap, cur, hv, Nat.le_trans hB hg, rest⟩
theorem OwnT.nil_ (B : Nat) (w : World) : OwnT B w (.slice none 0 0) [] := World.ownsRow_nil _ _ _ _
theorem OwnT.shape {w : World} {B : Nat} {v : Value} {ss : List (List UInt8)} (h : OwnT B w v ss) : ∃ p cap, v = .slice p ss.length cap ∧ ss.length ≤ cap ∧ cap ≤ maxLen := by
  obtain ⟨p, cap, hv, h1, h2, _, _⟩ := h.trow
  rw [List.length_map] at hv h1
  exact ⟨p, cap, hv, h1, h2⟩
theorem TRow.below {w w' : World} {v : Value} {ss : List (List UInt8)} (h : TRow w v ss) (hb : Below w.heap.size w w') : TRow w' v ss := Row.below (B := 0) h hb
theorem TIn.below {B : Nat} {w w' : World} {v : Value} {ss : List (List UInt8)} (h : TIn B w v ss) (hb : Below B w w') : TIn B w' v ss := RowIn.below h hb
theorem TIn.mono {B B' : Nat} {w : World} {v : Value} {ss : List (List UInt8)} (h : TIn B w v ss) (hB : B ≤ B') : TIn B' w v ss := RowIn.mono h hB
theorem TRow.nil_ (w : World) : TRow w (.slice none 0 0) [] := Row.nil_ w
theorem TIn.shape {B : Nat} {w : World} {v : Value} {ss : List (List UInt8)} (h : TIn B w v ss) : ∃ p cap, v = .slice p ss.length cap ∧ ss.length ≤ cap ∧ cap ≤ maxLen := by
  obtain ⟨p, cap, hv, h1, h2, _, _⟩ := h
  rw [List.length_map] at hv h1
  exact ⟨p, cap, hv, h1, h2⟩
theorem TIn.at_ {B : Nat} {w : World} {p : Option Addr} {n cap : Nat} {ss : List (List UInt8)} (h : TIn B w (.slice p n cap) ss) {k : Nat} (hk : k < ss.length) :
    ∃ b off, p = some ⟨b, off, none⟩ ∧ b < B ∧ w.cell? ⟨b, off + k, none⟩ = some (.string ⟨(ss[k]).toArray⟩) := by
  obtain ⟨p', cap', hv, _, _, _, h⟩ := h
  simp only [Value.slice.injEq] at hv
  obtain ⟨rfl, _, _⟩ := hv
  rcases h with h | ⟨b, off, hp, hlt, hc⟩
  · have : ss = [] := List.map_eq_nil_iff.1 h
    subst this
    simp at hk
  · exact ⟨b, off, hp, hlt, hc k _ (by simp [hk, strV])⟩
/-- append(row, s). -/
theorem wpList_append_str {w : World} {ops : Array Oper} {rest : List Oper} {o : Oper} {a : Act} {Q : Exit → Act → World → Prop} (hgd : o.guard = none) (s x : Operand)
    (ho : o.op = .call { callee := .builtin .append, args := #[s, x], argTypes := #[124, 124] }) (B : Nat) (v : Value) (ss : List (List UInt8)) (w0 : World) (z : List UInt8) (hw : w = w0.alloc (.cells #[.string ⟨z.toArray⟩] 9)) (hs : a.eval s = v) (hown : OwnT B w0 v ss)
    (hx : a.eval x = .slice (some ⟨w0.heap.size, 0, none⟩) 1 1) (hlen : ss.length ≤ 1000000000000) (hbase : B ≤ w0.heap.size)
    (h : ∀ v' w', OwnT B w' v' (ss ++ [z]) → Below B w0 w' → wpList Try.prog ops Q rest (a.put o.dst v') w') : wpList Try.prog ops Q (o :: rest) a w := by
  subst hw
  obtain ⟨i0, hi, hz0, hz1, hz2⟩ := info_parts infoStr
  have hlo : ∀ k, v.ownBlock = some k → B ≤ k := fun k hk => (World.ownsRow.lt hown k hk).1
  refine wpList_append_own _ hgd s x 124 ho B 9 i0 (.string ⟨#[]⟩) 1 16 Try.underlying124 hi hz0 hz1 hz2 rfl (by decide) v ss.length _ hs (World.ownsRow.alloc hown _) ⟨w0.heap.size, 0, none⟩ 1 1 [.string ⟨z.toArray⟩] hx rfl (cell_new1 _ _ _) (by intro u hu; simp at hu; subst hu; rfl)
    (by unfold maxLen; omega) (by omega) (by simp; omega) (fun v' w' h1 hg _ => h v' w' ?_ (below_app (Below.refl B w0) hbase hlo hg))
  unfold OwnT
  rw [List.length_append, List.map_append]
  exact h1
/-- A literal of one text. -/
theorem trow_one (w : World) (z : List UInt8) : TRow (w.alloc (.cells #[.string ⟨z.toArray⟩] 9)) (.slice (some ⟨w.heap.size, 0, none⟩) 1 1) [z] :=
  Row.of_own (own_lit w [.string ⟨z.toArray⟩] 9 0 (Nat.zero_le _) (by unfold maxLen; simp))
/-- Two texts held against each other, as the walk spells it. -/
theorem same_list (l m : List UInt8) : ((⟨l.toArray⟩ : ByteArray).toList == (⟨m.toArray⟩ : ByteArray).toList) = decide (l = m) := by
  rw [Lib.toList_data, Lib.toList_data]
  by_cases h : l = m
  · subst h; simp
  · simp [h]
end Go.Proofs.Ytgacfihidpijeaa.MM
set_option linter.unusedVariables false
namespace Go.Proofs.Ytgacfihidpijeaa.UM
open Go.RowKit

/-- Is there a byte 10xxxxxx at the place? -/
def contB (s : ByteArray) (a : Nat) : Bool := decide (a < s.size ∧ (s.get! a).toNat / 64 = 2)

theorem more_no (s : ByteArray) (p : Int) (a : Nat) (n : Int) (w : World) (hp : p = (a : Int)) (h0 : a < 9000000000000000000) (h : contB s a = false) :
    Calls Try.prog 113 #[.string s, .int .i64 p, .int .i64 n] w fun e w' => e = .returned (.tuple #[.int .i64 0, .bool false]) ∧ w = w' := by
  subst hp
  unfold contB at h
  by_cases hl : a < s.size
  · obtain ⟨x, hx⟩ : ∃ x, s.get! a = x := ⟨_, rfl⟩
    have hs0 : s[a]'hl = x := by rw [← hx]; exact (Utf8W.get!_of_lt s a hl).symm
    have hd : ((x.toNat : Int) / 64 == 2) = false := by rw [hx] at h; simp at h ⊢; have := h hl; omega
    have hd2 : ((x.toNat : Int) / 64 != 2) = true := by rw [bne, hd]; rfl
    have hb : (x.toNat : Int) < 256 := by have := x.toNat_lt; omega
    clear h hx
    go_enter Try.func113, Try.ntmps113
    go_wp2
    go_ret2
    exact ⟨rfl, rfl⟩
  · have hl2 : s.size ≤ a := by omega
    clear h
    go_enter Try.func113, Try.ntmps113
    go_wp2
    go_ret2
    exact ⟨rfl, rfl⟩

set_option maxRecDepth 100000 in
theorem more_yes (s : ByteArray) (p : Int) (a : Nat) (n : Int) (w : World) (hp : p = (a : Int)) (hn0 : 0 ≤ n) (hn1 : n ≤ 1000000) (h : contB s a = true) :
    Calls Try.prog 113 #[.string s, .int .i64 p, .int .i64 n] w fun e w' => e = .returned (.tuple #[.int .i64 (n * 64 + ((s.get! a).toNat % 64 : Nat)), .bool true]) ∧ w = w' := by
  subst hp
  unfold contB at h
  obtain ⟨x, hx⟩ : ∃ x, s.get! a = x := ⟨_, rfl⟩
  have h2 := of_decide_eq_true h
  have hl := h2.1
  have hs0 : s[a]'hl = x := by rw [← hx]; exact (Utf8W.get!_of_lt s a hl).symm
  rw [hx] at h2 ⊢
  have hd : ((x.toNat : Int) / 64 == 2) = true := by simp; omega
  have hd2 : ((x.toNat : Int) / 64 != 2) = false := by rw [bne, hd]; rfl
  have hb : (x.toNat : Int) < 256 := by have := x.toNat_lt; omega
  have hq : ((x.toNat : Int) % 64) = ((x.toNat % 64 : Nat) : Int) := by omega
  have Hq := Lib.hid hq
  clear h hx h2 hq
  go_enter Try.func113, Try.ntmps113
  go_wp2
  go_ret2
  rw [Hq.out]
  exact ⟨rfl, rfl⟩

/-- The x's of so many bytes 10xxxxxx from a place on, behind n. -/
def rowF (s : ByteArray) : Nat → Nat → Int → Int × Bool
  | 0, _, n => (n, true)
  | k + 1, a, n => if contB s a then rowF s k (a + 1) (n * 64 + ((s.get! a).toNat % 64 : Nat)) else (0, false)
theorem rowF_zero (s : ByteArray) (a : Nat) (n : Int) : rowF s 0 a n = (n, true) := rfl
theorem rowF_yes (s : ByteArray) (k a : Nat) (n : Int) (h : contB s a = true) : rowF s (k + 1) a n = rowF s k (a + 1) (n * 64 + ((s.get! a).toNat % 64 : Nat)) := by rw [rowF, if_pos h]
theorem rowF_no (s : ByteArray) (k a : Nat) (n : Int) (h : contB s a = false) : rowF s (k + 1) a n = (0, false) := by rw [rowF, if_neg (by simp [h])]

/-- How great the x's of j bytes behind a first one's can be. -/
def RowB (j : Nat) (m : Int) : Prop := 0 ≤ m ∧ ((j = 0 ∧ m ≤ 31) ∨ (j = 1 ∧ m ≤ 2047) ∨ (j = 2 ∧ m ≤ 131071) ∨ (j = 3 ∧ m ≤ 8388607))
theorem RowB.lo {j : Nat} {m : Int} (h : RowB j m) : 0 ≤ m := h.1
theorem RowB.hi {j : Nat} {m : Int} (h : RowB j m) (hj : j < 3) : m ≤ 1000000 := by unfold RowB at h; omega
theorem RowB.next {j : Nat} {m : Int} (h : RowB j m) (hj : j < 3) (x : Nat) : RowB (j + 1) (m * 64 + (x % 64 : Nat)) := by unfold RowB at *; omega

set_option maxRecDepth 100000 in
set_option maxHeartbeats 1000000 in
theorem row_any (s : ByteArray) (a k : Nat) (n z : Int) (w : World) (hz : z = (k : Int) + 1) (hk : k ≤ 3) (hn0 : 0 ≤ n) (hn1 : n ≤ 31) (ha : a < 8000000000000000000) :
    Calls Try.prog 101 #[.string s, .int .i64 a, .int .i64 n, .int .i64 z] w fun e w' => e = .returned (.tuple #[.int .i64 (rowF s k (a + 1) n).1, .bool (rowF s k (a + 1) n).2]) ∧ w = w' := by
  subst hz
  have B0 : RowB 0 n := ⟨hn0, by omega⟩
  clear hn0 hn1
  obtain ⟨res, hres⟩ : ∃ res, rowF s k (a + 1) n = res := ⟨_, rfl⟩
  have Hres := Lib.hid hres
  rw [hres]
  clear hres
  go_enter Try.func101, Try.ntmps101
  go_wp2
  go_loop [2, 10] (fun u i => ∃ (j : Nat) (m : Int), j ≤ k ∧ i = .int .i64 ((j : Int) + 1) ∧ u = .int .i64 m ∧ RowB j m ∧ Hid (rowF s (k - j) (a + 1 + j) m = res)) (fun _ i => k + 1 - (intOf i).toNat)
  case atStart => exact ⟨0, n, by omega, rfl, rfl, B0, by have := Hres.out; exact this⟩
  case round =>
    obtain ⟨j, m, hj, rfl, rfl, hB, HR⟩ := hrel
    clear Hres B0
    have hm0 := hB.lo
    by_cases hlt : j < k
    · have hm1 := hB.hi (by omega)
      obtain ⟨q, hq⟩ : ∃ q, k - j = q + 1 := ⟨k - j - 1, by omega⟩
      have hR := HR.out
      rw [hq] at hR
      by_cases hc : contB s (a + 1 + j) = true
      · rw [rowF_yes _ _ _ _ hc] at hR
        have hB1 := hB.next (by omega) (s.get! (a + 1 + j)).toNat
        obtain ⟨m2, hm2⟩ : ∃ m2, m * 64 + (((s.get! (a + 1 + j)).toNat % 64 : Nat) : Int) = m2 := ⟨_, rfl⟩
        have hmore := fun W => more_yes s ((a : Int) + ((j : Int) + 1)) (a + 1 + j) m W (by omega) hm0 hm1 hc
        rw [hm2] at hR hB1
        simp only [hm2] at hmore
        clear hm2
        have HR' := Lib.hid hR
        have Hq := Lib.hid hq
        have Hm := Lib.hid hmore
        clear hR HR hc hq hmore
        go_wp2_with fail
        refine (Hm.out _).mono ?_
        rintro e w' ⟨rfl, rfl⟩
        go_wp2
        go_round
        case rel => exact ⟨j + 1, m2, by omega, by go_num, rfl, hB1, by have h1 := Hq.out; have h2 := HR'.out; rw [show k - (j + 1) = q by omega, show a + 1 + (j + 1) = a + 1 + j + 1 by omega]; exact h2⟩
        case measure => simp [intOf]; omega
      · have hc : contB s (a + 1 + j) = false := by simpa using hc
        rw [rowF_no _ _ _ _ hc] at hR
        have hmore := fun W => more_no s ((a : Int) + ((j : Int) + 1)) (a + 1 + j) m W (by omega) (by omega) hc
        have HR' := Lib.hid hR
        have Hq := Lib.hid hq
        have Hm := Lib.hid hmore
        clear hR HR hc hq hmore
        go_wp2_with fail
        refine (Hm.out _).mono ?_
        rintro e w' ⟨rfl, rfl⟩
        go_wp2
        go_ret2
        rw [← HR'.out]
        exact ⟨rfl, rfl⟩
    · obtain rfl : j = k := by omega
      have hR := HR.out
      rw [Nat.sub_self, rowF_zero] at hR
      have HR' := Lib.hid hR
      clear hR HR
      go_wp2
      go_ret2
      rw [← HR'.out]
      exact ⟨rfl, rfl⟩
end Go.Proofs.Ytgacfihidpijeaa.UM
