/-
  What is found among rising terms, by the place where a predicate turns. No program of its own; no condition.
-/
import Derived.Test.YtklngjnjnkocmaaZA38
set_option linter.unusedVariables false
namespace Go.Proofs.Ytklngjnjnkocmaa.DT
open Go Go.RowKit Go.Proofs.Ytklngjnjnkocmaa.MM Go.Proofs.Ytklngjnjnkocmaa.DM
open Go.Proofs.Ytklngjnjnkocmaa.EM (lessL lessL_irr lessL_trans lessL_total)

theorem rises_all : ∀ {l : List Ent} {t : List UInt8}, rises t l = true → ∀ {j : Nat}, j < l.length → lessL t (tK l j) = true
  | [], _, _, j, h => by simp at h
  | x :: r, t, h, j, hj => by
    rw [rises, Bool.and_eq_true] at h
    match j, hj with
    | 0, _ => simpa [tK] using h.1
    | j + 1, hj =>
      have e1 : tK (x :: r) (j + 1) = tK r j := by simp [tK]
      rw [e1]
      exact lessL_trans h.1 (rises_all h.2 (by simpa using hj))
theorem rises_lt : ∀ {l : List Ent} {t : List UInt8}, rises t l = true → ∀ {i j : Nat}, i < j → j < l.length → lessL (tK l i) (tK l j) = true
  | [], _, _, i, j, _, h => by simp at h
  | x :: r, t, h, i, j, hij, hj => by
    rw [rises, Bool.and_eq_true] at h
    obtain ⟨j, rfl⟩ : ∃ k, j = k + 1 := ⟨j - 1, by omega⟩
    have hj' : j < r.length := by simpa using hj
    have e1 : tK (x :: r) (j + 1) = tK r j := by simp [tK]
    rw [e1]
    match i, hij with
    | i + 1, hij =>
      have e2 : tK (x :: r) (i + 1) = tK r i := by simp [tK]
      rw [e2]
      exact rises_lt h.2 (by omega) hj'
    | 0, _ =>
      have e2 : tK (x :: r) 0 = x.1 := by simp [tK]
      rw [e2]
      exact rises_all h.2 hj'
theorem filter_mid : ∀ (p : Ent → Bool) (l : List Ent) (a b : Nat), (∀ k (h : k < l.length), k < a → p l[k] = false) → (∀ k (h : k < l.length), a ≤ k → k < b → p l[k] = true) → (∀ k (h : k < l.length), b ≤ k → p l[k] = false) → l.filter p = (l.take b).drop a
  | p, [], a, b, _, _, _ => by simp
  | p, x :: r, 0, 0, h1, h2, h3 => by
    have ih := filter_mid p r 0 0 (fun k h hk => by omega) (fun k h _ hk => by omega) (fun k h hk => h3 (k + 1) (Nat.succ_lt_succ h) (by omega))
    have e0 : p x = false := h3 0 (by simp) (by omega)
    simp only [List.filter_cons, e0, ih]
    simp
  | p, x :: r, 0, b + 1, h1, h2, h3 => by
    have ih := filter_mid p r 0 b (fun k h hk => by omega) (fun k h _ hk => h2 (k + 1) (Nat.succ_lt_succ h) (by omega) (by omega)) (fun k h hk => h3 (k + 1) (Nat.succ_lt_succ h) (by omega))
    have e0 : p x = true := h2 0 (by simp) (by omega) (by omega)
    simp only [List.filter_cons, e0, ih]
    simp
  | p, x :: r, a + 1, 0, h1, h2, h3 => by
    have ih := filter_mid p r a 0 (fun k h hk => h1 (k + 1) (Nat.succ_lt_succ h) (by omega)) (fun k h _ hk => by omega) (fun k h hk => h3 (k + 1) (Nat.succ_lt_succ h) (by omega))
    have e0 : p x = false := h3 0 (by simp) (by omega)
    simp only [List.filter_cons, e0, ih]
    simp
  | p, x :: r, a + 1, b + 1, h1, h2, h3 => by
    have ih := filter_mid p r a b (fun k h hk => h1 (k + 1) (Nat.succ_lt_succ h) (by omega)) (fun k h hk1 hk => h2 (k + 1) (Nat.succ_lt_succ h) (by omega) (by omega)) (fun k h hk => h3 (k + 1) (Nat.succ_lt_succ h) (by omega))
    have e0 : p x = false := h1 0 (by simp) (by omega)
    simp only [List.filter_cons, e0, ih]
    simp
/-- A predicate that holds of each term ahead of one of which it holds. -/
def Down (q : List UInt8 → Bool) : Prop := ∀ s t, lessL s t = true → q t = true → q s = true
theorem turns_all {l : List Ent} {q : List UInt8 → Bool} {c : Nat} {t : List UInt8} (hr : rises t l = true) (hq : Down q) (h : TurnsAt (fun k => !q (tK l k)) l.length c) : (∀ k, k < c → q (tK l k) = true) ∧ (∀ k, c ≤ k → k < l.length → q (tK l k) = false) := by
  obtain ⟨h1, h2, h3⟩ := h
  dsimp only at h2 h3
  refine ⟨fun k hk => ?_, fun k hk hkl => ?_⟩
  · have hc : q (tK l (c - 1)) = true := by simpa using h2 (by omega)
    by_cases e : k = c - 1
    · rw [e]; exact hc
    · exact hq _ _ (rises_lt hr (show k < c - 1 by omega) (by omega)) hc
  · have hc : q (tK l c) = false := by simpa using h3 (by omega)
    by_cases e : k = c
    · rw [e]; exact hc
    · cases hq2 : q (tK l k) with
      | false => rfl
      | true =>
        have := hq _ _ (rises_lt hr (show c < k by omega) hkl) hq2
        rw [hc] at this
        cases this
theorem down_less (u : List UInt8) : Down fun t => lessL t u := fun s t h1 h2 => lessL_trans h1 h2
theorem floor_turns {l : List Ent} {u : List UInt8} {c : Nat} {t : List UInt8} (hr : rises t l = true) (h : TurnsAt (fun k => !lessL (tK l k) u) l.length c) : floorD l u = c := by
  obtain ⟨h1, h2⟩ := turns_all hr (down_less u) h
  have hc := h.1
  unfold floorD
  rw [filter_mid (fun x => lessL x.1 u) l 0 c (fun k _ hk => by omega) (fun k hk _ hkc => by rw [← tK_at hk]; exact h1 k hkc) (fun k hk hkc => by rw [← tK_at hk]; exact h2 k hkc hk), List.drop_zero, List.length_take]
  omega
/-- A text begins so. -/
def hasT (p t : List UInt8) : Bool := decide (p.length ≤ t.length) && decide (t.take p.length = p)
theorem hasT_cons (a b : UInt8) (p t : List UInt8) : hasT (a :: p) (b :: t) = (decide (b = a) && hasT p t) := by
  unfold hasT
  by_cases h : b = a <;> by_cases h2 : p.length ≤ t.length <;> simp [h, h2]
theorem less_begin : ∀ {p t : List UInt8}, hasT p t = true → lessL t p = false
  | [], t, _ => by cases t <;> rfl
  | a :: p, [], h => by simp [hasT] at h
  | a :: p, b :: t, h => by
    rw [hasT_cons, Bool.and_eq_true, decide_eq_true_eq] at h
    obtain ⟨rfl, h⟩ := h
    rw [lessL]
    simp [less_begin h]
theorem begin_ahead : ∀ {p s t : List UInt8}, lessL s t = true → hasT p t = true → lessL s p = false → hasT p s = true
  | [], s, t, _, _, _ => by simp [hasT]
  | a :: p, s, [], _, h, _ => by simp [hasT] at h
  | a :: p, [], b :: t, _, _, h => by simp [lessL] at h
  | a :: p, c :: s, b :: t, h1, h2, h3 => by
    rw [hasT_cons, Bool.and_eq_true, decide_eq_true_eq] at h2
    obtain ⟨rfl, h2⟩ := h2
    rw [lessL] at h1 h3
    rw [hasT_cons]
    by_cases e : c = b
    · subst e
      simp at h1 h3
      simp [begin_ahead h1 h2 h3]
    · simp [e] at h1 h3
      omega
def upTo (p t : List UInt8) : Bool := lessL t p || hasT p t
theorem down_upTo (p : List UInt8) : Down (upTo p) := fun s t h1 h2 => by
  unfold upTo at h2 ⊢
  cases h : lessL s p with
  | true => rfl
  | false =>
    rw [Bool.or_eq_true] at h2
    rcases h2 with h2 | h2
    · rw [lessL_trans h1 h2] at h; cases h
    · rw [begin_ahead h1 h2 h]; rfl
theorem pref_turns {l : List Ent} {p : List UInt8} {a b : Nat} {t : List UInt8} (hr : rises t l = true) (h1 : TurnsAt (fun k => !lessL (tK l k) p) l.length a) (h2 : TurnsAt (fun k => !upTo p (tK l k)) l.length b) : prefD l p = (l.take b).drop a := by
  obtain ⟨f1, f2⟩ := turns_all hr (down_less p) h1
  obtain ⟨g1, g2⟩ := turns_all hr (down_upTo p) h2
  have hP : ∀ x : Ent, hasP p x = hasT p x.1 := fun _ => rfl
  unfold prefD
  refine filter_mid _ l a b (fun k hk hka => ?_) (fun k hk hka hkb => ?_) (fun k hk hkb => ?_)
  · rw [hP, ← tK_at hk]
    have := f1 k hka
    cases h : hasT p (tK l k) with
    | false => rfl
    | true => rw [less_begin h] at this; cases this
  · rw [hP, ← tK_at hk]
    have h3 := f2 k hka hk
    have h4 := g1 k hkb
    unfold upTo at h4
    rw [h3] at h4
    exact h4
  · rw [hP, ← tK_at hk]
    have h4 := g2 k hkb hk
    unfold upTo at h4
    rw [Bool.or_eq_false_iff] at h4
    exact h4.2
theorem pref_le {l : List Ent} {p : List UInt8} {a b : Nat} {t : List UInt8} (hr : rises t l = true) (h1 : TurnsAt (fun k => !lessL (tK l k) p) l.length a) (h2 : TurnsAt (fun k => !upTo p (tK l k)) l.length b) : a ≤ b := by
  obtain ⟨f1, f2⟩ := turns_all hr (down_less p) h1
  obtain ⟨g1, g2⟩ := turns_all hr (down_upTo p) h2
  refine Nat.not_lt.1 fun h => ?_
  have ha := h1.1
  have e1 := f1 b h
  have e2 := g2 b (Nat.le_refl _) (by omega)
  unfold upTo at e2
  rw [e1] at e2
  cases e2
/-- A term is found where as many are below it. -/
theorem find_floor {l : List Ent} {u : List UInt8} {t : List UInt8} (hr : rises t l = true) : findD l u = match atD l (floorD l u : Int) with
    | none => none
    | some x => if x.1 = u then some x else none := by
  have hle := floorD_le l u
  have hat : ∀ k : Nat, atD l (k : Int) = l[k]? := fun k => by
    unfold atD
    by_cases h : k < l.length
    · rw [if_pos ⟨by omega, by omega⟩, Int.toNat_natCast]
    · rw [if_neg (by omega), List.getElem?_eq_none (by omega)]
  rw [hat]
  have hfil : ∀ k (hk : k < l.length), l[k].1 = u → floorD l u = k := fun k hk he => by
    refine floor_turns hr ⟨by omega, fun h0 => ?_, fun _ => ?_⟩
    · have := rises_lt hr (show k - 1 < k by omega) hk
      rw [tK_at hk, he] at this
      dsimp only
      rw [this]; rfl
    · dsimp only
      rw [tK_at hk, he, lessL_irr]; rfl
  cases hf : findD l u with
  | some x =>
    have hx := List.find?_some hf
    have hm := List.mem_of_find?_eq_some hf
    obtain ⟨k, hk, rfl⟩ := List.getElem_of_mem hm
    have he : l[k].1 = u := by simpa using hx
    rw [hfil k hk he, List.getElem?_eq_getElem hk]
    simp [he]
  | none =>
    cases hg : l[floorD l u]? with
    | none => rfl
    | some x =>
      obtain ⟨hk, rfl⟩ := List.getElem?_eq_some_iff.1 hg
      have := List.find?_eq_none.1 hf l[floorD l u] (List.getElem_mem hk)
      have hne : l[floorD l u].1 ≠ u := by simpa using this
      simp [hne]
end Go.Proofs.Ytklngjnjnkocmaa.DT
