/-
  The plain list of files: what is found behind a file is put in or taken out, and how many there are. No program in it.
-/
import Derived.Test.YtljfpolcgegkpaaDskMath
set_option linter.unusedVariables false
namespace Go.Proofs.Ytljfpolcgegkpaa.DK

theorem find_ins {f : FileD} (k : List UInt8) : ∀ {l : List FileD}, (∀ g ∈ l, g.name ≠ f.name) → findL (insL f l) k = if k = f.name then some f else findL l k
  | [], _ => by
    unfold insL findL
    by_cases e : f.name = k
    · simp [e]
    · simp [e, Ne.symm e]
  | x :: l, h => by
    unfold insL
    by_cases hl : lessL f.name x.name = true
    · rw [if_pos hl]
      unfold findL
      by_cases e : f.name = k
      · simp [e]
      · simp [e, Ne.symm e, List.find?_cons]
    · rw [if_neg hl]
      have ih := find_ins k (l := l) fun g hg => h g (List.mem_cons_of_mem _ hg)
      unfold findL at ih ⊢
      rw [List.find?_cons, List.find?_cons, ih]
      by_cases e : x.name = k
      · have : k ≠ f.name := fun q => h x (List.mem_cons_self ..) (e.trans q)
        simp [e, this]
      · simp [e]
theorem find_without (n k : List UInt8) : ∀ (l : List FileD), findL (withoutL l n) k = if k = n then none else findL l k
  | [] => by simp [findL, withoutL]
  | x :: l => by
    have ih := find_without n k l
    unfold withoutL findL at ih ⊢
    rw [List.filter_cons, List.find?_cons]
    by_cases e : x.name = n
    · rw [if_neg (by simp [e]), ih]
      by_cases q : k = n
      · simp [q]
      · have : ¬ x.name = k := fun z => q (z.symm.trans e)
        simp [q, this]
    · rw [if_pos (by simp [e]), List.find?_cons, ih]
      by_cases q : k = n
      · subst q; simp [e]
      · simp [q]
theorem find_with (l : List FileD) (f : FileD) (k : List UInt8) : findL (withL l f) k = if k = f.name then some f else findL l k := by
  unfold withL
  rw [find_ins k fun g hg => by
    have := (List.mem_filter.1 hg).2
    simpa using this, find_without]
  by_cases e : k = f.name <;> simp [e]
theorem len_ins (f : FileD) : ∀ l : List FileD, (insL f l).length = l.length + 1
  | [] => rfl
  | x :: l => by
    unfold insL
    split
    · rfl
    · rw [List.length_cons, len_ins f l, List.length_cons]
theorem find_none {l : List FileD} {n : List UInt8} (h : findL l n = none) : ∀ f ∈ l, f.name ≠ n := fun f hf => by
  unfold findL at h
  have := List.find?_eq_none.1 h f hf
  simpa using this
theorem len_without {n : List UInt8} : ∀ {l : List FileD}, Rise l → (withoutL l n).length = if (findL l n).isSome then l.length - 1 else l.length
  | [], _ => rfl
  | x :: l, h => by
    have ih := len_without (n := n) h.2
    by_cases e : x.name = n
    · have hw : withoutL (x :: l) n = l := by
        have h1 := without_none (l := l) (n := n) fun g hg k => by
          have := h.1 g hg
          rw [e, ← k, lessL_irr] at this
          cases this
        unfold withoutL at h1 ⊢
        rw [List.filter_cons, if_neg (by simp [e]), h1]
      have hf : findL (x :: l) n = some x := by simp [findL, e]
      rw [hw, hf]
      simp
    · have hw : withoutL (x :: l) n = x :: withoutL l n := by simp [withoutL, e]
      have hf : findL (x :: l) n = findL l n := by simp [findL, e]
      rw [hw, hf, List.length_cons, ih]
      cases hq : findL l n with
      | none => simp
      | some f =>
        have := List.length_pos_of_mem (find_mem hq).1
        simp only [Option.isSome_some, if_true, List.length_cons]
        omega
theorem len_with {l : List FileD} (f : FileD) (h : Rise l) : (withL l f).length = if (findL l f.name).isSome then l.length else l.length + 1 := by
  unfold withL
  rw [len_ins, len_without h]
  cases hq : findL l f.name with
  | none => simp
  | some g =>
    have := List.length_pos_of_mem (find_mem hq).1
    simp only [Option.isSome_some, if_true]
    omega
end Go.Proofs.Ytljfpolcgegkpaa.DK
