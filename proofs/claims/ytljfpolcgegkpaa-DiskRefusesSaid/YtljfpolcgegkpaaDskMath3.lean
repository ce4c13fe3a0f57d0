/-
  The plain list of files: one file written anew in its place; a restart, file by file. No program in it.
-/
import Derived.Test.YtljfpolcgegkpaaDskMath2
set_option linter.unusedVariables false
namespace Go.Proofs.Ytljfpolcgegkpaa.DK

theorem rise_app : ∀ {A B : List FileD}, Rise (A ++ B) → Rise A ∧ Rise B ∧ ∀ a ∈ A, ∀ b ∈ B, lessL a.name b.name = true
  | [], B, h => ⟨trivial, h, fun a ha => (List.not_mem_nil ha).elim⟩
  | x :: A, B, h => by
    have h : (∀ g ∈ A ++ B, lessL x.name g.name = true) ∧ Rise (A ++ B) := h
    obtain ⟨h1, h2⟩ := h
    obtain ⟨r1, r2, r3⟩ := rise_app h2
    refine ⟨⟨fun g hg => h1 g (List.mem_append_left _ hg), r1⟩, r2, fun a ha b hb => ?_⟩
    rcases List.mem_cons.1 ha with rfl | ha
    · exact h1 b (List.mem_append_right _ hb)
    · exact r3 a ha b hb
theorem less_asym {a b : List UInt8} (h : lessL a b = true) : lessL b a = false := by
  cases q : lessL b a with
  | false => rfl
  | true =>
    have := lessL_trans a b a h q
    rw [lessL_irr] at this
    cases this
theorem ins_mid (f' : FileD) : ∀ {A B : List FileD}, (∀ a ∈ A, lessL a.name f'.name = true) → (∀ b ∈ B, lessL f'.name b.name = true) → insL f' (A ++ B) = A ++ f' :: B
  | [], [], _, _ => rfl
  | [], b :: B, _, hb => by
    show insL f' (b :: B) = _
    unfold insL
    rw [if_pos (hb b (List.mem_cons_self ..))]
    rfl
  | a :: A, B, ha, hb => by
    have ih := ins_mid f' (A := A) (B := B) (fun x hx => ha x (List.mem_cons_of_mem _ hx)) hb
    show insL f' (a :: (A ++ B)) = a :: (A ++ f' :: B)
    unfold insL
    rw [if_neg (by rw [less_asym (ha a (List.mem_cons_self ..))]; exact Bool.false_ne_true), ih]
theorem with_mid {A B : List FileD} {f f' : FileD} (h : Rise (A ++ f :: B)) (hn : f'.name = f.name) : withL (A ++ f :: B) f' = A ++ f' :: B := by
  obtain ⟨h1, h2, h3⟩ := rise_app h
  have hf : (∀ g ∈ B, lessL f.name g.name = true) ∧ Rise B := h2
  have ha : ∀ a ∈ A, lessL a.name f.name = true := fun a ha => h3 a ha f (List.mem_cons_self ..)
  have hne : ∀ x y : List UInt8, lessL x y = true → x ≠ y := fun x y h e => by
    rw [e, lessL_irr] at h
    cases h
  unfold withL
  have hw : withoutL (A ++ f :: B) f'.name = A ++ B := by
    unfold withoutL
    rw [List.filter_append, List.filter_cons, if_neg (by simp [hn])]
    congr 1
    · rw [List.filter_eq_self]
      intro a haa
      simpa [hn] using hne _ _ (ha a haa)
    · rw [List.filter_eq_self]
      intro b hb
      simpa [hn] using (hne _ _ (hf.1 b hb)).symm
  rw [hw]
  exact ins_mid f' (fun a haa => by rw [hn]; exact ha a haa) (fun b hb => by rw [hn]; exact hf.1 b hb)
/-- The files behind i rounds of a restart. -/
def stepL (L : List FileD) (ks : List Int) (i : Nat) : List FileD := (restartL L ks).take i ++ L.drop i
theorem step_zero (L : List FileD) (ks : List Int) : stepL L ks 0 = L := rfl
theorem step_end (L : List FileD) (ks : List Int) : stepL L ks L.length = restartL L ks := by
  unfold stepL
  rw [List.drop_length, List.append_nil, List.take_of_length_le (by rw [restartL_len]; exact Nat.le_refl _)]
theorem step_names (L : List FileD) (ks : List Int) (i : Nat) : (stepL L ks i).map (·.name) = L.map (·.name) := by
  unfold stepL
  rw [List.map_append, List.map_take, restartL_names, List.map_drop, List.take_append_drop]
theorem step_rise {L : List FileD} (ks : List Int) (i : Nat) (h : Rise L) : Rise (stepL L ks i) := rise_names _ _ (step_names L ks i).symm h
theorem step_len (L : List FileD) (ks : List Int) (i : Nat) : (stepL L ks i).length = L.length := by
  have := congrArg List.length (step_names L ks i)
  simpa using this
theorem step_at {L : List FileD} {ks : List Int} {i : Nat} {f : FileD} (h : L[i]? = some f) : stepL L ks i = (restartL L ks).take i ++ f :: L.drop (i + 1) := by
  obtain ⟨hlt, he⟩ := List.getElem?_eq_some_iff.1 h
  unfold stepL
  rw [List.drop_eq_getElem_cons hlt, he]
theorem step_next {L : List FileD} {ks : List Int} {i : Nat} {f : FileD} (h : L[i]? = some f) : stepL L ks (i + 1) = (restartL L ks).take i ++ restartF f ks[i]? :: L.drop (i + 1) := by
  have hr := restartL_at L ks i
  rw [h, Option.map_some] at hr
  obtain ⟨hlt, he⟩ := List.getElem?_eq_some_iff.1 hr
  unfold stepL
  rw [List.take_succ_eq_append_getElem hlt, he, List.append_assoc]
  rfl
theorem step_put {L : List FileD} {ks : List Int} {i : Nat} {f : FileD} (hr : Rise L) (h : L[i]? = some f) : withL (stepL L ks i) (restartF f ks[i]?) = stepL L ks (i + 1) := by
  rw [step_next h, step_at h]
  refine with_mid ?_ rfl
  rw [← step_at h]
  exact step_rise ks i hr
theorem step_find {L : List FileD} {ks : List Int} {i : Nat} {f : FileD} (hr : Rise L) (h : L[i]? = some f) : findL (stepL L ks i) f.name = some f := by
  refine rise_find (step_rise ks i hr) ?_
  rw [step_at h]
  simp
theorem step_mem {L : List FileD} {ks : List Int} {i : Nat} {g : FileD} (h : g ∈ stepL L ks i) : g ∈ restartL L ks ∨ g ∈ L := by
  rcases List.mem_append.1 h with h | h
  · exact .inl (List.mem_of_mem_take h)
  · exact .inr (List.mem_of_mem_drop h)
end Go.Proofs.Ytljfpolcgegkpaa.DK
