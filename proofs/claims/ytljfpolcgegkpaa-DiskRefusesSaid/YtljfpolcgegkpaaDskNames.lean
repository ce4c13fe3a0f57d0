/-
  The code's names: the files' names, rising. Condition: as many as memory bears.
-/
import Derived.Test.YtljfpolcgegkpaaDskCode5
import Derived.Test.YtljfpolcgegkpaaIter
import Derived.Sort.KeysCollected
set_option linter.unusedVariables false
namespace Go.Proofs.Ytljfpolcgegkpaa.DK
open Go.RowKit Go.Proofs.Ytljfpolcgegkpaa.MM Go.Maps

theorem less_lt : ∀ (a b : List UInt8), lessL a b = true → a < b
  | [], [], h => by simp [lessL] at h
  | [], b :: t, _ => List.nil_lt_cons b t
  | _ :: _, [], h => by simp [lessL] at h
  | a :: s, b :: t, h => by
    unfold lessL at h
    rw [List.cons_lt_cons_iff]
    by_cases e : a = b
    · rw [if_pos e] at h
      exact .inr ⟨e, less_lt s t h⟩
    · rw [if_neg e] at h
      exact .inl (of_decide_eq_true h)
theorem rise_pair : ∀ {L : List FileD}, Rise L → (L.map (·.name)).Pairwise (fun a b => lessL a b = true)
  | [], _ => List.Pairwise.nil
  | f :: L, h => by
    rw [List.map_cons]
    refine List.Pairwise.cons (fun n hn => ?_) (rise_pair h.2)
    obtain ⟨g, hg, rfl⟩ := List.mem_map.1 hn
    exact h.1 g hg
theorem sorted_names {L : List FileD} {D : DataW Value} {w : World} {mb m : Nat} {R : Value → Option (DataW Value × List MemPlace)} (hown : w.ownsMap Try.prog 9 R mb m D) (hr : Rise L) (hh : ∀ n, Maps.has D (.string n) = (findL L n).isSome) {ss : List (List UInt8)}
    (hs : ss.Perm (strKeys D)) : ss.mergeSort (fun x y => decide (x ≤ y)) = L.map (·.name) := by
  obtain ⟨es, rfl, hp, _⟩ := hown.entries strKeyed
  have hk : ∀ p ∈ es, ∃ x, p.1 = .string x := by
    obtain ⟨es', he, hko⟩ := hown.keysOf
    have he : es = es' := by simpa using he
    subst he
    intro p hpm
    obtain ⟨v, hv⟩ := hko p hpm
    obtain ⟨x, _, hx, _⟩ := Maps.keyOf_str Try.underlying9 hv
    exact ⟨x, hx⟩
  have hpair := rise_pair hr
  have hnd : (L.map (·.name)).Nodup := hpair.imp fun {a b} h e => by
    rw [e, lessL_irr] at h
    cases h
  have hperm : (L.map (·.name)).Perm (strKeys (.map es)) := perm_strKeys hp hk hnd fun x => by
    rw [hh x]
    unfold findL
    rw [List.find?_isSome, List.mem_map]
    constructor
    · rintro ⟨f, hf, rfl⟩
      exact ⟨f, hf, by simp⟩
    · rintro ⟨f, hf, e⟩
      exact ⟨f, hf, by simpa using e⟩
  have h1 := mergeSort_of_perm (hs.trans hperm.symm)
  have h2 : (L.map (·.name)).mergeSort leB = L.map (·.name) := by
    have tr : ∀ a b c : List UInt8, leB a b = true → leB b c = true → leB a c = true := fun a b c h1 h2 => by simp only [leB, decide_eq_true_eq] at *; exact List.le_trans h1 h2
    have to : ∀ a b : List UInt8, (leB a b || leB b a) = true := fun a b => by simp only [leB, Bool.or_eq_true, decide_eq_true_eq]; exact List.le_total a b
    refine List.Perm.eq_of_pairwise (le := fun a b => leB a b = true) (fun a b _ _ q1 q2 => ?_) (List.pairwise_mergeSort tr to _) (hpair.imp fun {a b} h => ?_) (List.mergeSort_perm _ leB)
    · simp only [leB, decide_eq_true_eq] at q1 q2
      exact List.le_antisymm q1 q2
    · simp only [leB, decide_eq_true_eq]
      exact List.le_of_lt (less_lt a b h)
  exact h1.trans h2
theorem sin_of_own {w : World} {base : Nat} {v : Value} {n : Nat} {ns : List (List UInt8)} (h : w.ownsRow base 9 1 v n (ns.map encStr)) : SIn w.heap.size w v ns := Row.of_own h
set_option maxRecDepth 100000 in
theorem names_any (S : Nat → Prop) (g mb : Nat) (V : List UInt8 → Value) (c : Int) (d : DiskD) (w : World) (h : CObj S w g mb V c d) (hF : Fits d) :
    Calls Try.prog 42 #[.pointer (some ⟨g, 0, none⟩)] w fun e w' => ∃ v, e = .returned v ∧ SIn w'.heap.size w' v (d.L.map (·.name)) ∧ Below w.heap.size w w' := by
  have h0 := h.g0
  obtain ⟨D, hD, hs, hh⟩ := h.tab.map
  have hl := hF.len
  have hK := callsIn_wide.1 (Try.maps_Keys_59 (some mb) w)
  have hS := callsIn_wide.1 (Try.slices_Sorted_keys_58_59 mb d.L.length D R0 w hD (by rw [hs]; unfold maxLen; omega) (by rw [hs]; omega))
  have HN := Lib.hid (fun (ss : List (List UInt8)) (hp : ss.Perm (strKeys D)) => sorted_names hD hF.good.rise (fun n => by rw [(hh n).1, (cur_tab d V n).2]) hp)
  have HK := Lib.hid hK
  have HS := Lib.hid hS
  have HB := Lib.hid (fun o => (Below.refl w.heap.size w).alloc (Nat.le_refl _) o)
  clear hK hS hD hs hh h hF hl
  go_enter Try.func42, Try.ntmps42
  go_wp2_with fail
  refine HK.out.mono ?_
  rintro e w1 ⟨rfl, hw1⟩
  subst hw1
  go_wp2_with fail
  refine HS.out.mono ?_
  rintro e w2 ⟨v, ss, rfl, hp, hrow, _, hb⟩
  rw [HN.out ss hp] at hrow
  have HF := Lib.hid (show ∃ u, Ending.returned v = .returned u ∧ SIn w2.heap.size w2 u (d.L.map (·.name)) ∧ Below w.heap.size w w2 from ⟨v, rfl, sin_of_own hrow, (HB.out _).trans (hb.mono (by simp))⟩)
  clear hp hrow hb
  go_wp2_with fail
  go_ret
  exact HF.out
end Go.Proofs.Ytljfpolcgegkpaa.DK
