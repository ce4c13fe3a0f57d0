/-
  Many files, one behind the other, on a plain disk. No program in it.
-/
import Derived.Test.YtkpbgpnpheaegaaDskMath4
set_option linter.unusedVariables false
namespace Go.Proofs.Ytkpbgpnpheaegaa.DK

def nm (i : Nat) : List UInt8 := [102, UInt8.ofNat (97 + i / 676), UInt8.ofNat (97 + i / 26 % 26), UInt8.ofNat (97 + i % 26)]
theorem ofNat_toNat (a : Nat) (h : a < 256) : (UInt8.ofNat a).toNat = a := by
  rw [UInt8.toNat_ofNat']
  omega
theorem nm_inj {i j : Nat} (hi : i < 1100) (hj : j < 1100) (h : nm i = nm j) : i = j := by
  unfold nm at h
  simp only [List.cons.injEq, and_true, true_and] at h
  obtain ⟨h1, h2, h3⟩ := h
  have h1 := congrArg UInt8.toNat h1
  have h2 := congrArg UInt8.toNat h2
  have h3 := congrArg UInt8.toNat h3
  rw [ofNat_toNat _ (by omega), ofNat_toNat _ (by omega)] at h1 h2 h3
  omega
theorem ok_letter (a : Nat) (h : a < 26) : charOk (UInt8.ofNat (97 + a)) = true := by
  have e := ofNat_toNat (97 + a) (by omega)
  unfold charOk
  have h1 : (97 : UInt8) ≤ UInt8.ofNat (97 + a) := by rw [UInt8.le_iff_toNat_le, e]; show 97 ≤ 97 + a; omega
  have h2 : UInt8.ofNat (97 + a) ≤ 122 := by rw [UInt8.le_iff_toNat_le, e]; show 97 + a ≤ 122; omega
  generalize UInt8.ofNat (97 + a) = x at *
  simp [h1, h2]
theorem nm_named (i : Nat) (hi : i < 1100) : namedL (nm i) = true := by
  unfold namedL nm
  simp only [List.length_cons, List.length_nil, List.all_cons, List.all_nil, Bool.and_true]
  rw [ok_letter _ (by omega), ok_letter _ (by omega), ok_letter _ (by omega)]
  rfl
structure Many (i : Nat) (d : DiskD) : Prop where
  fits : Fits d
  q : d.quota = 0
  a : d.armed = 0
  s : d.stopped = false
  len : d.L.length = min i 1024
  has : ∀ n, (findL d.L n).isSome = true ↔ ∃ j, j < min i 1024 ∧ n = nm j
  emp : ∀ f ∈ d.L, f.b = []
theorem many_zero : Many 0 ⟨[], 0, 0, false⟩ :=
  ⟨⟨⟨trivial, fun f hf => (List.not_mem_nil hf).elim⟩, by simp, fun f hf => (List.not_mem_nil hf).elim, fun f hf => (List.not_mem_nil hf).elim, Int.le_refl _, by simp⟩, rfl, rfl, rfl, by simp, fun n => by simp [findL], fun f hf => (List.not_mem_nil hf).elim⟩
theorem many_find {i : Nat} {d : DiskD} (h : Many i d) (hi : i < 1100) : findL d.L (nm i) = none := by
  cases hf : findL d.L (nm i) with
  | none => rfl
  | some f =>
    obtain ⟨j, hj, e⟩ := (h.has (nm i)).1 (by rw [hf]; rfl)
    have := nm_inj hi (by omega) e
    omega
theorem many_call {i : Nat} {d : DiskD} (h : Many i d) : callD d = (d, false) := by unfold callD; rw [if_pos h.a]
theorem many_app {i : Nat} {d : DiskD} (h : Many i d) (hi : i < 1100) : appendD d (nm i) [] = if i < 1024 then ({ d with L := withL d.L ⟨nm i, [], 0⟩ }, 0) else (d, 3) := by
  have hf := many_find h hi
  have hl := h.len
  unfold appendD
  rw [many_call h, nm_named i hi, h.s, hf, h.q]
  by_cases h1 : i < 1024
  · rw [if_pos h1]
    have : ¬ 1024 ≤ d.L.length := by omega
    simp [this, h.q, h.s]
  · rw [if_neg h1]
    have : 1024 ≤ d.L.length := by omega
    simp [this]
theorem many_step {i : Nat} {d : DiskD} (h : Many i d) (hi : i < 1100) : (appendD d (nm i) []).2 = (if i < 1024 then 0 else 3) ∧ Many (i + 1) (appendD d (nm i) []).1 := by
  have hfit := append_fits (nm i) [] h.fits
  have hf := many_find h hi
  rw [many_app h hi] at hfit ⊢
  by_cases h1 : i < 1024
  · rw [if_pos h1] at hfit ⊢
    refine ⟨by rw [if_pos h1], ⟨hfit, h.q, h.a, h.s, ?_, fun n => ?_, fun f hf => ?_⟩⟩
    · show (withL d.L _).length = _
      rw [len_with _ h.fits.good.rise, hf, h.len]
      simp only [Option.isSome_none, Bool.false_eq_true, if_false]
      omega
    · show (findL (withL d.L _) n).isSome = true ↔ _
      rw [find_with]
      by_cases e : n = nm i
      · subst e
        rw [if_pos rfl]
        exact ⟨fun _ => ⟨i, by omega, rfl⟩, fun _ => rfl⟩
      · rw [if_neg e, h.has n]
        constructor
        · rintro ⟨j, hj, e2⟩
          exact ⟨j, by omega, e2⟩
        · rintro ⟨j, hj, rfl⟩
          refine ⟨j, ?_, rfl⟩
          have : j ≠ i := fun k => e (by rw [k])
          omega
    · rcases mem_withL hf with rfl | hf
      · rfl
      · exact h.emp f hf
  · rw [if_neg h1] at hfit ⊢
    refine ⟨by rw [if_neg h1], ⟨hfit, h.q, h.a, h.s, ?_, fun n => ?_, h.emp⟩⟩
    · show d.L.length = _
      rw [h.len]
      omega
    · show (findL d.L n).isSome = true ↔ _
      rw [h.has n]
      have : min (i + 1) 1024 = min i 1024 := by omega
      rw [this]
theorem many_end {i : Nat} {d : DiskD} (h : Many i d) (h0 : 0 < i) : (appendD d (nm 0) [1]).2 = 0 := by
  obtain ⟨f, hf⟩ := Option.isSome_iff_exists.1 ((h.has (nm 0)).2 ⟨0, by omega, rfl⟩)
  have hb := h.emp f (find_mem hf).1
  unfold appendD
  rw [many_call h, nm_named 0 (by omega), h.s, hf, h.q]
  simp [hb]
end Go.Proofs.Ytkpbgpnpheaegaa.DK
