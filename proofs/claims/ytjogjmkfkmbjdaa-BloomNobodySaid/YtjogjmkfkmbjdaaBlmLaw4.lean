/-
  The law of filters that nobody made: it returns true. Condition: a text is no longer than memory bears.
-/
import Derived.Test.YtjogjmkfkmbjdaaBlmAwake
set_option linter.unusedVariables false
namespace Go.Proofs.Ytjogjmkfkmbjdaa.BL
open Go.RowKit Go.Proofs.Ytjogjmkfkmbjdaa.MM Go.Proofs.Ytjogjmkfkmbjdaa.BM

set_option maxRecDepth 100000 in
set_option maxHeartbeats 2000000 in
theorem nobody_walk (s : ByteArray) (v : Value) (w : World) : Calls Try.prog 6 #[.string s, v] w fun e w' => e = .returned (.bool true) ∧ Below w.heap.size w w' := by
  have hb1 : Below w.heap.size w ((w.alloc (.cells #[.slice none 0 0] 50)).alloc (.cells #[.pointer none, .pointer (some ⟨w.heap.size, 0, none⟩)] 24)) := ((Below.refl _ _).alloc (Nat.le_refl _) _).alloc (by simp) _
  have hsz1 : ((w.alloc (.cells #[.slice none 0 0] 50)).alloc (.cells #[.pointer none, .pointer (some ⟨w.heap.size, 0, none⟩)] 24)).heap.size = w.heap.size + 1 + 1 := by simp
  have hg0 : ((w.alloc (.cells #[.slice none 0 0] 50)).alloc (.cells #[.pointer none, .pointer (some ⟨w.heap.size, 0, none⟩)] 24)).heap[w.heap.size]? = some (.cells #[.slice none 0 0] 50 (0, 0)) := by
    have e := heap_alloc_new w (.cells #[.slice none 0 0] 50)
    rw [((Below.refl (w.heap.size + 1) (w.alloc (.cells #[.slice none 0 0] 50))).alloc (by simp) _).block w.heap.size (by omega)]
    exact e
  have hg1 : ((w.alloc (.cells #[.slice none 0 0] 50)).alloc (.cells #[.pointer none, .pointer (some ⟨w.heap.size, 0, none⟩)] 24)).heap[w.heap.size + 1]? = some (.cells #[.pointer none, .pointer (some ⟨w.heap.size, 0, none⟩)] 24 (0, 0)) := by
    have e := heap_alloc_new (w.alloc (.cells #[.slice none 0 0] 50)) (.cells #[.pointer none, .pointer (some ⟨w.heap.size, 0, none⟩)] 24)
    rw [show (w.alloc (.cells #[.slice none 0 0] 50)).heap.size = w.heap.size + 1 by simp] at e
    exact e
  obtain ⟨W1, hW1⟩ : ∃ W1, (w.alloc (.cells #[.slice none 0 0] 50)).alloc (.cells #[.pointer none, .pointer (some ⟨w.heap.size, 0, none⟩)] 24) = W1 := ⟨_, rfl⟩
  rw [hW1] at hb1 hsz1 hg0 hg1
  have HW1 := Lib.hid hW1
  have HB1 := Lib.hid hb1
  have HSZ := Lib.hid hsz1
  have HG0 := Lib.hid hg0
  have HG1 := Lib.hid hg1
  have HNB := Lib.hid (fun p W (h : Nob W p) => And.intro (fun ts => h.add ts) (And.intro (fun s => h.may s) (And.intro h.bits (And.intro h.count h.bytes))))
  have HC0 := Lib.hid (fun W (hb : Below W1.heap.size W1 W) => (hb.block w.heap.size (by omega)).trans hg0)
  have HC1 := Lib.hid (fun W (hb : Below W1.heap.size W1 W) => (hb.block (w.heap.size + 1) (by omega)).trans hg1)
  clear hb1 hsz1 hg0 hg1 hW1
  go_enter Try.func6, Try.ntmps6
  go_wp2_with fail
  rw [HW1.out]
  go_loopw [13] (fun iv wr => ∃ i : Nat, i ≤ 2 ∧ iv = .int .i64 i ∧ Hid (Below W1.heap.size W1 wr)) (fun iv _ => 2 - (intOf iv).toNat)
  case atStart => exact ⟨0, by omega, rfl, Lib.hid (Below.refl _ _)⟩
  case round =>
    obtain ⟨i, hi, rfl, HB⟩ := hrel
    by_cases hlt : i < 2
    · have t1 : decide ((i : Int) < 2) = true := by simp; omega
      have hcc := HC1.out wr HB.out
      have hc0 := HC0.out wr HB.out
      have step : ∃ p : Option Addr, wr.cell? ⟨w.heap.size + 1, i, none⟩ = some (.pointer p) ∧ ∀ W, Below wr.heap.size wr W → Nob W p := by
        rcases (by omega : i = 0 ∨ i = 1) with rfl | rfl
        · exact ⟨none, by rw [cell_of_row _ _ 0 _ _ _ hcc]; rfl, fun W _ => .inl rfl⟩
        · refine ⟨some ⟨w.heap.size, 0, none⟩, by rw [cell_of_row _ _ 1 _ _ _ hcc]; rfl, fun W hb => .inr ⟨w.heap.size, rfl, ?_⟩⟩
          rw [cell_of_row W w.heap.size 0 _ _ _ ((hb.block w.heap.size (Array.getElem?_eq_some_iff.1 hc0).1).trans hc0)]
          rfl
      obtain ⟨p, hcell, hnob⟩ := step
      have hba := fun o => (Below.refl wr.heap.size wr).alloc (Nat.le_refl _) o
      have HN := Lib.hid (fun o => HNB.out p (wr.alloc o) (hnob _ (hba o)))
      have HBB := Lib.hid (fun o => HB.out.trans ((hba o).mono HB.out.size))
      clear hcc hc0 hnob hba
      go_wp2_with fail
      refine ((HN.out _).1 _).mono ?_
      rintro e w2 ⟨rfl, rfl⟩
      go_wp2_with fail
      refine ((HN.out _).2.1 _).mono ?_
      rintro e w2 ⟨rfl, rfl⟩
      go_wp2_with fail
      refine ((HN.out _).2.2.1).mono ?_
      rintro e w2 ⟨rfl, rfl⟩
      go_wp2_with fail
      refine ((HN.out _).2.2.2.1).mono ?_
      rintro e w2 ⟨rfl, rfl⟩
      go_wp2_with fail
      refine ((HN.out _).2.2.2.2).mono ?_
      rintro e w2 ⟨rfl, rfl⟩
      go_wp2_with fail
      go_roundw
      case rel => exact ⟨i + 1, by omega, by go_num, Lib.hid (HBB.out _)⟩
      case measure => simp [intOf]; omega
    · obtain rfl : i = 2 := by omega
      have t1 : decide ((2 : Int) < 2) = false := by simp
      have HBE := Lib.hid (HB1.out.trans (HB.out.mono HB1.out.size))
      go_wp2_with fail
      refine (awake_any _).mono ?_
      rintro e w5 ⟨rfl, hb5⟩
      have HB5 := Lib.hid (HBE.out.trans (hb5.mono HBE.out.size))
      clear hb5
      go_wp2_with fail
      go_ret
      exact ⟨rfl, HB5.out⟩
end Go.Proofs.Ytjogjmkfkmbjdaa.BL
