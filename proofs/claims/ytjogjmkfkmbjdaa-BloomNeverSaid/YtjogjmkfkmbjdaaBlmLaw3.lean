/-
  The law of P9.3: it returns true, whatever terms are added. Condition: the arguments read as data.
-/
import Derived.Test.YtjogjmkfkmbjdaaBlmAwake
import Derived.Test.YtjogjmkfkmbjdaaBlmFew
set_option linter.unusedVariables false
namespace Go.Proofs.Ytjogjmkfkmbjdaa.BL
open Go.RowKit Go.Proofs.Ytjogjmkfkmbjdaa.MM Go.Proofs.Ytjogjmkfkmbjdaa.BM

/-- What was added may be there. -/
theorem may_taken {L : List UInt8} (hL : 0 < L.length) (ss : List (List UInt8)) : ∀ k, ∀ s ∈ ss.take k, mayL (addA L (ss.take k)).1 s = true := by
  intro k
  induction k with
  | zero => intro s h; simp at h
  | succ k ih =>
    intro s h
    by_cases hk : k < ss.length
    · rw [addA_next hk]
      have hl : 0 < (addA L (ss.take k)).1.length := by rw [addA_len]; exact hL
      rw [List.take_succ_eq_append_getElem hk, List.mem_append] at h
      rcases h with h | h
      · exact may_keeps hl (ih s h)
      · simp at h
        subst h
        exact may_has hl
    · rw [List.take_of_length_le (by omega)] at ih h ⊢
      exact ih s h
theorem trow_kep {B b : Nat} {w : World} {v : Value} {ss : List (List UInt8)} (h : TIn B w v ss) (hB : B ≤ b) (hs : B ≤ w.heap.size) : ∀ w', Kep (fun i => i ≠ b) w w' → TRow w' v ss :=
  fun w' hk => (h.below (hk.below hs fun k hk => by omega)).mono (Nat.le_trans hs hk.size)

set_option maxRecDepth 100000 in
set_option maxHeartbeats 4000000 in
theorem never_walk (n : Nat) (v : Value) (ss : List (List UInt8)) (w : World) (hn : n < 256) (hr : TRow w v ss) : Calls Try.prog 5 #[.int .u8 n, v] w fun e w' => e = .returned (.bool true) ∧ Below w.heap.size w w' := by
  have HFEW := Lib.hid (few_any v ss w hr)
  have hfl := fewL_len ss
  have hfe := fun s (h : s ∈ fewL ss) => fewL_each h
  obtain ⟨fs, hfs⟩ : ∃ fs, fewL ss = fs := ⟨_, rfl⟩
  rw [hfs] at HFEW hfl hfe
  have HFE := Lib.hid (fun k (hk : k < fs.length) => hfe fs[k] (List.getElem_mem hk))
  have HFA := Lib.hid hfe
  have HNEW := Lib.hid (fun W => new_any n W (by omega))
  have hlo := (roomL_le n).1
  rw [← newL_len] at hlo
  obtain ⟨N, hN⟩ : ∃ N, newL n = N := ⟨_, rfl⟩
  rw [hN] at HNEW hlo
  have HNX := Lib.hid (fun k (hk : k < fs.length) => addA_next (L := N) hk)
  have HMT := Lib.hid (fun k (hk : k < fs.length) j (hj : j ≤ k) => may_taken (L := N) (by omega) fs (k + 1) fs[j] (by rw [List.mem_take_iff_getElem]; exact ⟨j, by omega, rfl⟩))
  have HALL := Lib.hid (show addA (addA N (fs.take fs.length)).1 fs = ((addA N (fs.take fs.length)).1, 0) from addA_may (fun s hs => may_taken (L := N) (by omega) fs fs.length s (by rw [List.take_length]; exact hs)))
  have HA0 : Hid ((addA N (fs.take 0)).1 = N) := Lib.hid rfl
  have HONE := Lib.hid addA_one
  clear hfs hfe hN hlo hr
  go_enter Try.func5, Try.ntmps5
  go_wp2_with fail
  refine HFEW.out.mono ?_
  rintro e w1 ⟨v1, rfl, ho1, hb1⟩
  have HT1 : Hid (TIn w1.heap.size w1 v1 fs) := Lib.hid ho1.trow
  have HB1 := Lib.hid hb1
  clear ho1 hb1 HFEW
  go_wp2_with fail
  refine (HNEW.out _).mono ?_
  rintro e w2 ⟨g, b, cap, rfl, hf, hg, hb, hbl⟩
  have HF2 := Lib.hid hf
  have HB2 := Lib.hid hbl
  clear hf hbl HNEW
  go_wp2_with fail
  refine (awake_any _).mono ?_
  rintro e w3 ⟨rfl, hb3⟩
  have HF3 : Hid (FAt w3 g b cap (addA N (fs.take 0)).1) := Lib.hid (by rw [HA0.out]; exact HF2.out.below hb3)
  have HB3 : Hid (Below w1.heap.size w1 w3) := Lib.hid (HB2.out.trans (hb3.mono HB2.out.size))
  clear hb3 HF2 HB2
  obtain ⟨p, tcap, rfl, htc, htm⟩ := TIn.shape HT1.out
  go_wp2_with fail
  go_loopw [7] (fun iv wr => ∃ i : Nat, i ≤ fs.length ∧ iv = .int .i64 i ∧ Hid (FAt wr g b cap (addA N (fs.take i)).1) ∧ Hid (Below w1.heap.size w1 wr)) (fun iv _ => fs.length - (intOf iv).toNat)
  case atStart => exact ⟨0, by omega, rfl, HF3, HB3⟩
  case round =>
    obtain ⟨i, hi, rfl, HF, HB⟩ := hrel
    clear HF3 HB3
    by_cases hlt : i < fs.length
    · have t1 : decide ((i : Int) < (fs.length : Int)) = true := by simp; omega
      have hts := HT1.out.below HB.out
      obtain ⟨bt, off, rfl, hbl, hcell⟩ := TIn.at_ hts hlt
      have hse := HFE.out i hlt
      have hnx := congrArg (fun x => x.1) (HNX.out i hlt)
      dsimp only at hnx
      have HMI := Lib.hid (HMT.out i hlt)
      obtain ⟨s, hs⟩ : ∃ s, fs[i] = s := ⟨_, rfl⟩
      rw [hs] at hcell hse hnx
      rw [← HONE.out] at hnx
      have HNXI := Lib.hid hnx
      have hba : Below wr.heap.size wr (wr.alloc (.cells #[.string ⟨s.toArray⟩] 9)) := (Below.refl _ _).alloc (Nat.le_refl _) _
      have hbt := HF.out.blt
      have hadd := add_any g b cap _ (.slice (some ⟨wr.heap.size, 0, none⟩) 1 1) [s] _ (HF.out.below hba) (trow_lit wr s b (by omega)) (by simp) (by simp; omega)
      have HBA := Lib.hid (HB.out.trans (hba.mono HB.out.size))
      rw [← HNXI.out] at hnx
      clear hs hnx hts hba hbt
      have HADD := Lib.hid hadd
      clear hadd
      go_wp2_with fail
      refine HADD.out.mono ?_
      rintro e w4 ⟨rfl, hf4, hk4⟩
      rw [← HNXI.out] at hf4
      have HF4 := Lib.hid hf4
      have HB4 := Lib.hid (HBA.out.trans (hk4.below HBA.out.size (fun k hk => by omega)))
      clear hf4 hk4 HADD HF HB HBA hcell hse
      go_wp2_with fail
      go_loopw [8] (fun jv wr2 => ∃ j : Nat, j ≤ i + 1 ∧ jv = .int .i64 j ∧ Hid (FAt wr2 g b cap (addA N (fs.take (i + 1))).1) ∧ Hid (Below w1.heap.size w1 wr2)) (fun jv _ => i + 1 - (intOf jv).toNat)
      case atStart => exact ⟨0, by omega, rfl, HF4, HB4⟩
      case round =>
        obtain ⟨j, hj, rfl, HF, HB⟩ := hrel
        clear HF4 HB4
        by_cases hji : j ≤ i
        · have t2 : decide ((j : Int) ≤ (i : Int)) = true := by simp; omega
          have t3 : decide ((j : Int) < (fs.length : Int)) = true := by simp; omega
          have hjl : j < fs.length := by omega
          obtain ⟨bt2, off2, he2, hbl2, hcell2⟩ := TIn.at_ (HT1.out.below HB.out) hjl
          simp only [Option.some.injEq, Addr.mk.injEq] at he2
          obtain ⟨rfl, rfl, _⟩ := he2
          have hm := HMI.out j hji
          have hse := HFE.out j hjl
          obtain ⟨s2, hs2⟩ : ∃ s2, fs[j] = s2 := ⟨_, rfl⟩
          rw [hs2] at hcell2 hm hse
          have hmay := may_any g b cap _ s2 _ HF.out (by omega)
          rw [hm] at hmay
          have HMAY := Lib.hid hmay
          clear hmay hm hs2 hse
          go_wp2_with fail
          refine HMAY.out.mono ?_
          rintro e w5 ⟨rfl, hb5⟩
          have HF5 := Lib.hid (HF.out.below hb5)
          have HB5 := Lib.hid (HB.out.trans (hb5.mono HB.out.size))
          clear hb5 HMAY
          go_wp2_with fail
          go_roundw
          case rel => exact ⟨j + 1, by omega, by go_num, HF5, HB5⟩
          case measure => simp [intOf]; omega
        · obtain rfl : j = i + 1 := by omega
          have t2 : decide ((i : Int) + 1 ≤ (i : Int)) = false := by simp; omega
          have t3 : decide (((i + 1 : Nat) : Int) ≤ (i : Int)) = false := by simp; omega
          go_wp2_with fail
          go_roundw
          case rel => exact ⟨i + 1, by omega, by go_num, HF, HB⟩
          case measure => simp [intOf]; omega
    · obtain rfl : i = fs.length := by omega
      have t1 : decide ((fs.length : Int) < (fs.length : Int)) = false := by simp
      have hadd := add_any g b cap _ _ fs _ HF.out (trow_kep (HT1.out.below HB.out) hb HB.out.size) (by omega) (fun s hs => by have := HFA.out s hs; omega)
      rw [HALL.out] at hadd
      have HADD := Lib.hid hadd
      clear hadd
      go_wp2_with fail
      refine HADD.out.mono ?_
      rintro e w6 ⟨rfl, hf6, hk6⟩
      have HBE := Lib.hid (HB1.out.trans ((HB.out.trans (hk6.below HB.out.size (fun k hk => by omega))).mono HB1.out.size))
      clear hf6 hk6
      go_wp2_with fail
      go_ret
      exact ⟨rfl, HBE.out⟩
end Go.Proofs.Ytjogjmkfkmbjdaa.BL
