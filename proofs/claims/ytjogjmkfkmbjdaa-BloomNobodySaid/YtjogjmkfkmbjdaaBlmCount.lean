/-
  How many bits there are, by the code: Bits, Count. No condition.
-/
import Derived.Test.YtjogjmkfkmbjdaaBlmCode
import Derived.Lib.BitFns
set_option linter.unusedVariables false
namespace Go.Proofs.Ytjogjmkfkmbjdaa.BL
open Go.RowKit Go.Proofs.Ytjogjmkfkmbjdaa.MM Go.Proofs.Ytjogjmkfkmbjdaa.BM

theorem pop_all : ∀ c : Fin 256, wrap64 (Lib.pop8 (c.val : Int)) = (onesB (UInt8.ofNat c.val) : Int) := by decide +kernel
theorem pop_ones (c : UInt8) : wrap64 (Lib.pop8 (c.toNat : Int)) = (onesB c : Int) := by
  have := pop_all ⟨c.toNat, c.toNat_lt⟩
  have e : UInt8.ofNat c.toNat = c := by simp
  dsimp only at this
  rw [e] at this
  exact this
set_option maxRecDepth 100000 in
theorem ones_any (c : UInt8) (w : World) : Calls Try.prog 37 #[.int .u8 (c.toNat : Int)] w fun e w' => e = .returned (.int .i64 (onesB c : Nat)) ∧ w = w' := by
  have hlt := c.toNat_lt
  have h0 : (0 : Int) ≤ (c.toNat : Int) := by omega
  have h1 : (c.toNat : Int) ≤ 255 := by omega
  have HE := Lib.hid (pop_ones c)
  generalize onesB c = R at *
  generalize c.toNat = x at *
  go_enter Try.func37, Try.ntmps37
  go_wp2_with fail
  go_ret
  rw [← HE.out]
  exact ⟨rfl, rfl⟩
set_option maxRecDepth 100000 in
set_option maxHeartbeats 1000000 in
theorem bcount_any (g b cap : Nat) (L : List UInt8) (w : World) (h : FAt w g b cap L) :
    Calls Try.prog 33 #[.slice (some ⟨b, 0, none⟩) L.length cap] w fun e w' => e = .returned (.int .i64 (countL L : Nat)) ∧ w = w' := by
  have hhi := h.hi
  have HF := Lib.hid h
  have HN := Lib.hid (fun j (hj : j < L.length) => countL_next hj)
  have HL := Lib.hid (fun j => Nat.le_trans (countL_le (L.take j)) (Nat.mul_le_mul_left 8 (List.length_take_le' j L)))
  have HE : Hid (countL (L.take L.length) = countL L) := Lib.hid (by rw [List.take_length])
  obtain ⟨R, hR⟩ : ∃ R, countL L = R := ⟨_, rfl⟩
  rw [hR] at HE ⊢
  clear h hR
  go_enter Try.func33, Try.ntmps33
  go_wp2_with fail
  go_loopw [3, 8] (fun nv jv wr => ∃ j : Nat, j ≤ L.length ∧ nv = .int .i64 (countL (L.take j) : Nat) ∧ jv = .int .i64 j ∧ wr = w) (fun _ jv _ => L.length - (intOf jv).toNat)
  case atStart => exact ⟨0, by omega, rfl, rfl, rfl⟩
  case round =>
    obtain ⟨j, hj, rfl, rfl, rfl⟩ := hrel
    by_cases hlt : j < L.length
    · have t1 : decide ((j : Int) < (L.length : Int)) = true := by simp; omega
      have hc := HF.out.there hlt
      have HO := Lib.hid (fun W => ones_any L[j] W)
      have hn := HN.out j hlt
      have hl := HL.out j
      have ho := onesB_le L[j]
      have hcl := L[j].toNat_lt
      generalize L[j] = c at *
      generalize c.toNat = x at *
      obtain ⟨y, hy⟩ : ∃ y, onesB c = y := ⟨_, rfl⟩
      obtain ⟨z, hz⟩ : ∃ z, countL (L.take j) = z := ⟨_, rfl⟩
      rw [hy] at HO hn ho
      rw [hz] at hn hl ⊢
      have HNN := Lib.hid hn
      clear hn hy hz
      go_wp2_with fail
      refine (HO.out _).mono ?_
      rintro e w1 ⟨rfl, rfl⟩
      go_wp2_with fail
      go_roundw
      case rel => exact ⟨j + 1, by omega, by rw [HNN.out]; go_num, by go_num, trivial⟩
      case measure => simp [intOf]; omega
    · obtain rfl : j = L.length := by omega
      have t1 : decide ((L.length : Int) < (L.length : Int)) = false := by simp
      rw [HE.out]
      go_wp2_with fail
      go_ret
      exact ⟨rfl, rfl⟩
set_option maxRecDepth 100000 in
theorem count_any (g b cap : Nat) (L : List UInt8) (w : World) (h : FAt w g b cap L) : Calls Try.prog 17 #[.pointer (some ⟨g, 0, none⟩)] w fun e w' => e = .returned (.int .i64 (countL L : Nat)) ∧ w = w' := by
  have hc := h.cell
  have HM := Lib.hid (made_any g b cap L w h)
  have HB := Lib.hid (bcount_any g b cap L w h)
  clear h
  go_enter Try.func17, Try.ntmps17
  go_wp2_with fail
  refine HM.out.mono ?_
  rintro e w1 ⟨rfl, rfl⟩
  go_wp2_with fail
  refine HB.out.mono ?_
  rintro e w1 ⟨rfl, rfl⟩
  go_wp2_with fail
  go_ret
  exact ⟨rfl, rfl⟩
set_option maxRecDepth 100000 in
theorem bits_any (g b cap : Nat) (L : List UInt8) (w : World) (h : FAt w g b cap L) : Calls Try.prog 16 #[.pointer (some ⟨g, 0, none⟩)] w fun e w' => e = .returned (.int .i64 (8 * (L.length : Int))) ∧ w = w' := by
  have hc := h.cell
  have hhi := h.hi
  have HM := Lib.hid (made_any g b cap L w h)
  have HB := Lib.hid (size_any (some ⟨b, 0, none⟩) L.length cap w hhi)
  clear h
  go_enter Try.func16, Try.ntmps16
  go_wp2_with fail
  refine HM.out.mono ?_
  rintro e w1 ⟨rfl, rfl⟩
  go_wp2_with fail
  refine HB.out.mono ?_
  rintro e w1 ⟨rfl, rfl⟩
  go_wp2_with fail
  go_ret
  exact ⟨rfl, rfl⟩
end Go.Proofs.Ytjogjmkfkmbjdaa.BL
