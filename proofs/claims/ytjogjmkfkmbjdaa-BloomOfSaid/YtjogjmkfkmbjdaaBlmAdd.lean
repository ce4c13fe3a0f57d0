/-
  Texts added, by the code. Condition: at most a thousand texts, each of at most a million bytes.
-/
import Derived.Test.YtjogjmkfkmbjdaaBlmMay
import Derived.Test.YtjogjmkfkmbjdaaMemStrs
set_option linter.unusedVariables false
namespace Go.Proofs.Ytjogjmkfkmbjdaa.BL
open Go.RowKit Go.Proofs.Ytjogjmkfkmbjdaa.MM Go.Proofs.Ytjogjmkfkmbjdaa.BM

/-- What Add leaves: so many were not there; nothing but the filter's bytes has turned. -/
def AddLeft (g b cap : Nat) (r : List UInt8 × Nat) (w : World) (e : Ending) (w' : World) : Prop := e = .returned (.int .i64 (r.2 : Int)) ∧ FAt w' g b cap r.1 ∧ Kep (fun i => i ≠ b) w w'
theorem put1_yes {st : List UInt8 × Nat} {k : Nat} (h : hasL st.1 k = true) : put1 st k = st := by unfold put1; rw [if_pos h]
theorem put1_no {st : List UInt8 × Nat} {k : Nat} (h : hasL st.1 k = false) : put1 st k = (putL st.1 k, st.2 + 1) := by unfold put1; rw [if_neg (by rw [h]; exact Bool.false_ne_true)]

set_option maxRecDepth 100000 in
set_option maxHeartbeats 2000000 in
theorem add_any (g b cap : Nat) (L : List UInt8) (ts : Value) (ss : List (List UInt8)) (w : World) (h : FAt w g b cap L) (ht : ∀ w', Kep (fun i => i ≠ b) w w' → TRow w' ts ss) (hss : ss.length ≤ 1000) (hs : ∀ s ∈ ss, s.length ≤ 1000000) :
    Calls Try.prog 12 #[.pointer (some ⟨g, 0, none⟩), ts] w (AddLeft g b cap (addA L ss) w) := by
  have hlo := h.lo
  have hhi := h.hi
  obtain ⟨p, tcap, rfl, htc, htm⟩ := TIn.shape (ht w (Kep.refl _ _))
  have HM := Lib.hid (made_any g b cap L w h)
  obtain ⟨n, hn⟩ : ∃ n, L.length = n := ⟨_, rfl⟩
  have HS := Lib.hid (fun W => size_any (some ⟨b, 0, none⟩) n cap W (by omega))
  have HP := Lib.hid (fun s (h : List.length s ≤ 1000000) W => places_any s n W (by omega) (by omega) (by omega))
  have HIX := Lib.hid (fun s i hi W => index_four (8 * n) s i hi W)
  have HLN := Lib.hid (fun k => (addA_len L ss k).trans hn)
  have HCN := Lib.hid (addA_count L ss)
  have HNX := Lib.hid (fun k (hk : k < ss.length) => addA_next (L := L) hk)
  have HSE := Lib.hid hs
  have HT := Lib.hid ht
  have HPL : Hid (∀ s i, placeL (8 * n) s i < 8 * n) := Lib.hid (fun s i => placeL_lt s i (by omega))
  have HF0 : Hid (FAt w g b cap (addA L (ss.take 0)).1) := Lib.hid h
  have HK0 : Hid (Kep (fun i => i ≠ b) w w) := Lib.hid (Kep.refl _ _)
  obtain ⟨R, hR⟩ : ∃ R, addA L ss = R := ⟨_, rfl⟩
  rw [hR]
  have HE : Hid (addA L (ss.take ss.length) = R) := Lib.hid (by rw [List.take_length]; exact hR)
  clear h hR ht hs hn hlo hhi
  go_enter Try.func12, Try.ntmps12
  go_wp2_with fail
  refine HM.out.mono ?_
  rintro e w1 ⟨rfl, rfl⟩
  clear HM
  go_wp2_with fail
  go_loopw [5, 15] (fun av kv wr => ∃ k : Nat, k ≤ ss.length ∧ av = .int .i64 ((addA L (ss.take k)).2 : Int) ∧ kv = .int .i64 k ∧ Hid (FAt wr g b cap (addA L (ss.take k)).1) ∧ Hid (Kep (fun i => i ≠ b) w wr)) (fun _ kv _ => ss.length - (intOf kv).toNat)
  case atStart => exact ⟨0, by omega, rfl, rfl, HF0, HK0⟩
  case round =>
    obtain ⟨k, hk, rfl, rfl, HF, HK⟩ := hrel
    clear HF0 HK0
    by_cases hlt : k < ss.length
    · have t1 : decide ((k : Int) < (ss.length : Int)) = true := by simp; omega
      obtain ⟨bt, off, rfl, hbl, hcell⟩ := TIn.at_ (HT.out wr HK.out) hlt
      have hnx := HNX.out k hlt
      have hcn := HCN.out k
      have hln := HLN.out k
      have hse := HSE.out _ (List.getElem_mem hlt)
      obtain ⟨s, hs⟩ : ∃ s, ss[k] = s := ⟨_, rfl⟩
      rw [hs] at hcell hnx hse
      obtain ⟨⟨M, c⟩, hM⟩ : ∃ M, addA L (ss.take k) = M := ⟨_, rfl⟩
      rw [hM] at hnx hcn hln HF ⊢
      dsimp only at hnx hcn hln HF ⊢
      have hc := HF.out.cell
      rw [hln] at hc
      have HP1 := Lib.hid (HP.out s hse)
      have HIX1 := Lib.hid (HIX.out s)
      have HPL1 := Lib.hid (HPL.out s)
      obtain ⟨P, hP⟩ : ∃ P, plA (8 * n) s = P := ⟨_, rfl⟩
      rw [hP] at HP1 HIX1
      have HIN := Lib.hid (addI_next M s)
      rw [hln] at HIN
      have HIL := Lib.hid (fun i => (addI_len M s i).trans hln)
      have HIC := Lib.hid (addI_count M s)
      have HA0 : Hid (addI M s 0 = (M, 0)) := Lib.hid rfl
      have HA4 : Hid (addA L (ss.take (k + 1)) = ((addI M s 4).1, c + (addI M s 4).2)) := Lib.hid hnx
      clear hs hnx hM hP hse hln
      go_wp2_with fail
      refine (HS.out _).mono ?_
      rintro e w1 ⟨rfl, rfl⟩
      go_wp2_with fail
      refine (HP1.out _).mono ?_
      rintro e w1 ⟨rfl, hb1⟩
      have HF1 : Hid (FAt w1 g b cap (addI M s 0).1) := Lib.hid (HF.out.below hb1)
      have HK1 := Lib.hid (HK.out.trans (kep_below _ hb1))
      clear hb1 HF HK hc hcell
      go_wp2_with fail
      go_loopw [5, 26] (fun av iv wr2 => ∃ i : Nat, i ≤ 4 ∧ av = .int .i64 ((c : Int) + ((addI M s i).2 : Int)) ∧ iv = .int .i64 i ∧ Hid (FAt wr2 g b cap (addI M s i).1) ∧ Hid (Kep (fun i => i ≠ b) w wr2)) (fun _ iv _ => 4 - (intOf iv).toNat)
      case atStart => exact ⟨0, by omega, by rw [HA0.out]; simp, rfl, HF1, HK1⟩
      case round =>
        obtain ⟨i, hi, rfl, rfl, HF, HK⟩ := hrel
        clear HF1 HK1
        by_cases hlt4 : i < 4
        · have t2 : decide ((i : Int) < 4) = true := by simp; omega
          have hix := HIX1.out i hlt4
          have hin := HIN.out i
          have hil := HIL.out i
          have hic := HIC.out i
          have hpl := HPL1.out i
          obtain ⟨X, hX⟩ : ∃ X, placeL (8 * n) s i = X := ⟨_, rfl⟩
          rw [hX] at hix hin hpl
          obtain ⟨⟨A, d⟩, hA⟩ : ∃ A, addI M s i = A := ⟨_, rfl⟩
          rw [hA] at hin hil hic HF ⊢
          dsimp only at hil hic HF ⊢
          have hc := HF.out.cell
          have hh := chas_any g b cap A X _ HF.out (by omega)
          rw [hil] at hc hh
          have hp := fun W (hF : FAt W g b cap A) => cput_any g b cap A X W hF (by omega)
          rw [hil] at hp
          have HPU := Lib.hid hp
          cases hb : hasL A X with
          | true =>
            rw [hb] at hh
            rw [put1_yes (st := (A, d)) hb] at hin
            have HIN2 := Lib.hid hin
            have HH := Lib.hid hh
            clear hb hh hp hX hA hin hil hpl
            go_wp2_with fail
            refine HH.out.mono ?_
            rintro e w2 ⟨rfl, rfl⟩
            go_wp2_with fail
            go_roundw
            case rel => exact ⟨i + 1, by omega, by rw [HIN2.out], by go_num, by rw [HIN2.out]; exact HF, HK⟩
            case measure => simp [intOf]; omega
          | false =>
            rw [hb] at hh
            rw [put1_no (st := (A, d)) hb] at hin
            have HIN2 := Lib.hid hin
            have HH := Lib.hid hh
            clear hb hh hp hX hA hin hil hpl
            go_wp2_with fail
            refine HH.out.mono ?_
            rintro e w2 ⟨rfl, rfl⟩
            go_wp2_with fail
            refine (HPU.out _ HF.out).mono ?_
            rintro e w2 ⟨rfl, hF2, hk2⟩
            have HF2 := Lib.hid hF2
            have HK2 := Lib.hid (HK.out.trans hk2)
            clear hF2 hk2
            go_wp2_with fail
            go_roundw
            case rel => exact ⟨i + 1, by omega, by rw [HIN2.out]; go_num, by go_num, by rw [HIN2.out]; exact HF2, HK2⟩
            case measure => simp [intOf]; omega
        · obtain rfl : i = 4 := by omega
          have t2 : decide ((4 : Int) < 4) = false := by simp
          go_wp2_with fail
          go_roundw
          case rel => exact ⟨k + 1, by omega, by rw [HA4.out]; go_num, by go_num, by rw [HA4.out]; exact HF, HK⟩
          case measure => simp [intOf]; omega
    · obtain rfl : k = ss.length := by omega
      have t1 : decide ((ss.length : Int) < (ss.length : Int)) = false := by simp
      rw [HE.out] at HF ⊢
      go_wp2_with fail
      go_ret
      exact ⟨rfl, HF.out, HK.out⟩
end Go.Proofs.Ytjogjmkfkmbjdaa.BL
