/-
  Size and Put of a number: what the plain lists say. Condition: the rows stay below 2^46 bytes. The reference's Text, GetText: what the plain lists say. Conditions: the bytes are fewer than 2^62, a text's than 2^44. PutText: what the plain lists say. Condition: the rows stay below 2^44 bytes.
-/
import Derived.Test.YthgfaadlnffpcaaZA13
import Derived.Test.YthgfaadlnffpcaaZA14
import Derived.Lib.BitFns
import Derived.Lib.ItoaNum
set_option linter.unusedVariables false
namespace Go.Proofs.Ythgfaadlnffpcaa.VP
open Go.RowKit Go.Proofs.Ythgfaadlnffpcaa.MM Go.Proofs.Ythgfaadlnffpcaa.VM

/-! ### Size -/
theorem bitLen_small (n : Nat) (h : n < 128) : Lib.bitLen n ≤ 7 := by
  by_cases h0 : n = 0
  · subst h0; decide
  · have := Lib.bitLenAux_bounds 64 n (by omega) h0
    have h2 : 2 ^ (Lib.bitLen n - 1) < 2 ^ 7 := by
      have := this.2.1
      unfold Lib.bitLen
      omega
    have := (Nat.pow_lt_pow_iff_right (a := 2) (by omega)).1 h2
    omega
theorem bitLen_pos (n : Nat) (h0 : n ≠ 0) (h : n < 18446744073709551616) : 1 ≤ Lib.bitLen n := (Lib.bitLenAux_bounds 64 n h h0).1
theorem size_eq (n : Nat) : n < 18446744073709551616 → max 1 ((Lib.bitLen n + 6) / 7) = (bytesL n).length := by
  refine rec128 (P := fun n => n < 18446744073709551616 → max 1 ((Lib.bitLen n + 6) / 7) = (bytesL n).length) ?_ ?_ n
  · intro n h hn
    have := bitLen_small n h
    rw [bytesL_small h, List.length_singleton]
    omega
  · intro n h ih hn
    have h1 := Lib.bitLen_shift 7 n (by omega) hn
    have h2 := bitLen_pos (n / 128) (by omega) (by omega)
    have h3 := ih (by omega)
    rw [bytesL_big h hn, List.length_cons, ← h3, h1, show (2 : Nat) ^ 7 = 128 from rfl]
    omega

set_option maxRecDepth 100000 in
set_option maxHeartbeats 1000000 in
theorem size_any (n : Nat) (w : World) (hn : n < 18446744073709551616) : Calls Try.prog 52 #[.int .u64 n] w fun e w' => e = .returned (.int .i64 ((bytesL n).length : Int)) ∧ w = w' := by
  have hl := Try.bits_Len64 n w (by omega) (by omega)
  rw [Int.toNat_natCast] at hl
  have hs := size_eq n hn
  have hb : Lib.bitLen n ≤ 70 := by have := (bytesL_length n).2; omega
  obtain ⟨B, hB⟩ : ∃ B, Lib.bitLen n = B := ⟨_, rfl⟩
  rw [hB] at hl hb hs
  have HL := Lib.hid hl
  have HS := Lib.hid hs
  clear hl hs hB
  go_enter Try.func52, Try.ntmps52
  go_wp2_with fail
  refine HL.out.mono ?_
  rintro e w' ⟨rfl, rfl⟩
  go_wp2_with fail
  go_ret
  have e : max 1 (((B : Int) + 6) / 7) = ((max 1 ((B + 6) / 7) : Nat) : Int) := by omega
  rw [← HS.out, ← e]
  exact ⟨rfl, rfl⟩

set_option maxRecDepth 100000 in
set_option maxHeartbeats 1000000 in
theorem put_any (v : Value) (l : List UInt8) (n : Nat) (w : World) (hn : n < 18446744073709551616) (hr : BRow w v l) (hlen : l.length ≤ 35184372088832) :
    Calls Try.prog 34 #[v, .int .u64 n] w (PutLeft w.heap.size (l ++ bytesL n) w) := by
  have hbl := bytesL_length n
  have k1 := fun W => size_any n W hn
  have k2 := fun W (h : BRow W v l) => room_any v l ((bytesL n).length : Int) _ W rfl h (by omega)
  obtain ⟨L, hL⟩ : ∃ L, (bytesL n).length = L := ⟨_, rfl⟩
  simp only [hL] at k1 k2
  have k3 := fun B u W (h : OwnB B W u l) hB => app_any B u l n W hn h (by omega) hB
  have K1 := Lib.hid k1
  have K2 := Lib.hid k2
  have K3 := Lib.hid k3
  have HR := Lib.hid hr
  clear k1 k2 k3 hr hL hbl
  go_enter Try.func34, Try.ntmps34
  go_wp2_with fail
  refine (K1.out _).mono ?_
  rintro e w1 ⟨rfl, rfl⟩
  go_wp2_with fail
  refine (K2.out _ HR.out).mono ?_
  rintro e w1 ⟨v1, rfl, hown1, hb1⟩
  have hsz := hb1.size
  have HO := Lib.hid hown1
  clear hown1
  go_wp2_with fail
  refine (K3.out _ _ _ HO.out hsz).mono ?_
  rintro e w2 ⟨v2, rfl, hown2, hb2⟩
  have HO2 := Lib.hid hown2
  clear hown2
  go_wp2_with fail
  go_ret
  exact ⟨_, rfl, HO2.out, hb1.trans hb2⟩
end Go.Proofs.Ythgfaadlnffpcaa.VP
set_option linter.unusedVariables false
namespace Go.Proofs.Ythgfaadlnffpcaa.VP
open Go.RowKit Go.Proofs.Ythgfaadlnffpcaa.MM Go.Proofs.Ythgfaadlnffpcaa.VM

set_option maxRecDepth 100000 in
set_option maxHeartbeats 1000000 in
theorem rtext_any (s : ByteArray) (w : World) (hlen : s.size ≤ 17592186044416) :
    Calls Try.prog 57 #[.string s] w (PutLeft w.heap.size (textL s.data.toList) w) := by
  have hz : s.data.toList.length = s.size := (Lib.size_eq s).symm
  have hbl := bytesL_length s.size
  have k1 := fun W => rbytes_any s.size W (by omega)
  have hm : s.size ≤ 9223372036854775807 := by omega
  have hlz : (bytesL s.size).length + s.size ≤ 140737488355328 := by omega
  unfold textL
  rw [hz]
  obtain ⟨T, hT⟩ : ∃ T, bytesL s.size = T := ⟨_, rfl⟩
  simp only [hT] at k1 hlz
  rw [hT]
  have K1 := Lib.hid k1
  clear k1 hz hT hbl
  go_enter Try.func57, Try.ntmps57
  go_wp2_with fail
  refine (K1.out _).mono ?_
  rintro e w1 ⟨v1, rfl, hown1, hb1⟩
  have hsz := hb1.size
  have HO := Lib.hid hown1
  clear hown1
  go_wp2_with (at_builtin; refine wpList_append_text rfl _ _ rfl w.heap.size _ _ rfl HO.out _ rfl hlz hsz ?_)
  intro v3 w3 hown3 hb3
  have HO3 := Lib.hid hown3
  clear hown3
  go_wp2_with fail
  go_ret
  exact ⟨_, rfl, HO3.out, hb1.trans hb3⟩
end Go.Proofs.Ythgfaadlnffpcaa.VP
namespace Go.Proofs.Ythgfaadlnffpcaa.VG
open Go.RowKit Go.Proofs.Ythgfaadlnffpcaa.MM Go.Proofs.Ythgfaadlnffpcaa.VM Go.Proofs.Ythgfaadlnffpcaa.VP

theorem getL_cases (l : List UInt8) : (∃ n k, getL l = (n, k, 0) ∧ n < 18446744073709551616 ∧ 1 ≤ k ∧ k ≤ l.length) ∨ getL l = (0, 0, 6) ∨ getL l = (0, 0, 20) := by
  have h := getL_bounds l
  rcases h.2.2.1 with h0 | h0
  · exact .inl ⟨(getL l).1, (getL l).2.1, by rw [← h0], h.1, h.2.2.2 h0, h.2.1⟩
  · exact .inr h0
theorem restL_ok {l : List UInt8} {n k : Nat} (h : getL l = (n, k, 0)) : restL l = l.drop k := by unfold restL; rw [h]; rfl
theorem restL_short {l : List UInt8} (h : getL l = (0, 0, 6)) : restL l = [] := by unfold restL; rw [h]; rfl
theorem restL_bad {l : List UInt8} (h : getL l = (0, 0, 20)) : restL l = [] := by unfold restL; rw [h]; rfl

/-! ### texts -/
def restT (l : List UInt8) (most : Int) : List UInt8 := if (getT l most).2.2 = 0 then l.drop (getT l most).2.1 else []
theorem getT_ok {l : List UInt8} {n k : Nat} (h : getL l = (n, k, 0)) (most : Int) :
    (max 0 most < (n : Int) → (getT l most).1 = [] ∧ (getT l most).2.2 = 2 ∧ restT l most = []) ∧
    (¬ max 0 most < (n : Int) → (l.drop k).length < n → (getT l most).1 = [] ∧ (getT l most).2.2 = 6 ∧ restT l most = []) ∧
    (¬ max 0 most < (n : Int) → ¬ (l.drop k).length < n → (getT l most).1 = (l.drop k).take n ∧ (getT l most).2.2 = 0 ∧ restT l most = (l.drop k).drop n) := by
  rw [List.length_drop]
  refine ⟨fun h1 => ?_, fun h1 h2 => ?_, fun h1 h2 => ?_⟩
  · have e : getT l most = ([], 0, 2) := by unfold getT; rw [h]; simp [h1]
    unfold restT
    rw [e]
    exact ⟨rfl, rfl, rfl⟩
  · have e : getT l most = ([], 0, 6) := by
      unfold getT
      rw [h]
      show (if (0 : Int) ≠ 0 then _ else if max 0 most < (n : Int) then _ else if l.length - k < n then _ else _) = _
      rw [if_neg (by simp), if_neg h1, if_pos h2]
    unfold restT
    rw [e]
    exact ⟨rfl, rfl, rfl⟩
  · have e : getT l most = ((l.drop k).take n, k + n, 0) := by
      unfold getT
      rw [h]
      show (if (0 : Int) ≠ 0 then _ else if max 0 most < (n : Int) then _ else if l.length - k < n then _ else _) = _
      rw [if_neg (by simp), if_neg h1, if_neg h2]
    unfold restT
    rw [e, List.drop_drop]
    exact ⟨rfl, rfl, rfl⟩
theorem getT_err {l : List UInt8} {er : Int} (h : getL l = (0, 0, er)) (h0 : er ≠ 0) (most : Int) : (getT l most).1 = [] ∧ (getT l most).2.2 = er ∧ restT l most = [] := by
  have e : getT l most = ([], 0, er) := by
    unfold getT
    rw [h]
    show (if er ≠ 0 then _ else _) = _
    rw [if_pos h0]
  unfold restT
  rw [e]
  exact ⟨rfl, rfl, if_neg h0⟩

set_option maxRecDepth 100000 in
set_option maxHeartbeats 1000000 in
theorem rgettext_in (B : Nat) (v : Value) (l : List UInt8) (most : Int) (w : World) (h0 : -9223372036854775808 ≤ most) (h1 : most ≤ 9223372036854775807) (hr : BIn B w v l) (hB : B ≤ w.heap.size) :
    Calls Try.prog 63 #[v, .int .i64 most] w (GotIn B (.string ⟨(getT l most).1.toArray⟩) (getT l most).2.2 (restT l most) w) := by
  have k1 := rget_in B v l w hr hB
  rcases getL_cases l with ⟨n, k, hg, hb, hk1, hk2⟩ | hg | hg
  · rw [hg, restL_ok hg] at k1
    have hcase := getT_ok hg most
    obtain ⟨R, hR⟩ : ∃ R, l.drop k = R := ⟨_, rfl⟩
    rw [hR] at k1 hcase
    have K1 := Lib.hid k1
    obtain ⟨M, hM⟩ : ∃ M, max 0 most = M := ⟨_, rfl⟩
    have hM2 : max 0 most = M := by omega
    have hmx : 0 ≤ M ∧ M ≤ 9223372036854775807 := by omega
    rw [hM2] at hcase
    clear k1 hr hg hR hM2 h0 h1
    by_cases hm : M < (n : Int)
    · obtain ⟨e1, e2, e3⟩ := hcase.1 hm
      rw [e1, e2, e3]
      clear hcase e1 e2 e3
      go_enter Try.func63, Try.ntmps63
      go_wp2_with fail
      refine K1.out.mono ?_
      rintro e w1 ⟨v1, rfl, hrow, hb1⟩
      clear hrow
      go_wp2_with fail
      go_ret3
      exact ⟨_, rfl, BIn.nil_ _ w1, hb1⟩
    · by_cases hs : R.length < n
      · obtain ⟨e1, e2, e3⟩ := hcase.2.1 hm hs
        rw [e1, e2, e3]
        clear hcase e1 e2 e3
        go_enter Try.func63, Try.ntmps63
        go_wp2_with fail
        refine K1.out.mono ?_
        rintro e w1 ⟨v1, rfl, hrow, hb1⟩
        obtain ⟨p, cap, rfl, hlc, hcm⟩ := hrow.shape
        unfold maxLen at hcm
        clear hrow
        go_wp2_with fail
        go_ret3
        exact ⟨_, rfl, BIn.nil_ _ w1, hb1⟩
      · obtain ⟨e1, e2, e3⟩ := hcase.2.2 hm hs
        rw [e1, e2, e3]
        obtain ⟨T, hT⟩ : ∃ T : ByteArray, (⟨(R.take n).toArray⟩ : ByteArray) = T := ⟨_, rfl⟩
        rw [hT]
        have HT := Lib.hid hT
        clear hcase e1 e2 e3 hT
        go_enter Try.func63, Try.ntmps63
        go_wp2_with fail
        refine K1.out.mono ?_
        rintro e w1 ⟨v1, rfl, hrow, hb1⟩
        obtain ⟨p, cap, rfl, hlc, hcm⟩ := hrow.shape
        unfold maxLen at hcm
        have hconv := fun nq => ((hrow.take n (by omega)).drewN nq).conv
        simp only [HT.out] at hconv
        have HR := Lib.hid (hrow.drop3 n (by omega))
        have hi1 : (n : Int) ≤ (R.length : Int) := by omega
        have hi2 : (R.length : Int) ≤ (cap : Int) := by omega
        clear hrow
        go_wp2_with fail
        go_quiet (fail)
        clear hconv
        go_wp2_with fail
        · go_ret3
          exact ⟨_, rfl, (HR.out.1 (by assumption)).drewN nq, MM.below_drewN hb1 nq⟩
        · go_ret3
          exact ⟨_, rfl, (HR.out.2 (by assumption)).drewN nq, MM.below_drewN hb1 nq⟩
  · rw [hg, restL_short hg] at k1
    obtain ⟨e1, e2, e3⟩ := getT_err hg (by decide) most
    rw [e1, e2, e3]
    have K1 := Lib.hid k1
    clear k1 hr hg e1 e2 e3
    go_enter Try.func63, Try.ntmps63
    go_wp2_with fail
    refine K1.out.mono ?_
    rintro e w1 ⟨v1, rfl, hrow, hb1⟩
    clear hrow
    go_wp2_with fail
    go_ret3
    exact ⟨_, rfl, BIn.nil_ _ w1, hb1⟩
  · rw [hg, restL_bad hg] at k1
    obtain ⟨e1, e2, e3⟩ := getT_err hg (by decide) most
    rw [e1, e2, e3]
    have K1 := Lib.hid k1
    clear k1 hr hg e1 e2 e3
    go_enter Try.func63, Try.ntmps63
    go_wp2_with fail
    refine K1.out.mono ?_
    rintro e w1 ⟨v1, rfl, hrow, hb1⟩
    clear hrow
    go_wp2_with fail
    go_ret3
    exact ⟨_, rfl, BIn.nil_ _ w1, hb1⟩
theorem rgettext_any (v : Value) (l : List UInt8) (most : Int) (w : World) (h0 : -9223372036854775808 ≤ most) (h1 : most ≤ 9223372036854775807) (hr : BRow w v l) :
    Calls Try.prog 63 #[v, .int .i64 most] w (Got (.string ⟨(getT l most).1.toArray⟩) (getT l most).2.2 (restT l most) w) :=
  (rgettext_in _ v l most w h0 h1 hr (Nat.le_refl _)).mono fun _ _ h => h.got
end Go.Proofs.Ythgfaadlnffpcaa.VG
set_option linter.unusedVariables false
namespace Go.Proofs.Ythgfaadlnffpcaa.VP
open Go.RowKit Go.Proofs.Ythgfaadlnffpcaa.MM Go.Proofs.Ythgfaadlnffpcaa.VM

set_option maxRecDepth 100000 in
set_option maxHeartbeats 1000000 in
theorem puttext_any (v : Value) (l : List UInt8) (s : ByteArray) (w : World) (hr : BRow w v l) (hlen : l.length + s.size ≤ 17592186044416) :
    Calls Try.prog 80 #[v, .string s] w (PutLeft w.heap.size (l ++ textL s.data.toList) w) := by
  have hz : s.data.toList.length = s.size := (Lib.size_eq s).symm
  have hbl := bytesL_length s.size
  have k1 := fun W => size_any s.size W (by omega)
  have k2 := fun W (h : BRow W v l) => room_any v l ((bytesL s.size).length + s.size : Int) ((bytesL s.size).length + s.size) W (by omega) h (by omega)
  have k3 := fun B u W (h : OwnB B W u l) hB => app_any B u l s.size W (by omega) h (by omega) hB
  have hm : s.size ≤ 9223372036854775807 := by omega
  have hlz : (l ++ bytesL s.size).length + s.size ≤ 140737488355328 := by rw [List.length_append]; omega
  unfold textL
  rw [hz, ← List.append_assoc]
  obtain ⟨L, hL⟩ : ∃ L, (bytesL s.size).length = L := ⟨_, rfl⟩
  simp only [hL] at k1 k2
  have hL10 : L ≤ 10 := by omega
  obtain ⟨T, hT⟩ : ∃ T, l ++ bytesL s.size = T := ⟨_, rfl⟩
  simp only [hT] at k3 hlz
  rw [hT]
  have K1 := Lib.hid k1
  have K2 := Lib.hid k2
  have K3 := Lib.hid k3
  have HR := Lib.hid hr
  clear k1 k2 k3 hr hL hbl hz hT
  go_enter Try.func80, Try.ntmps80
  go_wp2_with fail
  refine (K1.out _).mono ?_
  rintro e w1 ⟨rfl, rfl⟩
  go_wp2_with fail
  refine (K2.out _ HR.out).mono ?_
  rintro e w1 ⟨v1, rfl, hown1, hb1⟩
  have hsz := hb1.size
  have HO := Lib.hid hown1
  clear hown1
  go_wp2_with fail
  refine (K3.out _ _ _ HO.out hsz).mono ?_
  rintro e w2 ⟨v2, rfl, hown2, hb2⟩
  have hb := hb1.trans hb2
  have hsz2 := hb.size
  have HO2 := Lib.hid hown2
  clear hown2
  go_wp2_with (at_builtin; refine wpList_append_text rfl _ _ rfl w.heap.size _ _ rfl HO2.out _ rfl hlz hsz2 ?_)
  intro v3 w3 hown3 hb3
  have HO3 := Lib.hid hown3
  clear hown3
  go_wp2_with fail
  go_ret
  exact ⟨_, rfl, HO3.out, hb.trans hb3⟩
end Go.Proofs.Ythgfaadlnffpcaa.VP
