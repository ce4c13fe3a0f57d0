/-
  GetText, the code's: what the plain lists say. Condition: the bytes are fewer than 2^62. PutInt and the reference's Int: what the plain lists say. Condition: the rows stay below 2^46 bytes. GetInt, the code's and the reference's: what the plain lists say. Condition: the bytes are fewer than 2^62.
-/
import Derived.Test.YthgfaadlnffpcaaZA15
set_option linter.unusedVariables false
namespace Go.Proofs.Ythgfaadlnffpcaa.VG
open Go.RowKit Go.Proofs.Ythgfaadlnffpcaa.MM Go.Proofs.Ythgfaadlnffpcaa.VM Go.Proofs.Ythgfaadlnffpcaa.VP

set_option maxRecDepth 100000 in
set_option maxHeartbeats 1000000 in
theorem gettext_in (B : Nat) (v : Value) (l : List UInt8) (most : Int) (w : World) (h0 : -9223372036854775808 ≤ most) (h1 : most ≤ 9223372036854775807) (hr : BIn B w v l) (hB : B ≤ w.heap.size) :
    Calls Try.prog 93 #[v, .int .i64 most] w (GotIn B (.string ⟨(getT l most).1.toArray⟩) (getT l most).2.2 (restT l most) w) := by
  have k1 := get_in B v l w hr hB
  rcases getL_cases l with ⟨n, k, hg, hb, hk1, hk2⟩ | hg | hg
  · rw [hg, restL_ok hg] at k1
    have hcase := getT_ok hg most
    obtain ⟨R, hR⟩ : ∃ R, l.drop k = R := ⟨_, rfl⟩
    rw [hR] at k1 hcase
    have K1 := Lib.hid k1
    obtain ⟨M, hM⟩ : ∃ M, max most 0 = M := ⟨_, rfl⟩
    have hM2 : max 0 most = M := by omega
    have hmx : 0 ≤ M ∧ M ≤ 9223372036854775807 := by omega
    rw [hM2] at hcase
    clear k1 hr hg hR hM2 h0 h1
    by_cases hm : M < (n : Int)
    · obtain ⟨e1, e2, e3⟩ := hcase.1 hm
      rw [e1, e2, e3]
      clear hcase e1 e2 e3
      go_enter Try.func93, Try.ntmps93
      go_wp2_with fail
      refine K1.out.mono ?_
      rintro e w1 ⟨v1, rfl, hrow, hb1⟩
      clear hrow
      go_wp2_with fail
      go_ret3
      exact ⟨_, rfl, BIn.nil_ _ w1, hb1⟩
    · by_cases hs : R.length < n
      · obtain ⟨e1, e2, e3⟩ := hcase.2.1 hm hs
        rw [e1, e2, e3]
        clear hcase e1 e2 e3
        go_enter Try.func93, Try.ntmps93
        go_wp2_with fail
        refine K1.out.mono ?_
        rintro e w1 ⟨v1, rfl, hrow, hb1⟩
        obtain ⟨p, cap, rfl, hlc, hcm⟩ := hrow.shape
        unfold maxLen at hcm
        clear hrow
        go_wp2_with fail
        go_ret3
        exact ⟨_, rfl, BIn.nil_ _ w1, hb1⟩
      · obtain ⟨e1, e2, e3⟩ := hcase.2.2 hm hs
        rw [e1, e2, e3]
        obtain ⟨T, hT⟩ : ∃ T : ByteArray, (⟨(R.take n).toArray⟩ : ByteArray) = T := ⟨_, rfl⟩
        rw [hT]
        have HT := Lib.hid hT
        clear hcase e1 e2 e3 hT
        go_enter Try.func93, Try.ntmps93
        go_wp2_with fail
        refine K1.out.mono ?_
        rintro e w1 ⟨v1, rfl, hrow, hb1⟩
        obtain ⟨p, cap, rfl, hlc, hcm⟩ := hrow.shape
        unfold maxLen at hcm
        have hconv := fun nq => ((hrow.take n (by omega)).drewN nq).conv
        simp only [HT.out] at hconv
        have HR := Lib.hid (hrow.drop3 n (by omega))
        have hi1 : (n : Int) ≤ (R.length : Int) := by omega
        have hi2 : (R.length : Int) ≤ (cap : Int) := by omega
        clear hrow
        go_wp2_with fail
        go_quiet (fail)
        clear hconv
        go_wp2_with fail
        · go_ret3
          exact ⟨_, rfl, (HR.out.1 (by assumption)).drewN nq, MM.below_drewN hb1 nq⟩
        · go_ret3
          exact ⟨_, rfl, (HR.out.2 (by assumption)).drewN nq, MM.below_drewN hb1 nq⟩
  · rw [hg, restL_short hg] at k1
    obtain ⟨e1, e2, e3⟩ := getT_err hg (by decide) most
    rw [e1, e2, e3]
    have K1 := Lib.hid k1
    clear k1 hr hg e1 e2 e3
    go_enter Try.func93, Try.ntmps93
    go_wp2_with fail
    refine K1.out.mono ?_
    rintro e w1 ⟨v1, rfl, hrow, hb1⟩
    clear hrow
    go_wp2_with fail
    go_ret3
    exact ⟨_, rfl, BIn.nil_ _ w1, hb1⟩
  · rw [hg, restL_bad hg] at k1
    obtain ⟨e1, e2, e3⟩ := getT_err hg (by decide) most
    rw [e1, e2, e3]
    have K1 := Lib.hid k1
    clear k1 hr hg e1 e2 e3
    go_enter Try.func93, Try.ntmps93
    go_wp2_with fail
    refine K1.out.mono ?_
    rintro e w1 ⟨v1, rfl, hrow, hb1⟩
    clear hrow
    go_wp2_with fail
    go_ret3
    exact ⟨_, rfl, BIn.nil_ _ w1, hb1⟩

theorem gettext_any (v : Value) (l : List UInt8) (most : Int) (w : World) (h0 : -9223372036854775808 ≤ most) (h1 : most ≤ 9223372036854775807) (hr : BRow w v l) :
    Calls Try.prog 93 #[v, .int .i64 most] w (Got (.string ⟨(getT l most).1.toArray⟩) (getT l most).2.2 (restT l most) w) :=
  (gettext_in _ v l most w h0 h1 hr (Nat.le_refl _)).mono fun _ _ h => h.got
end Go.Proofs.Ythgfaadlnffpcaa.VG
set_option linter.unusedVariables false
namespace Go.Proofs.Ythgfaadlnffpcaa.VP
open Go.RowKit Go.Proofs.Ythgfaadlnffpcaa.MM Go.Proofs.Ythgfaadlnffpcaa.VM

/-! ### zigzags -/
theorem xor_ones (x : BitVec 64) : (x ^^^ BitVec.allOnes 64).toNat = 18446744073709551615 - x.toNat := by
  rw [BitVec.xor_allOnes, BitVec.toNat_not]
theorem ofInt_nat (x : Nat) (h : x < 18446744073709551616) : (BitVec.ofInt 64 (x : Int)).toNat = x := by
  rw [BitVec.ofInt_natCast, BitVec.toNat_ofNat]; exact Nat.mod_eq_of_lt (by omega)
theorem ofInt_ones : BitVec.ofInt 64 18446744073709551615 = BitVec.allOnes 64 := by decide
theorem ofInt_neg1 : BitVec.ofInt 64 (-1) = BitVec.allOnes 64 := by decide
theorem zig_val (n : Int) (h0 : -9223372036854775808 ≤ n) (h1 : n ≤ 9223372036854775807) :
    bits .xor .u64 (IntKind.u64.wrap (IntKind.u64.wrap n * 2)) (IntKind.u64.wrap (n / 9223372036854775808)) = (zig n : Int) := by
  unfold zig
  by_cases h : 0 ≤ n
  · obtain ⟨m, rfl⟩ := Int.eq_ofNat_of_zero_le h
    have e1 : IntKind.u64.wrap ((m : Int) / 9223372036854775808) = ((0 : Nat) : Int) := by rw [IntKind.wrap_u64]; omega
    have e2 : IntKind.u64.wrap (IntKind.u64.wrap (m : Int) * 2) = ((2 * m : Nat) : Int) := by rw [IntKind.wrap_u64, IntKind.wrap_u64]; omega
    rw [e1, e2, u64_xor_nat _ _ (by omega) (by omega), Nat.xor_zero, if_pos h]
    omega
  · have e1 : IntKind.u64.wrap (n / 9223372036854775808) = 18446744073709551615 := by rw [IntKind.wrap_u64]; omega
    obtain ⟨x, hx, hxl⟩ : ∃ x : Nat, IntKind.u64.wrap (IntKind.u64.wrap n * 2) = (x : Int) ∧ (x : Int) = 2 * n + 18446744073709551616 := ⟨(2 * n + 18446744073709551616).toNat, by rw [IntKind.wrap_u64, IntKind.wrap_u64]; omega, by omega⟩
    rw [e1, hx, if_neg h]
    show IntKind.u64.wrap ((BitVec.ofInt 64 (x : Int) ^^^ BitVec.ofInt 64 18446744073709551615).toNat : Int) = _
    rw [ofInt_ones, xor_ones, ofInt_nat x (by omega), IntKind.wrap_u64]
    omega
theorem unzig_val (n : Nat) (h1 : n < 18446744073709551616) : bits .xor .i64 ((n : Int) / 2) (wrap64 (-wrap64 (bits .and .u64 (n : Int) 1))) = zag n := by
  have e0 : bits .and .u64 (n : Int) 1 = ((n % 2 : Nat) : Int) := by
    have := u64_and_nat n 1 h1 (by omega)
    rw [Nat.and_one_is_mod] at this
    exact this
  have e1 : (n : Int) / 2 = ((n / 2 : Nat) : Int) := by omega
  rw [e0, e1]
  unfold zag
  by_cases h : n % 2 = 0
  · rw [if_pos h, h]
    have e2 : wrap64 (-wrap64 ((0 : Nat) : Int)) = 0 := by unfold wrap64; omega
    rw [e2]
    show IntKind.i64.wrap ((BitVec.ofInt 64 ((n / 2 : Nat) : Int) ^^^ BitVec.ofInt 64 0).toNat : Int) = _
    rw [show BitVec.ofInt 64 0 = 0#64 from by decide, BitVec.xor_zero, ofInt_nat _ (by omega), IntKind.wrap_i64]
    omega
  · have h2 : n % 2 = 1 := by omega
    rw [if_neg h, h2]
    have e2 : wrap64 (-wrap64 ((1 : Nat) : Int)) = -1 := by unfold wrap64; omega
    rw [e2]
    show IntKind.i64.wrap ((BitVec.ofInt 64 ((n / 2 : Nat) : Int) ^^^ BitVec.ofInt 64 (-1)).toNat : Int) = _
    rw [ofInt_neg1, xor_ones, ofInt_nat _ (by omega), IntKind.wrap_i64]
    omega
theorem ret_i {k : IntKind} {a b : Int} (h : a = b) : Ending.returned (.int k a) = .returned (.int k b) := by rw [h]
theorem zig_pos {n : Int} (h : 0 ≤ n) : 2 * n = (zig n : Int) := by unfold zig; rw [if_pos h]; omega
theorem zig_neg {n : Int} (h : ¬ 0 ≤ n) : 2 * (-1 - n) + 1 = (zig n : Int) := by unfold zig; rw [if_neg h]; omega
theorem zag_even {n : Nat} (h : n % 2 = 0) : (n : Int) / 2 = zag n := by unfold zag; rw [if_pos h]; omega
theorem zag_odd {n : Nat} (h : ¬ n % 2 = 0) : -1 - (n : Int) / 2 = zag n := by unfold zag; rw [if_neg h]; omega

set_option maxRecDepth 100000 in
theorem zig_any (n : Int) (w : World) (h0 : -9223372036854775808 ≤ n) (h1 : n ≤ 9223372036854775807) : Calls Try.prog 84 #[.int .i64 n] w fun e w' => e = .returned (.int .u64 (zig n)) ∧ w = w' := by
  have HV := Lib.hid (zig_val n h0 h1)
  go_enter Try.func84, Try.ntmps84
  go_wp2_with fail
  go_ret
  exact ⟨ret_i HV.out, rfl⟩
set_option maxRecDepth 100000 in
theorem unzig_any (n : Nat) (w : World) (h1 : n < 18446744073709551616) : Calls Try.prog 94 #[.int .u64 n] w fun e w' => e = .returned (.int .i64 (zag n)) ∧ w = w' := by
  have HV := Lib.hid (unzig_val n h1)
  go_enter Try.func94, Try.ntmps94
  go_wp2_with fail
  go_ret
  exact ⟨ret_i HV.out, rfl⟩
set_option maxRecDepth 100000 in
theorem rzig_any (n : Int) (w : World) (h0 : -9223372036854775808 ≤ n) (h1 : n ≤ 9223372036854775807) : Calls Try.prog 71 #[.int .i64 n] w fun e w' => e = .returned (.int .u64 (zig n)) ∧ w = w' := by
  by_cases h : 0 ≤ n
  · have HV := Lib.hid (zig_pos h)
    go_enter Try.func71, Try.ntmps71
    go_wp2_with fail
    go_ret
    exact ⟨ret_i HV.out, rfl⟩
  · have HV := Lib.hid (zig_neg h)
    go_enter Try.func71, Try.ntmps71
    go_wp2_with fail
    go_ret
    exact ⟨ret_i HV.out, rfl⟩
set_option maxRecDepth 100000 in
theorem rback_any (n : Nat) (w : World) (h1 : n < 18446744073709551616) : Calls Try.prog 75 #[.int .u64 n] w fun e w' => e = .returned (.int .i64 (zag n)) ∧ w = w' := by
  by_cases h : n % 2 = 0
  · have t : ((n : Int) % 2 == 0) = true := by simp; omega
    have HV := Lib.hid (zag_even h)
    clear h
    go_enter Try.func75, Try.ntmps75
    go_wp2_with fail
    go_ret
    exact ⟨ret_i HV.out, rfl⟩
  · have t : ((n : Int) % 2 == 0) = false := by simp; omega
    have HV := Lib.hid (zag_odd h)
    clear h
    go_enter Try.func75, Try.ntmps75
    go_wp2_with fail
    go_ret
    exact ⟨ret_i HV.out, rfl⟩

/-! ### PutInt, Int -/
set_option maxRecDepth 100000 in
set_option maxHeartbeats 1000000 in
theorem putint_any (v : Value) (l : List UInt8) (n : Int) (w : World) (h0 : -9223372036854775808 ≤ n) (h1 : n ≤ 9223372036854775807) (hr : BRow w v l) (hlen : l.length ≤ 35184372088832) :
    Calls Try.prog 79 #[v, .int .i64 n] w (PutLeft w.heap.size (l ++ intL n) w) := by
  have k1 := fun W => zig_any n W h0 h1
  have k2 := fun W (h : BRow W v l) => put_any v l (zig n) W (zig_lt h0 h1) h hlen
  unfold intL
  generalize zig n = z at *
  have K1 := Lib.hid k1
  have K2 := Lib.hid k2
  have HR := Lib.hid hr
  clear k1 k2 hr
  go_enter Try.func79, Try.ntmps79
  go_wp2_with fail
  refine (K1.out _).mono ?_
  rintro e w1 ⟨rfl, rfl⟩
  go_wp2_with fail
  refine (K2.out _ HR.out).mono ?_
  rintro e w1 ⟨v1, rfl, hown1, hb1⟩
  have HO := Lib.hid hown1
  clear hown1
  go_wp2_with fail
  go_ret
  exact ⟨_, rfl, HO.out, hb1⟩
set_option maxRecDepth 100000 in
set_option maxHeartbeats 1000000 in
theorem rint_any (n : Int) (w : World) (h0 : -9223372036854775808 ≤ n) (h1 : n ≤ 9223372036854775807) :
    Calls Try.prog 56 #[.int .i64 n] w (PutLeft w.heap.size (intL n) w) := by
  have k1 := fun W => rzig_any n W h0 h1
  have k2 := fun W => rbytes_any (zig n) W (zig_lt h0 h1)
  unfold intL
  generalize zig n = z at *
  have K1 := Lib.hid k1
  have K2 := Lib.hid k2
  clear k1 k2
  go_enter Try.func56, Try.ntmps56
  go_wp2_with fail
  refine (K1.out _).mono ?_
  rintro e w1 ⟨rfl, rfl⟩
  go_wp2_with fail
  refine (K2.out _).mono ?_
  rintro e w1 ⟨v1, rfl, hown1, hb1⟩
  have HO := Lib.hid hown1
  clear hown1
  go_wp2_with fail
  go_ret
  exact ⟨_, rfl, HO.out, hb1⟩
end Go.Proofs.Ythgfaadlnffpcaa.VP
set_option linter.unusedVariables false
namespace Go.Proofs.Ythgfaadlnffpcaa.VG
open Go.RowKit Go.Proofs.Ythgfaadlnffpcaa.MM Go.Proofs.Ythgfaadlnffpcaa.VM Go.Proofs.Ythgfaadlnffpcaa.VP

set_option maxRecDepth 100000 in
set_option maxHeartbeats 1000000 in
theorem getint_in (B : Nat) (v : Value) (l : List UInt8) (w : World) (hr : BIn B w v l) (hB : B ≤ w.heap.size) :
    Calls Try.prog 91 #[v] w (GotIn B (.int .i64 (getI l).1) (getI l).2.2 (restL l) w) := by
  have hb := (getL_bounds l).1
  have k1 := get_in B v l w hr hB
  have k2 := fun W => unzig_any (getL l).1 W hb
  unfold getI
  generalize (getL l).1 = n at *
  generalize (getL l).2.1 = k at *
  generalize (getL l).2.2 = e0 at *
  generalize restL l = R at *
  have K1 := Lib.hid k1
  have K2 := Lib.hid k2
  clear k1 k2 hr hb
  go_enter Try.func91, Try.ntmps91
  go_wp2_with fail
  refine K1.out.mono ?_
  rintro e w1 ⟨v1, rfl, hrow, hb1⟩
  have HR := Lib.hid hrow
  clear hrow
  go_wp2_with fail
  refine (K2.out _).mono ?_
  rintro e w2 ⟨rfl, rfl⟩
  go_wp2_with fail
  go_ret3
  exact ⟨_, rfl, HR.out, hb1⟩

set_option maxRecDepth 100000 in
set_option maxHeartbeats 1000000 in
theorem rgetint_in (B : Nat) (v : Value) (l : List UInt8) (w : World) (hr : BIn B w v l) (hB : B ≤ w.heap.size) :
    Calls Try.prog 62 #[v] w (GotIn B (.int .i64 (getI l).1) (getI l).2.2 (restL l) w) := by
  have k1 := rget_in B v l w hr hB
  unfold getI
  rcases getL_cases l with ⟨n, k, hg, hb, hk1, hk2⟩ | hg | hg
  · rw [hg] at k1 ⊢
    rw [restL_ok hg] at k1 ⊢
    have k2 := fun W => rback_any n W hb
    have K1 := Lib.hid k1
    have K2 := Lib.hid k2
    clear k1 k2 hr hg
    go_enter Try.func62, Try.ntmps62
    go_wp2_with fail
    refine K1.out.mono ?_
    rintro e w1 ⟨v1, rfl, hrow, hb1⟩
    have HR := Lib.hid hrow
    clear hrow
    go_wp2_with fail
    refine (K2.out _).mono ?_
    rintro e w2 ⟨rfl, rfl⟩
    go_wp2_with fail
    go_ret3
    exact ⟨_, rfl, HR.out, hb1⟩
  · rw [hg] at k1 ⊢
    rw [restL_short hg] at k1 ⊢
    have K1 := Lib.hid k1
    clear k1 hr hg
    go_enter Try.func62, Try.ntmps62
    go_wp2_with fail
    refine K1.out.mono ?_
    rintro e w1 ⟨v1, rfl, hrow, hb1⟩
    clear hrow
    go_wp2_with fail
    go_ret3
    exact ⟨_, rfl, BIn.nil_ _ w1, hb1⟩
  · rw [hg] at k1 ⊢
    rw [restL_bad hg] at k1 ⊢
    have K1 := Lib.hid k1
    clear k1 hr hg
    go_enter Try.func62, Try.ntmps62
    go_wp2_with fail
    refine K1.out.mono ?_
    rintro e w1 ⟨v1, rfl, hrow, hb1⟩
    clear hrow
    go_wp2_with fail
    go_ret3
    exact ⟨_, rfl, BIn.nil_ _ w1, hb1⟩

theorem getint_any (v : Value) (l : List UInt8) (w : World) (hr : BRow w v l) : Calls Try.prog 91 #[v] w (Got (.int .i64 (getI l).1) (getI l).2.2 (restL l) w) :=
  (getint_in _ v l w hr (Nat.le_refl _)).mono fun _ _ h => h.got
theorem rgetint_any (v : Value) (l : List UInt8) (w : World) (hr : BRow w v l) : Calls Try.prog 62 #[v] w (Got (.int .i64 (getI l).1) (getI l).2.2 (restL l) w) :=
  (rgetint_in _ v l w hr (Nat.le_refl _)).mono fun _ _ h => h.got
end Go.Proofs.Ythgfaadlnffpcaa.VG
