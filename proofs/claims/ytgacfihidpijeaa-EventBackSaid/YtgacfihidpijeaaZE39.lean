/-
  Size and Put of a number: what the plain lists say. Condition: the rows stay below 2^46 bytes. PutInt, PutText and the reference's Int, Text: what the plain lists say. Condition: the rows stay below 2^46 bytes.
-/
import Derived.Test.YtgacfihidpijeaaZE38
import Derived.Test.YtgacfihidpijeaaZE13
import Derived.Lib.BitFns
import Derived.Lib.ItoaNum
set_option linter.unusedVariables false
namespace Go.Proofs.Ytgacfihidpijeaa.VP
open Go.RowKit Go.Proofs.Ytgacfihidpijeaa.MM Go.Proofs.Ytgacfihidpijeaa.VM

/-! ### Size -/
theorem bitLen_small (n : Nat) (h : n < 128) : Lib.bitLen n ≤ 7 := by
  by_cases h0 : n = 0
  · subst h0; decide
  · have := Lib.bitLenAux_bounds 64 n (by omega) h0
    have h2 : 2 ^ (Lib.bitLen n - 1) < 2 ^ 7 := by
      have := this.2.1
      unfold Lib.bitLen
      omega
    have := (Nat.pow_lt_pow_iff_right (a := 2) (by omega)).1 h2
    omega
theorem bitLen_pos (n : Nat) (h0 : n ≠ 0) (h : n < 18446744073709551616) : 1 ≤ Lib.bitLen n := (Lib.bitLenAux_bounds 64 n h h0).1
theorem size_eq (n : Nat) : n < 18446744073709551616 → max 1 ((Lib.bitLen n + 6) / 7) = (bytesL n).length := by
  refine rec128 (P := fun n => n < 18446744073709551616 → max 1 ((Lib.bitLen n + 6) / 7) = (bytesL n).length) ?_ ?_ n
  · intro n h hn
    have := bitLen_small n h
    rw [bytesL_small h, List.length_singleton]
    omega
  · intro n h ih hn
    have h1 := Lib.bitLen_shift 7 n (by omega) hn
    have h2 := bitLen_pos (n / 128) (by omega) (by omega)
    have h3 := ih (by omega)
    rw [bytesL_big h hn, List.length_cons, ← h3, h1, show (2 : Nat) ^ 7 = 128 from rfl]
    omega

set_option maxRecDepth 100000 in
set_option maxHeartbeats 1000000 in
theorem size_any (n : Nat) (w : World) (hn : n < 18446744073709551616) : Calls Try.prog 74 #[.int .u64 n] w fun e w' => e = .returned (.int .i64 ((bytesL n).length : Int)) ∧ w = w' := by
  have hl := Try.bits_Len64 n w (by omega) (by omega)
  rw [Int.toNat_natCast] at hl
  have hs := size_eq n hn
  have hb : Lib.bitLen n ≤ 70 := by have := (bytesL_length n).2; omega
  obtain ⟨B, hB⟩ : ∃ B, Lib.bitLen n = B := ⟨_, rfl⟩
  rw [hB] at hl hb hs
  have HL := Lib.hid hl
  have HS := Lib.hid hs
  clear hl hs hB
  go_enter Try.func74, Try.ntmps74
  go_wp2_with fail
  refine HL.out.mono ?_
  rintro e w' ⟨rfl, rfl⟩
  go_wp2_with fail
  go_ret
  have e : max 1 (((B : Int) + 6) / 7) = ((max 1 ((B + 6) / 7) : Nat) : Int) := by omega
  rw [← HS.out, ← e]
  exact ⟨rfl, rfl⟩

set_option maxRecDepth 100000 in
set_option maxHeartbeats 1000000 in
theorem put_any (v : Value) (l : List UInt8) (n : Nat) (w : World) (hn : n < 18446744073709551616) (hr : BRow w v l) (hlen : l.length ≤ 35184372088832) :
    Calls Try.prog 53 #[v, .int .u64 n] w (PutLeft w.heap.size (l ++ bytesL n) w) := by
  have hbl := bytesL_length n
  have k1 := fun W => size_any n W hn
  have k2 := fun W (h : BRow W v l) => room_any v l ((bytesL n).length : Int) _ W rfl h (by omega)
  obtain ⟨L, hL⟩ : ∃ L, (bytesL n).length = L := ⟨_, rfl⟩
  simp only [hL] at k1 k2
  have k3 := fun B u W (h : OwnB B W u l) hB => app_any B u l n W hn h (by omega) hB
  have K1 := Lib.hid k1
  have K2 := Lib.hid k2
  have K3 := Lib.hid k3
  have HR := Lib.hid hr
  clear k1 k2 k3 hr hL hbl
  go_enter Try.func53, Try.ntmps53
  go_wp2_with fail
  refine (K1.out _).mono ?_
  rintro e w1 ⟨rfl, rfl⟩
  go_wp2_with fail
  refine (K2.out _ HR.out).mono ?_
  rintro e w1 ⟨v1, rfl, hown1, hb1⟩
  have hsz := hb1.size
  have HO := Lib.hid hown1
  clear hown1
  go_wp2_with fail
  refine (K3.out _ _ _ HO.out hsz).mono ?_
  rintro e w2 ⟨v2, rfl, hown2, hb2⟩
  have HO2 := Lib.hid hown2
  clear hown2
  go_wp2_with fail
  go_ret
  exact ⟨_, rfl, HO2.out, hb1.trans hb2⟩
end Go.Proofs.Ytgacfihidpijeaa.VP
set_option linter.unusedVariables false
namespace Go.Proofs.Ytgacfihidpijeaa.VP
open Go.RowKit Go.Proofs.Ytgacfihidpijeaa.MM Go.Proofs.Ytgacfihidpijeaa.VM

/-! ### zigzags -/
theorem xor_ones (x : BitVec 64) : (x ^^^ BitVec.allOnes 64).toNat = 18446744073709551615 - x.toNat := by
  rw [BitVec.xor_allOnes, BitVec.toNat_not]
theorem ofInt_nat (x : Nat) (h : x < 18446744073709551616) : (BitVec.ofInt 64 (x : Int)).toNat = x := by
  rw [BitVec.ofInt_natCast, BitVec.toNat_ofNat]; exact Nat.mod_eq_of_lt (by omega)
theorem ofInt_ones : BitVec.ofInt 64 18446744073709551615 = BitVec.allOnes 64 := by decide
theorem ofInt_neg1 : BitVec.ofInt 64 (-1) = BitVec.allOnes 64 := by decide
theorem zig_val (n : Int) (h0 : -9223372036854775808 ≤ n) (h1 : n ≤ 9223372036854775807) :
    bits .xor .u64 (IntKind.u64.wrap (IntKind.u64.wrap n * 2)) (IntKind.u64.wrap (n / 9223372036854775808)) = (zig n : Int) := by
  unfold zig
  by_cases h : 0 ≤ n
  · obtain ⟨m, rfl⟩ := Int.eq_ofNat_of_zero_le h
    have e1 : IntKind.u64.wrap ((m : Int) / 9223372036854775808) = ((0 : Nat) : Int) := by rw [IntKind.wrap_u64]; omega
    have e2 : IntKind.u64.wrap (IntKind.u64.wrap (m : Int) * 2) = ((2 * m : Nat) : Int) := by rw [IntKind.wrap_u64, IntKind.wrap_u64]; omega
    rw [e1, e2, u64_xor_nat _ _ (by omega) (by omega), Nat.xor_zero, if_pos h]
    omega
  · have e1 : IntKind.u64.wrap (n / 9223372036854775808) = 18446744073709551615 := by rw [IntKind.wrap_u64]; omega
    obtain ⟨x, hx, hxl⟩ : ∃ x : Nat, IntKind.u64.wrap (IntKind.u64.wrap n * 2) = (x : Int) ∧ (x : Int) = 2 * n + 18446744073709551616 := ⟨(2 * n + 18446744073709551616).toNat, by rw [IntKind.wrap_u64, IntKind.wrap_u64]; omega, by omega⟩
    rw [e1, hx, if_neg h]
    show IntKind.u64.wrap ((BitVec.ofInt 64 (x : Int) ^^^ BitVec.ofInt 64 18446744073709551615).toNat : Int) = _
    rw [ofInt_ones, xor_ones, ofInt_nat x (by omega), IntKind.wrap_u64]
    omega
theorem unzig_val (n : Nat) (h1 : n < 18446744073709551616) : bits .xor .i64 ((n : Int) / 2) (wrap64 (-wrap64 (bits .and .u64 (n : Int) 1))) = zag n := by
  have e0 : bits .and .u64 (n : Int) 1 = ((n % 2 : Nat) : Int) := by
    have := u64_and_nat n 1 h1 (by omega)
    rw [Nat.and_one_is_mod] at this
    exact this
  have e1 : (n : Int) / 2 = ((n / 2 : Nat) : Int) := by omega
  rw [e0, e1]
  unfold zag
  by_cases h : n % 2 = 0
  · rw [if_pos h, h]
    have e2 : wrap64 (-wrap64 ((0 : Nat) : Int)) = 0 := by unfold wrap64; omega
    rw [e2]
    show IntKind.i64.wrap ((BitVec.ofInt 64 ((n / 2 : Nat) : Int) ^^^ BitVec.ofInt 64 0).toNat : Int) = _
    rw [show BitVec.ofInt 64 0 = 0#64 from by decide, BitVec.xor_zero, ofInt_nat _ (by omega), IntKind.wrap_i64]
    omega
  · have h2 : n % 2 = 1 := by omega
    rw [if_neg h, h2]
    have e2 : wrap64 (-wrap64 ((1 : Nat) : Int)) = -1 := by unfold wrap64; omega
    rw [e2]
    show IntKind.i64.wrap ((BitVec.ofInt 64 ((n / 2 : Nat) : Int) ^^^ BitVec.ofInt 64 (-1)).toNat : Int) = _
    rw [ofInt_neg1, xor_ones, ofInt_nat _ (by omega), IntKind.wrap_i64]
    omega
theorem ret_i {k : IntKind} {a b : Int} (h : a = b) : Ending.returned (.int k a) = .returned (.int k b) := by rw [h]
theorem zig_pos {n : Int} (h : 0 ≤ n) : 2 * n = (zig n : Int) := by unfold zig; rw [if_pos h]; omega
theorem zig_neg {n : Int} (h : ¬ 0 ≤ n) : 2 * (-1 - n) + 1 = (zig n : Int) := by unfold zig; rw [if_neg h]; omega
theorem zag_even {n : Nat} (h : n % 2 = 0) : (n : Int) / 2 = zag n := by unfold zag; rw [if_pos h]; omega
theorem zag_odd {n : Nat} (h : ¬ n % 2 = 0) : -1 - (n : Int) / 2 = zag n := by unfold zag; rw [if_neg h]; omega

set_option maxRecDepth 100000 in
theorem zig_any (n : Int) (w : World) (h0 : -9223372036854775808 ≤ n) (h1 : n ≤ 9223372036854775807) : Calls Try.prog 87 #[.int .i64 n] w fun e w' => e = .returned (.int .u64 (zig n)) ∧ w = w' := by
  have HV := Lib.hid (zig_val n h0 h1)
  go_enter Try.func87, Try.ntmps87
  go_wp2_with fail
  go_ret
  exact ⟨ret_i HV.out, rfl⟩
set_option maxRecDepth 100000 in
theorem unzig_any (n : Nat) (w : World) (h1 : n < 18446744073709551616) : Calls Try.prog 104 #[.int .u64 n] w fun e w' => e = .returned (.int .i64 (zag n)) ∧ w = w' := by
  have HV := Lib.hid (unzig_val n h1)
  go_enter Try.func104, Try.ntmps104
  go_wp2_with fail
  go_ret
  exact ⟨ret_i HV.out, rfl⟩
set_option maxRecDepth 100000 in
theorem rzig_any (n : Int) (w : World) (h0 : -9223372036854775808 ≤ n) (h1 : n ≤ 9223372036854775807) : Calls Try.prog 68 #[.int .i64 n] w fun e w' => e = .returned (.int .u64 (zig n)) ∧ w = w' := by
  by_cases h : 0 ≤ n
  · have HV := Lib.hid (zig_pos h)
    go_enter Try.func68, Try.ntmps68
    go_wp2_with fail
    go_ret
    exact ⟨ret_i HV.out, rfl⟩
  · have HV := Lib.hid (zig_neg h)
    go_enter Try.func68, Try.ntmps68
    go_wp2_with fail
    go_ret
    exact ⟨ret_i HV.out, rfl⟩
set_option maxRecDepth 100000 in
theorem rback_any (n : Nat) (w : World) (h1 : n < 18446744073709551616) : Calls Try.prog 71 #[.int .u64 n] w fun e w' => e = .returned (.int .i64 (zag n)) ∧ w = w' := by
  by_cases h : n % 2 = 0
  · have t : ((n : Int) % 2 == 0) = true := by simp; omega
    have HV := Lib.hid (zag_even h)
    clear h
    go_enter Try.func71, Try.ntmps71
    go_wp2_with fail
    go_ret
    exact ⟨ret_i HV.out, rfl⟩
  · have t : ((n : Int) % 2 == 0) = false := by simp; omega
    have HV := Lib.hid (zag_odd h)
    clear h
    go_enter Try.func71, Try.ntmps71
    go_wp2_with fail
    go_ret
    exact ⟨ret_i HV.out, rfl⟩

/-! ### PutInt, Int, PutText, Text -/
set_option maxRecDepth 100000 in
set_option maxHeartbeats 1000000 in
theorem putint_any (v : Value) (l : List UInt8) (n : Int) (w : World) (h0 : -9223372036854775808 ≤ n) (h1 : n ≤ 9223372036854775807) (hr : BRow w v l) (hlen : l.length ≤ 35184372088832) :
    Calls Try.prog 66 #[v, .int .i64 n] w (PutLeft w.heap.size (l ++ intL n) w) := by
  have k1 := fun W => zig_any n W h0 h1
  have k2 := fun W (h : BRow W v l) => put_any v l (zig n) W (zig_lt h0 h1) h hlen
  unfold intL
  generalize zig n = z at *
  have K1 := Lib.hid k1
  have K2 := Lib.hid k2
  have HR := Lib.hid hr
  clear k1 k2 hr
  go_enter Try.func66, Try.ntmps66
  go_wp2_with fail
  refine (K1.out _).mono ?_
  rintro e w1 ⟨rfl, rfl⟩
  go_wp2_with fail
  refine (K2.out _ HR.out).mono ?_
  rintro e w1 ⟨v1, rfl, hown1, hb1⟩
  have HO := Lib.hid hown1
  clear hown1
  go_wp2_with fail
  go_ret
  exact ⟨_, rfl, HO.out, hb1⟩
set_option maxRecDepth 100000 in
set_option maxHeartbeats 1000000 in
theorem rint_any (n : Int) (w : World) (h0 : -9223372036854775808 ≤ n) (h1 : n ≤ 9223372036854775807) :
    Calls Try.prog 45 #[.int .i64 n] w (PutLeft w.heap.size (intL n) w) := by
  have k1 := fun W => rzig_any n W h0 h1
  have k2 := fun W => rbytes_any (zig n) W (zig_lt h0 h1)
  unfold intL
  generalize zig n = z at *
  have K1 := Lib.hid k1
  have K2 := Lib.hid k2
  clear k1 k2
  go_enter Try.func45, Try.ntmps45
  go_wp2_with fail
  refine (K1.out _).mono ?_
  rintro e w1 ⟨rfl, rfl⟩
  go_wp2_with fail
  refine (K2.out _).mono ?_
  rintro e w1 ⟨v1, rfl, hown1, hb1⟩
  have HO := Lib.hid hown1
  clear hown1
  go_wp2_with fail
  go_ret
  exact ⟨_, rfl, HO.out, hb1⟩
set_option maxRecDepth 100000 in
set_option maxHeartbeats 1000000 in
theorem puttext_any (v : Value) (l : List UInt8) (s : ByteArray) (w : World) (hr : BRow w v l) (hlen : l.length + s.size ≤ 17592186044416) :
    Calls Try.prog 67 #[v, .string s] w (PutLeft w.heap.size (l ++ textL s.data.toList) w) := by
  have hz : s.data.toList.length = s.size := (Lib.size_eq s).symm
  have hbl := bytesL_length s.size
  have k1 := fun W => size_any s.size W (by omega)
  have k2 := fun W (h : BRow W v l) => room_any v l ((bytesL s.size).length + s.size : Int) ((bytesL s.size).length + s.size) W (by omega) h (by omega)
  have k3 := fun B u W (h : OwnB B W u l) hB => app_any B u l s.size W (by omega) h (by omega) hB
  have hm : s.size ≤ 9223372036854775807 := by omega
  have hlz : (l ++ bytesL s.size).length + s.size ≤ 140737488355328 := by rw [List.length_append]; omega
  unfold textL
  rw [hz, ← List.append_assoc]
  obtain ⟨L, hL⟩ : ∃ L, (bytesL s.size).length = L := ⟨_, rfl⟩
  simp only [hL] at k1 k2
  have hL10 : L ≤ 10 := by omega
  obtain ⟨T, hT⟩ : ∃ T, l ++ bytesL s.size = T := ⟨_, rfl⟩
  simp only [hT] at k3 hlz
  rw [hT]
  have K1 := Lib.hid k1
  have K2 := Lib.hid k2
  have K3 := Lib.hid k3
  have HR := Lib.hid hr
  clear k1 k2 k3 hr hL hbl hz hT
  go_enter Try.func67, Try.ntmps67
  go_wp2_with fail
  refine (K1.out _).mono ?_
  rintro e w1 ⟨rfl, rfl⟩
  go_wp2_with fail
  refine (K2.out _ HR.out).mono ?_
  rintro e w1 ⟨v1, rfl, hown1, hb1⟩
  have hsz := hb1.size
  have HO := Lib.hid hown1
  clear hown1
  go_wp2_with fail
  refine (K3.out _ _ _ HO.out hsz).mono ?_
  rintro e w2 ⟨v2, rfl, hown2, hb2⟩
  have hb := hb1.trans hb2
  have hsz2 := hb.size
  have HO2 := Lib.hid hown2
  clear hown2
  go_wp2_with (at_builtin; refine wpList_append_text rfl _ _ rfl w.heap.size _ _ rfl HO2.out _ rfl hlz hsz2 ?_)
  intro v3 w3 hown3 hb3
  have HO3 := Lib.hid hown3
  clear hown3
  go_wp2_with fail
  go_ret
  exact ⟨_, rfl, HO3.out, hb.trans hb3⟩
set_option maxRecDepth 100000 in
set_option maxHeartbeats 1000000 in
theorem rtext_any (s : ByteArray) (w : World) (hlen : s.size ≤ 17592186044416) :
    Calls Try.prog 47 #[.string s] w (PutLeft w.heap.size (textL s.data.toList) w) := by
  have hz : s.data.toList.length = s.size := (Lib.size_eq s).symm
  have hbl := bytesL_length s.size
  have k1 := fun W => rbytes_any s.size W (by omega)
  have hm : s.size ≤ 9223372036854775807 := by omega
  have hlz : (bytesL s.size).length + s.size ≤ 140737488355328 := by omega
  unfold textL
  rw [hz]
  obtain ⟨T, hT⟩ : ∃ T, bytesL s.size = T := ⟨_, rfl⟩
  simp only [hT] at k1 hlz
  rw [hT]
  have K1 := Lib.hid k1
  clear k1 hz hT hbl
  go_enter Try.func47, Try.ntmps47
  go_wp2_with fail
  refine (K1.out _).mono ?_
  rintro e w1 ⟨v1, rfl, hown1, hb1⟩
  have hsz := hb1.size
  have HO := Lib.hid hown1
  clear hown1
  go_wp2_with (at_builtin; refine wpList_append_text rfl _ _ rfl w.heap.size _ _ rfl HO.out _ rfl hlz hsz ?_)
  intro v3 w3 hown3 hb3
  have HO3 := Lib.hid hown3
  clear hown3
  go_wp2_with fail
  go_ret
  exact ⟨_, rfl, HO3.out, hb1.trans hb3⟩
end Go.Proofs.Ytgacfihidpijeaa.VP
