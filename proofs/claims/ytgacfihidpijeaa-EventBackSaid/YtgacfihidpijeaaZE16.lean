/-
  cut of layer 10's statements. No condition. A number's bytes put into a row of the call's own (appendNumber), b in new memory (withRoom), the reference's Bytes: what the plain lists say. Condition: the rows stay below 2^47 bytes. Size and Put of a number: what the plain lists say. Condition: the rows stay below 2^46 bytes. PutInt, PutText and the reference's Int, Text: what the plain lists say. Condition: the rows stay below 2^46 bytes. A row of bytes that grows by append: which blocks turn. Condition: rows stay below 2^47 bytes. An event's bytes behind a row of the caller's: the code's appendEvent. Conditions: 16 fields, texts of 4096 bytes at most, a row below 10^9 bytes. slices.Grow of no bytes, slices.Concat of rows of bytes. Conditions: fewer than 10^12 bytes, fewer than a million rows.
-/
import Derived.Test.YtgacfihidpijeaaZE1
import Derived.Test.YtgacfihidpijeaaZE3
import Derived.Laws.BitsAllLaws
import Derived.Lib.VarintBits
import Derived.Test.YtgacfihidpijeaaZE7
import Derived.Lib.BitFns
import Derived.Lib.ItoaNum
import Derived.Test.YtgacfihidpijeaaZE2
import Derived.Deep.AppendLies
import Derived.Test.YtgacfihidpijeaaZE12
import Derived.Lib.AppendZeros
set_option linter.unusedVariables false
namespace Go.Proofs.Ytgacfihidpijeaa.EV
open Go Go.RowKit Go.Proofs.Ytgacfihidpijeaa.MM

def cutL (l : List UInt8) : List UInt8 := l.take 700
theorem cutL_len (l : List UInt8) : (cutL l).length ≤ 700 := by unfold cutL; rw [List.length_take]; exact Nat.min_le_left _ _
set_option maxRecDepth 100000 in
theorem lcut_any (B : Nat) (v : Value) (l : List UInt8) (w : World) (h : BIn B w v l) : Calls Try.prog 25 #[v] w fun e w' => ∃ u, e = .returned u ∧ BIn B w u (cutL l) ∧ w' = w := by
  obtain ⟨p, cap, rfl, hlc, hcm⟩ := h.shape
  unfold maxLen at hcm
  by_cases hl : 700 < l.length
  · have t1 : decide ((l.length : Int) > 700) = true := decide_eq_true (by omega)
    have HT := Lib.hid (h.take 700 (by omega))
    have q1 : (700 : Int) ≤ (cap : Int) := by omega
    have q2 : 700 ≤ cap := by omega
    clear h
    go_enter Try.func25, Try.ntmps25
    go_wp2_with fail
    go_ret
    exact ⟨_, rfl, HT.out, rfl⟩
  · have t1 : decide ((l.length : Int) > 700) = false := decide_eq_false (by omega)
    have e : cutL l = l := by unfold cutL; exact List.take_of_length_le (by omega)
    rw [e]
    have HT := Lib.hid h
    clear h
    go_enter Try.func25, Try.ntmps25
    go_wp2_with fail
    go_ret
    exact ⟨_, rfl, HT.out, rfl⟩
end Go.Proofs.Ytgacfihidpijeaa.EV
set_option linter.unusedVariables false
namespace Go.Proofs.Ytgacfihidpijeaa.VP
open Go.RowKit Go.Proofs.Ytgacfihidpijeaa.MM Go.Proofs.Ytgacfihidpijeaa.VM

set_option maxRecDepth 100000 in
theorem or128 (m : Nat) : bits .or .u8 ((m : Int) % 256) 128 = ((m % 128 + 128 : Nat) : Int) := by
  have h : ∀ x : Nat, x < 256 → x ||| 128 = x % 128 + 128 := by decide
  rw [u8_or _ _ (by omega) (by omega) (by omega) (by omega)]
  rw [show ((m : Int) % 256).toNat = m % 256 by omega, show (128 : Int).toNat = 128 from rfl, h _ (by omega)]
  omega
theorem cells_of {m : Nat} (h : m < 256) : Lib.byteCells [UInt8.ofNat m] = [.int .u8 (m : Int)] := by
  show [Value.int .u8 ((UInt8.ofNat m).toNat : Int)] = _
  rw [toNat_small h]
/-- One byte more. -/
theorem own_more {B : Nat} {w : World} {v : Value} {l : List UInt8} {m : Nat} (hm : m < 256) (h : w.ownsRow B 5 1 v (l.length + 1) (Lib.byteCells l ++ [.int .u8 (m : Int)])) : OwnB B w v (l ++ [UInt8.ofNat m]) := by
  unfold OwnB
  rw [List.length_append, byteCells_append, cells_of hm]
  exact h
set_option maxRecDepth 100000 in
set_option maxHeartbeats 1000000 in
theorem app_any (B : Nat) (v : Value) (l : List UInt8) (n : Nat) (w : World) (hn : n < 18446744073709551616) (hown : OwnB B w v l) (hlen : l.length ≤ 70368744177664) (hB : B ≤ w.heap.size) :
    Calls Try.prog 72 #[v, .int .u64 n] w (PutLeft B (l ++ bytesL n) w) := by
  obtain ⟨i0, hi, hz0, hz1, hz2⟩ := info_parts infoByte
  obtain ⟨all, hall⟩ : ∃ all, l ++ bytesL n = all := ⟨_, rfl⟩
  rw [hall]
  have HA0 : Hid (l ++ bytesL n = all) := Lib.hid hall
  have HO0 : Hid (OwnB B w v l) := Lib.hid hown
  clear hall hown
  go_enter Try.func72, Try.ntmps72
  go_wp2_with fail
  go_loopw [0, 1] (fun u z wr => ∃ (acc : List UInt8) (m : Nat), z = .int .u64 m ∧ m < 18446744073709551616 ∧ acc.length + (bytesL m).length ≤ l.length + 10 ∧ Hid (OwnB B wr u acc) ∧ Below B w wr ∧ Hid (acc ++ bytesL m = all)) (fun _ z _ => (intOf z).toNat)
  case atStart => exact ⟨l, n, rfl, hn, by have := (bytesL_length n).2; omega, HO0, Below.refl _ _, HA0⟩
  case round =>
    obtain ⟨acc, m, rfl, hm, hlen2, HO, hb, HA⟩ := hrel
    clear HA0 HO0
    have hsz := hb.size
    have hown : wr.ownsRow B 5 1 _ acc.length (Lib.byteCells acc) := HO.out
    have hlo := fun j hj => (hown.lt j hj).1
    have HL := Lib.hid hlo
    clear hlo HO
    have hBw : B ≤ wr.heap.size := by omega
    by_cases h : m < 128
    · have ha := HA.out
      rw [bytesL_small h] at ha
      have HA2 := Lib.hid ha
      clear ha HA
      go_wp2_with (at_builtin; refine wpList_append_own _ rfl _ _ 40 rfl B 5 i0 (.int .u8 0) 1 1 Try.underlying40 hi hz0 hz1 hz2 rfl (by decide) _ _ _ rfl (hown.alloc _) ⟨wr.heap.size, 0, none⟩ 1 1 [.int .u8 (m : Int)] rfl rfl (cell_new1 _ _ _) (int_one _ _) (by unfold maxLen; omega) (by omega) (by simp; omega) ?_)
      intro v1 w1 hown2 hgrow hnil1
      have hb' := below_app hb hBw HL.out hgrow
      have HO2 := Lib.hid (own_more (by omega) hown2)
      clear hown2 hgrow hnil1 hown
      go_wp2_with fail
      go_ret
      exact ⟨_, rfl, HA2.out ▸ HO2.out, hb'⟩
    · have ha := HA.out
      rw [bytesL_big h hm, List.append_cons] at ha
      have HA2 := Lib.hid ha
      rw [bytesL_big h hm, List.length_cons] at hlen2
      have hm1 : m % 128 + 128 < 256 := by omega
      have hor := or128 m
      clear ha HA
      go_wp2_with (at_builtin; refine wpList_append_own _ rfl _ _ 40 rfl B 5 i0 (.int .u8 0) 1 1 Try.underlying40 hi hz0 hz1 hz2 rfl (by decide) _ _ _ rfl (hown.alloc _) ⟨wr.heap.size, 0, none⟩ 1 1 [.int .u8 ((m % 128 + 128 : Nat) : Int)] rfl rfl (cell_new1 _ _ _) (int_one _ _) (by unfold maxLen; omega) (by omega) (by simp; omega) ?_)
      intro v1 w1 hown2 hgrow hnil1
      have hb' := below_app hb hBw HL.out hgrow
      have HO2 : Hid (OwnB B w1 v1 (acc ++ [UInt8.ofNat (m % 128 + 128)])) := Lib.hid (own_more hm1 hown2)
      clear hown2 hgrow hnil1 hown hor
      go_wp2_with fail
      go_roundw
      case rel => exact ⟨_, m / 128, by go_num, by omega, by rw [List.length_append, List.length_singleton]; omega, HO2, hb', HA2⟩
      case measure => simp [intOf]; omega

theorem own_byte {w : World} {B : Nat} {m : Nat} (hm : m < 256) (hB : B ≤ w.heap.size) : OwnB B (w.alloc (.cells #[.int .u8 (m : Int)] 5)) (.slice (some ⟨w.heap.size, 0, none⟩) 1 1) [UInt8.ofNat m] := by
  unfold OwnB
  rw [cells_of hm]
  exact own_lit w [.int .u8 (m : Int)] 5 B hB (by unfold maxLen; simp)

set_option maxRecDepth 100000 in
set_option maxHeartbeats 1000000 in
theorem room_any (v : Value) (l : List UInt8) (m : Int) (k : Nat) (w : World) (hm : m = (k : Int)) (hr : BRow w v l) (hlen : l.length + k ≤ 70368744177664) :
    Calls Try.prog 73 #[v, .int .i64 m] w (PutLeft w.heap.size l w) := by
  subst hm
  obtain ⟨p, cap, rfl, hlc, hcm⟩ := hr.shape
  unfold maxLen at hcm
  have HR := Lib.hid hr
  clear hr
  go_enter Try.func73, Try.ntmps73
  go_wp2_with (at_make; refine wpList_make_bytes rfl _ rfl w.heap.size _ (l.length + k) rfl (by omega) (by omega) (Nat.le_refl _) ?_)
  intro v1 w1 hown hb
  have hsz := hb.size
  have HO := Lib.hid hown
  clear hown
  go_wp2_with (at_builtin; refine wpList_append_bytes rfl _ _ rfl w.heap.size _ [] rfl HO.out _ l rfl (HR.out.below hb) (by simp; omega) hsz ?_)
  intro v2 w2 hown2 hb2
  have HO2 := Lib.hid hown2
  clear hown2
  go_wp2_with fail
  go_ret
  exact ⟨_, rfl, HO2.out, hb.trans hb2⟩

set_option maxRecDepth 100000 in
set_option maxHeartbeats 1000000 in
theorem rbytes_any (n : Nat) : ∀ (w : World), n < 18446744073709551616 → Calls Try.prog 46 #[.int .u64 n] w (PutLeft w.heap.size (bytesL n) w) := by
  refine rec128 (P := fun n => ∀ (w : World), n < 18446744073709551616 → Calls Try.prog 46 #[.int .u64 n] w (PutLeft w.heap.size (bytesL n) w)) ?_ ?_ n
  · intro n h w hn
    rw [bytesL_small h]
    have hown := own_byte (w := w) (B := w.heap.size) (m := n) (by omega) (Nat.le_refl _)
    have HO := Lib.hid hown
    clear hown
    go_enter Try.func46, Try.ntmps46
    go_wp2_with fail
    go_ret
    exact ⟨_, rfl, HO.out, (Below.refl _ _).alloc (Nat.le_refl _) _⟩
  · intro n h ih w hn
    rw [bytesL_big h hn]
    have hown := own_byte (w := w) (B := w.heap.size) (m := n % 128 + 128) (by omega) (Nat.le_refl _)
    rw [show ((n % 128 + 128 : Nat) : Int) = (n : Int) % 128 + 128 by omega] at hown
    generalize UInt8.ofNat (n % 128 + 128) = c at hown ⊢
    have HO := Lib.hid hown
    have HI := Lib.hid ih
    clear hown ih
    go_enter Try.func46, Try.ntmps46
    go_wp2_with fail
    rw [show (n : Int) / 128 = ((n / 128 : Nat) : Int) by omega]
    refine (HI.out _ (by omega)).mono ?_
    rintro e w1 ⟨v1, rfl, hown1, hb1⟩
    have hsz := hb1.size
    have hk := HO.out.keep hb1
    have HK := Lib.hid hk
    have HR := Lib.hid hown1.brow
    have hb : Below w.heap.size w w1 := ((Below.refl _ _).alloc (Nat.le_refl _) _).trans (hb1.mono (by simp))
    have hsz2 := hb.size
    have hl := (bytesL_length (n / 128)).2
    clear hown1 hk
    go_wp2_with (at_builtin; refine wpList_append_bytes rfl _ _ rfl w.heap.size _ _ rfl HK.out _ _ rfl HR.out (by simp; omega) hsz2 ?_)
    intro v2 w2 hown2 hb2
    have HO2 := Lib.hid hown2
    clear hown2
    go_wp2_with fail
    go_ret
    exact ⟨_, rfl, HO2.out, hb.trans hb2⟩
end Go.Proofs.Ytgacfihidpijeaa.VP
set_option linter.unusedVariables false
namespace Go.Proofs.Ytgacfihidpijeaa.VP
open Go.RowKit Go.Proofs.Ytgacfihidpijeaa.MM Go.Proofs.Ytgacfihidpijeaa.VM

/-! ### Size -/
theorem bitLen_small (n : Nat) (h : n < 128) : Lib.bitLen n ≤ 7 := by
  by_cases h0 : n = 0
  · subst h0; decide
  · have := Lib.bitLenAux_bounds 64 n (by omega) h0
    have h2 : 2 ^ (Lib.bitLen n - 1) < 2 ^ 7 := by
      have := this.2.1
      unfold Lib.bitLen
      omega
    have := (Nat.pow_lt_pow_iff_right (a := 2) (by omega)).1 h2
    omega
theorem bitLen_pos (n : Nat) (h0 : n ≠ 0) (h : n < 18446744073709551616) : 1 ≤ Lib.bitLen n := (Lib.bitLenAux_bounds 64 n h h0).1
theorem size_eq (n : Nat) : n < 18446744073709551616 → max 1 ((Lib.bitLen n + 6) / 7) = (bytesL n).length := by
  refine rec128 (P := fun n => n < 18446744073709551616 → max 1 ((Lib.bitLen n + 6) / 7) = (bytesL n).length) ?_ ?_ n
  · intro n h hn
    have := bitLen_small n h
    rw [bytesL_small h, List.length_singleton]
    omega
  · intro n h ih hn
    have h1 := Lib.bitLen_shift 7 n (by omega) hn
    have h2 := bitLen_pos (n / 128) (by omega) (by omega)
    have h3 := ih (by omega)
    rw [bytesL_big h hn, List.length_cons, ← h3, h1, show (2 : Nat) ^ 7 = 128 from rfl]
    omega

set_option maxRecDepth 100000 in
set_option maxHeartbeats 1000000 in
theorem size_any (n : Nat) (w : World) (hn : n < 18446744073709551616) : Calls Try.prog 74 #[.int .u64 n] w fun e w' => e = .returned (.int .i64 ((bytesL n).length : Int)) ∧ w = w' := by
  have hl := Try.bits_Len64 n w (by omega) (by omega)
  rw [Int.toNat_natCast] at hl
  have hs := size_eq n hn
  have hb : Lib.bitLen n ≤ 70 := by have := (bytesL_length n).2; omega
  obtain ⟨B, hB⟩ : ∃ B, Lib.bitLen n = B := ⟨_, rfl⟩
  rw [hB] at hl hb hs
  have HL := Lib.hid hl
  have HS := Lib.hid hs
  clear hl hs hB
  go_enter Try.func74, Try.ntmps74
  go_wp2_with fail
  refine HL.out.mono ?_
  rintro e w' ⟨rfl, rfl⟩
  go_wp2_with fail
  go_ret
  have e : max 1 (((B : Int) + 6) / 7) = ((max 1 ((B + 6) / 7) : Nat) : Int) := by omega
  rw [← HS.out, ← e]
  exact ⟨rfl, rfl⟩

set_option maxRecDepth 100000 in
set_option maxHeartbeats 1000000 in
theorem put_any (v : Value) (l : List UInt8) (n : Nat) (w : World) (hn : n < 18446744073709551616) (hr : BRow w v l) (hlen : l.length ≤ 35184372088832) :
    Calls Try.prog 53 #[v, .int .u64 n] w (PutLeft w.heap.size (l ++ bytesL n) w) := by
  have hbl := bytesL_length n
  have k1 := fun W => size_any n W hn
  have k2 := fun W (h : BRow W v l) => room_any v l ((bytesL n).length : Int) _ W rfl h (by omega)
  obtain ⟨L, hL⟩ : ∃ L, (bytesL n).length = L := ⟨_, rfl⟩
  simp only [hL] at k1 k2
  have k3 := fun B u W (h : OwnB B W u l) hB => app_any B u l n W hn h (by omega) hB
  have K1 := Lib.hid k1
  have K2 := Lib.hid k2
  have K3 := Lib.hid k3
  have HR := Lib.hid hr
  clear k1 k2 k3 hr hL hbl
  go_enter Try.func53, Try.ntmps53
  go_wp2_with fail
  refine (K1.out _).mono ?_
  rintro e w1 ⟨rfl, rfl⟩
  go_wp2_with fail
  refine (K2.out _ HR.out).mono ?_
  rintro e w1 ⟨v1, rfl, hown1, hb1⟩
  have hsz := hb1.size
  have HO := Lib.hid hown1
  clear hown1
  go_wp2_with fail
  refine (K3.out _ _ _ HO.out hsz).mono ?_
  rintro e w2 ⟨v2, rfl, hown2, hb2⟩
  have HO2 := Lib.hid hown2
  clear hown2
  go_wp2_with fail
  go_ret
  exact ⟨_, rfl, HO2.out, hb1.trans hb2⟩
end Go.Proofs.Ytgacfihidpijeaa.VP
set_option linter.unusedVariables false
namespace Go.Proofs.Ytgacfihidpijeaa.VP
open Go.RowKit Go.Proofs.Ytgacfihidpijeaa.MM Go.Proofs.Ytgacfihidpijeaa.VM

/-! ### zigzags -/
theorem xor_ones (x : BitVec 64) : (x ^^^ BitVec.allOnes 64).toNat = 18446744073709551615 - x.toNat := by
  rw [BitVec.xor_allOnes, BitVec.toNat_not]
theorem ofInt_nat (x : Nat) (h : x < 18446744073709551616) : (BitVec.ofInt 64 (x : Int)).toNat = x := by
  rw [BitVec.ofInt_natCast, BitVec.toNat_ofNat]; exact Nat.mod_eq_of_lt (by omega)
theorem ofInt_ones : BitVec.ofInt 64 18446744073709551615 = BitVec.allOnes 64 := by decide
theorem ofInt_neg1 : BitVec.ofInt 64 (-1) = BitVec.allOnes 64 := by decide
theorem zig_val (n : Int) (h0 : -9223372036854775808 ≤ n) (h1 : n ≤ 9223372036854775807) :
    bits .xor .u64 (IntKind.u64.wrap (IntKind.u64.wrap n * 2)) (IntKind.u64.wrap (n / 9223372036854775808)) = (zig n : Int) := by
  unfold zig
  by_cases h : 0 ≤ n
  · obtain ⟨m, rfl⟩ := Int.eq_ofNat_of_zero_le h
    have e1 : IntKind.u64.wrap ((m : Int) / 9223372036854775808) = ((0 : Nat) : Int) := by rw [IntKind.wrap_u64]; omega
    have e2 : IntKind.u64.wrap (IntKind.u64.wrap (m : Int) * 2) = ((2 * m : Nat) : Int) := by rw [IntKind.wrap_u64, IntKind.wrap_u64]; omega
    rw [e1, e2, u64_xor_nat _ _ (by omega) (by omega), Nat.xor_zero, if_pos h]
    omega
  · have e1 : IntKind.u64.wrap (n / 9223372036854775808) = 18446744073709551615 := by rw [IntKind.wrap_u64]; omega
    obtain ⟨x, hx, hxl⟩ : ∃ x : Nat, IntKind.u64.wrap (IntKind.u64.wrap n * 2) = (x : Int) ∧ (x : Int) = 2 * n + 18446744073709551616 := ⟨(2 * n + 18446744073709551616).toNat, by rw [IntKind.wrap_u64, IntKind.wrap_u64]; omega, by omega⟩
    rw [e1, hx, if_neg h]
    show IntKind.u64.wrap ((BitVec.ofInt 64 (x : Int) ^^^ BitVec.ofInt 64 18446744073709551615).toNat : Int) = _
    rw [ofInt_ones, xor_ones, ofInt_nat x (by omega), IntKind.wrap_u64]
    omega
theorem unzig_val (n : Nat) (h1 : n < 18446744073709551616) : bits .xor .i64 ((n : Int) / 2) (wrap64 (-wrap64 (bits .and .u64 (n : Int) 1))) = zag n := by
  have e0 : bits .and .u64 (n : Int) 1 = ((n % 2 : Nat) : Int) := by
    have := u64_and_nat n 1 h1 (by omega)
    rw [Nat.and_one_is_mod] at this
    exact this
  have e1 : (n : Int) / 2 = ((n / 2 : Nat) : Int) := by omega
  rw [e0, e1]
  unfold zag
  by_cases h : n % 2 = 0
  · rw [if_pos h, h]
    have e2 : wrap64 (-wrap64 ((0 : Nat) : Int)) = 0 := by unfold wrap64; omega
    rw [e2]
    show IntKind.i64.wrap ((BitVec.ofInt 64 ((n / 2 : Nat) : Int) ^^^ BitVec.ofInt 64 0).toNat : Int) = _
    rw [show BitVec.ofInt 64 0 = 0#64 from by decide, BitVec.xor_zero, ofInt_nat _ (by omega), IntKind.wrap_i64]
    omega
  · have h2 : n % 2 = 1 := by omega
    rw [if_neg h, h2]
    have e2 : wrap64 (-wrap64 ((1 : Nat) : Int)) = -1 := by unfold wrap64; omega
    rw [e2]
    show IntKind.i64.wrap ((BitVec.ofInt 64 ((n / 2 : Nat) : Int) ^^^ BitVec.ofInt 64 (-1)).toNat : Int) = _
    rw [ofInt_neg1, xor_ones, ofInt_nat _ (by omega), IntKind.wrap_i64]
    omega
theorem ret_i {k : IntKind} {a b : Int} (h : a = b) : Ending.returned (.int k a) = .returned (.int k b) := by rw [h]
theorem zig_pos {n : Int} (h : 0 ≤ n) : 2 * n = (zig n : Int) := by unfold zig; rw [if_pos h]; omega
theorem zig_neg {n : Int} (h : ¬ 0 ≤ n) : 2 * (-1 - n) + 1 = (zig n : Int) := by unfold zig; rw [if_neg h]; omega
theorem zag_even {n : Nat} (h : n % 2 = 0) : (n : Int) / 2 = zag n := by unfold zag; rw [if_pos h]; omega
theorem zag_odd {n : Nat} (h : ¬ n % 2 = 0) : -1 - (n : Int) / 2 = zag n := by unfold zag; rw [if_neg h]; omega

set_option maxRecDepth 100000 in
theorem zig_any (n : Int) (w : World) (h0 : -9223372036854775808 ≤ n) (h1 : n ≤ 9223372036854775807) : Calls Try.prog 87 #[.int .i64 n] w fun e w' => e = .returned (.int .u64 (zig n)) ∧ w = w' := by
  have HV := Lib.hid (zig_val n h0 h1)
  go_enter Try.func87, Try.ntmps87
  go_wp2_with fail
  go_ret
  exact ⟨ret_i HV.out, rfl⟩
set_option maxRecDepth 100000 in
theorem unzig_any (n : Nat) (w : World) (h1 : n < 18446744073709551616) : Calls Try.prog 104 #[.int .u64 n] w fun e w' => e = .returned (.int .i64 (zag n)) ∧ w = w' := by
  have HV := Lib.hid (unzig_val n h1)
  go_enter Try.func104, Try.ntmps104
  go_wp2_with fail
  go_ret
  exact ⟨ret_i HV.out, rfl⟩
set_option maxRecDepth 100000 in
theorem rzig_any (n : Int) (w : World) (h0 : -9223372036854775808 ≤ n) (h1 : n ≤ 9223372036854775807) : Calls Try.prog 68 #[.int .i64 n] w fun e w' => e = .returned (.int .u64 (zig n)) ∧ w = w' := by
  by_cases h : 0 ≤ n
  · have HV := Lib.hid (zig_pos h)
    go_enter Try.func68, Try.ntmps68
    go_wp2_with fail
    go_ret
    exact ⟨ret_i HV.out, rfl⟩
  · have HV := Lib.hid (zig_neg h)
    go_enter Try.func68, Try.ntmps68
    go_wp2_with fail
    go_ret
    exact ⟨ret_i HV.out, rfl⟩
set_option maxRecDepth 100000 in
theorem rback_any (n : Nat) (w : World) (h1 : n < 18446744073709551616) : Calls Try.prog 71 #[.int .u64 n] w fun e w' => e = .returned (.int .i64 (zag n)) ∧ w = w' := by
  by_cases h : n % 2 = 0
  · have t : ((n : Int) % 2 == 0) = true := by simp; omega
    have HV := Lib.hid (zag_even h)
    clear h
    go_enter Try.func71, Try.ntmps71
    go_wp2_with fail
    go_ret
    exact ⟨ret_i HV.out, rfl⟩
  · have t : ((n : Int) % 2 == 0) = false := by simp; omega
    have HV := Lib.hid (zag_odd h)
    clear h
    go_enter Try.func71, Try.ntmps71
    go_wp2_with fail
    go_ret
    exact ⟨ret_i HV.out, rfl⟩

/-! ### PutInt, Int, PutText, Text -/
set_option maxRecDepth 100000 in
set_option maxHeartbeats 1000000 in
theorem putint_any (v : Value) (l : List UInt8) (n : Int) (w : World) (h0 : -9223372036854775808 ≤ n) (h1 : n ≤ 9223372036854775807) (hr : BRow w v l) (hlen : l.length ≤ 35184372088832) :
    Calls Try.prog 66 #[v, .int .i64 n] w (PutLeft w.heap.size (l ++ intL n) w) := by
  have k1 := fun W => zig_any n W h0 h1
  have k2 := fun W (h : BRow W v l) => put_any v l (zig n) W (zig_lt h0 h1) h hlen
  unfold intL
  generalize zig n = z at *
  have K1 := Lib.hid k1
  have K2 := Lib.hid k2
  have HR := Lib.hid hr
  clear k1 k2 hr
  go_enter Try.func66, Try.ntmps66
  go_wp2_with fail
  refine (K1.out _).mono ?_
  rintro e w1 ⟨rfl, rfl⟩
  go_wp2_with fail
  refine (K2.out _ HR.out).mono ?_
  rintro e w1 ⟨v1, rfl, hown1, hb1⟩
  have HO := Lib.hid hown1
  clear hown1
  go_wp2_with fail
  go_ret
  exact ⟨_, rfl, HO.out, hb1⟩
set_option maxRecDepth 100000 in
set_option maxHeartbeats 1000000 in
theorem rint_any (n : Int) (w : World) (h0 : -9223372036854775808 ≤ n) (h1 : n ≤ 9223372036854775807) :
    Calls Try.prog 45 #[.int .i64 n] w (PutLeft w.heap.size (intL n) w) := by
  have k1 := fun W => rzig_any n W h0 h1
  have k2 := fun W => rbytes_any (zig n) W (zig_lt h0 h1)
  unfold intL
  generalize zig n = z at *
  have K1 := Lib.hid k1
  have K2 := Lib.hid k2
  clear k1 k2
  go_enter Try.func45, Try.ntmps45
  go_wp2_with fail
  refine (K1.out _).mono ?_
  rintro e w1 ⟨rfl, rfl⟩
  go_wp2_with fail
  refine (K2.out _).mono ?_
  rintro e w1 ⟨v1, rfl, hown1, hb1⟩
  have HO := Lib.hid hown1
  clear hown1
  go_wp2_with fail
  go_ret
  exact ⟨_, rfl, HO.out, hb1⟩
set_option maxRecDepth 100000 in
set_option maxHeartbeats 1000000 in
theorem puttext_any (v : Value) (l : List UInt8) (s : ByteArray) (w : World) (hr : BRow w v l) (hlen : l.length + s.size ≤ 17592186044416) :
    Calls Try.prog 67 #[v, .string s] w (PutLeft w.heap.size (l ++ textL s.data.toList) w) := by
  have hz : s.data.toList.length = s.size := (Lib.size_eq s).symm
  have hbl := bytesL_length s.size
  have k1 := fun W => size_any s.size W (by omega)
  have k2 := fun W (h : BRow W v l) => room_any v l ((bytesL s.size).length + s.size : Int) ((bytesL s.size).length + s.size) W (by omega) h (by omega)
  have k3 := fun B u W (h : OwnB B W u l) hB => app_any B u l s.size W (by omega) h (by omega) hB
  have hm : s.size ≤ 9223372036854775807 := by omega
  have hlz : (l ++ bytesL s.size).length + s.size ≤ 140737488355328 := by rw [List.length_append]; omega
  unfold textL
  rw [hz, ← List.append_assoc]
  obtain ⟨L, hL⟩ : ∃ L, (bytesL s.size).length = L := ⟨_, rfl⟩
  simp only [hL] at k1 k2
  have hL10 : L ≤ 10 := by omega
  obtain ⟨T, hT⟩ : ∃ T, l ++ bytesL s.size = T := ⟨_, rfl⟩
  simp only [hT] at k3 hlz
  rw [hT]
  have K1 := Lib.hid k1
  have K2 := Lib.hid k2
  have K3 := Lib.hid k3
  have HR := Lib.hid hr
  clear k1 k2 k3 hr hL hbl hz hT
  go_enter Try.func67, Try.ntmps67
  go_wp2_with fail
  refine (K1.out _).mono ?_
  rintro e w1 ⟨rfl, rfl⟩
  go_wp2_with fail
  refine (K2.out _ HR.out).mono ?_
  rintro e w1 ⟨v1, rfl, hown1, hb1⟩
  have hsz := hb1.size
  have HO := Lib.hid hown1
  clear hown1
  go_wp2_with fail
  refine (K3.out _ _ _ HO.out hsz).mono ?_
  rintro e w2 ⟨v2, rfl, hown2, hb2⟩
  have hb := hb1.trans hb2
  have hsz2 := hb.size
  have HO2 := Lib.hid hown2
  clear hown2
  go_wp2_with (at_builtin; refine wpList_append_text rfl _ _ rfl w.heap.size _ _ rfl HO2.out _ rfl hlz hsz2 ?_)
  intro v3 w3 hown3 hb3
  have HO3 := Lib.hid hown3
  clear hown3
  go_wp2_with fail
  go_ret
  exact ⟨_, rfl, HO3.out, hb.trans hb3⟩
set_option maxRecDepth 100000 in
set_option maxHeartbeats 1000000 in
theorem rtext_any (s : ByteArray) (w : World) (hlen : s.size ≤ 17592186044416) :
    Calls Try.prog 47 #[.string s] w (PutLeft w.heap.size (textL s.data.toList) w) := by
  have hz : s.data.toList.length = s.size := (Lib.size_eq s).symm
  have hbl := bytesL_length s.size
  have k1 := fun W => rbytes_any s.size W (by omega)
  have hm : s.size ≤ 9223372036854775807 := by omega
  have hlz : (bytesL s.size).length + s.size ≤ 140737488355328 := by omega
  unfold textL
  rw [hz]
  obtain ⟨T, hT⟩ : ∃ T, bytesL s.size = T := ⟨_, rfl⟩
  simp only [hT] at k1 hlz
  rw [hT]
  have K1 := Lib.hid k1
  clear k1 hz hT hbl
  go_enter Try.func47, Try.ntmps47
  go_wp2_with fail
  refine (K1.out _).mono ?_
  rintro e w1 ⟨v1, rfl, hown1, hb1⟩
  have hsz := hb1.size
  have HO := Lib.hid hown1
  clear hown1
  go_wp2_with (at_builtin; refine wpList_append_text rfl _ _ rfl w.heap.size _ _ rfl HO.out _ rfl hlz hsz ?_)
  intro v3 w3 hown3 hb3
  have HO3 := Lib.hid hown3
  clear hown3
  go_wp2_with fail
  go_ret
  exact ⟨_, rfl, HO3.out, hb1.trans hb3⟩
end Go.Proofs.Ytgacfihidpijeaa.VP
set_option linter.unusedVariables false
namespace Go.Proofs.Ytgacfihidpijeaa.GB
open Go Go.RowKit Go.Proofs.Ytgacfihidpijeaa.MM

/-- Only the row's own block has turned; the row lies there, or in a new one. -/
def Grown (w w' : World) (v v' : Value) : Prop := w.grownBy w' v.ownBlock ∧ ∀ k, v'.ownBlock = some k → v.ownBlock = some k ∨ w.heap.size ≤ k
theorem grownBy_refl (w : World) (r : Option Nat) : w.grownBy w r := ⟨rfl, rfl, rfl, Nat.le_refl _, fun _ _ _ => rfl⟩
theorem Grown.refl (w : World) (v : Value) : Grown w w v v := ⟨grownBy_refl _ _, fun k h => .inl h⟩
theorem Grown.trans {a b c : World} {u v x : Value} (h : Grown a b u v) (k : Grown b c v x) : Grown a c u x := by
  obtain ⟨h1, h2⟩ := h
  obtain ⟨k1, k2⟩ := k
  refine ⟨⟨k1.os.trans h1.os, k1.tape.trans h1.tape, k1.output.trans h1.output, Nat.le_trans h1.size k1.size, fun i hi hne => ?_⟩, fun i hi => ?_⟩
  · rw [k1.block i (Nat.lt_of_lt_of_le hi h1.size) (fun e => ?_), h1.block i hi hne]
    rcases h2 i e.symm with h | h
    · exact hne h.symm
    · omega
  · rcases k2 i hi with h | h
    · exact h2 i h
    · exact .inr (Nat.le_trans h1.size h)
theorem Grown.kep {w w' : World} {v v' : Value} (h : Grown w w' v v') : Kep (fun b => v.ownBlock ≠ some b) w w' := kep_grown h.1 fun k hk hne => hne hk
theorem Grown.of_below {a b c : World} {u v : Value} (h : Below a.heap.size a b) (k : Grown b c u v) (hu : ∀ i, u.ownBlock = some i → i < a.heap.size) : Grown a c u v :=
  ⟨⟨k.1.os.trans h.os, k.1.tape.trans h.tape, k.1.output.trans h.output, Nat.le_trans h.size k.1.size, fun i hi hne => by rw [k.1.block i (Nat.lt_of_lt_of_le hi h.size) hne, h.block i hi]⟩, fun i hi => by
    rcases k.2 i hi with e | e
    · exact .inl e
    · exact .inr (Nat.le_trans h.size e)⟩
theorem Grown.below {a b c : World} {u v : Value} (h : Grown a b u v) (k : Below b.heap.size b c) : Grown a c u v :=
  ⟨⟨k.os.trans h.1.os, k.tape.trans h.1.tape, k.output.trans h.1.output, Nat.le_trans h.1.size k.size, fun i hi hne => by rw [k.block i (Nat.lt_of_lt_of_le hi h.1.size), h.1.block i hi hne]⟩, h.2⟩
theorem own_lt {w : World} {v : Value} {l : List UInt8} {B : Nat} (h : OwnB B w v l) : ∀ i, v.ownBlock = some i → i < w.heap.size := fun i hi => (World.ownsRow.lt h i hi).2
theorem OwnB.zero {w : World} {v : Value} {l : List UInt8} {B : Nat} (h : OwnB B w v l) : OwnB 0 w v l := OwnB.weaken h (Nat.zero_le _)
theorem OwnB.from {w : World} {v : Value} {l : List UInt8} {B : Nat} (h : OwnB 0 w v l) (hB : ∀ k, v.ownBlock = some k → B ≤ k) : OwnB B w v l := by
  refine ⟨h.1, ?_⟩
  rcases h.2 with h0 | ⟨g, cap, cur, hv, hg, rest⟩
  · exact .inl h0
  · exact .inr ⟨g, cap, cur, hv, hB g (by rw [hv]; rfl), rest⟩
theorem OwnB.kepOwn {S : Nat → Prop} {w w' : World} {v : Value} {l : List UInt8} {B : Nat} (h : OwnB B w v l) (hk : Kep S w w') (hS : ∀ k, v.ownBlock = some k → S k) : OwnB B w' v l := by
  refine ⟨h.1, ?_⟩
  rcases h.2 with h0 | ⟨g, cap, cur, hv, hg, hh, rest⟩
  · exact .inl h0
  · exact .inr ⟨g, cap, cur, hv, hg, by rw [hk.block g (Array.getElem?_eq_some_iff.1 hh).1 (hS g (by rw [hv]; rfl))]; exact hh, rest⟩
/-- What an append leaves. -/
def AppL (l : List UInt8) (v : Value) (w : World) (e : Ending) (w' : World) : Prop := ∃ v', e = .returned v' ∧ OwnB 0 w' v' l ∧ Grown w w' v v'
/-- append(row, b...), b not empty. -/
theorem wpList_append_grown {w : World} {ops : Array Oper} {rest : List Oper} {o : Oper} {a : Act} {Q : Exit → Act → World → Prop} (hgd : o.guard = none) (s x : Operand)
    (ho : o.op = .call { callee := .builtin .append, args := #[s, x], argTypes := #[40, 40] }) (v : Value) (l : List UInt8) (hs : a.eval s = v) (hown : OwnB 0 w v l)
    (src : Value) (m : List UInt8) (hx : a.eval x = src) (hr : BRow w src m) (hm : m ≠ []) (hlen : l.length + m.length ≤ 140737488355328)
    (h : ∀ v' w', OwnB 0 w' v' (l ++ m) → Grown w w' v v' → wpList Try.prog ops Q rest (a.put o.dst v') w') : wpList Try.prog ops Q (o :: rest) a w := by
  obtain ⟨i0, hi, hz0, hz1, hz2⟩ := info_parts infoByte
  have h0 := List.length_pos_iff.2 hm
  obtain ⟨p, cap, rfl, _, _, h3, hc⟩ := hr
  rcases hc with hc | ⟨b, off, rfl, _, hc⟩
  · have := byteCells_len m; rw [hc] at this; simp at this; omega
  · refine wpList_append_lies w hgd s x 40 ho 0 5 i0 (.int .u8 0) 1 1 Try.underlying40 hi hz0 hz1 hz2 rfl (by decide) v l.length (Lib.byteCells l) hs hown ⟨b, off, none⟩ (Lib.byteCells m).length cap (Lib.byteCells m) hx (by simp)
      (fun j u hu => by rw [add_at]; exact hc j u hu) (byteCells_one m) (by rw [byteCells_len]; omega) (by rw [byteCells_len]; unfold maxLen; omega) (by rw [byteCells_len]; omega) (Nat.zero_le _) w.heap.size rfl ?_
    intro g cap' w' hown' hgrow hat _
    refine h _ w' ?_ ⟨hgrow, fun k hk => ?_⟩
    · unfold OwnB
      rw [List.length_append, byteCells_append]
      rw [byteCells_len] at hown' ⊢
      exact hown'
    · simp only [Value.ownBlock, Option.some.injEq] at hk
      subst hk
      rcases hat with h | h
      · exact .inl h
      · exact .inr (Nat.le_of_eq h.symm)
/-- .. as a step. -/
theorem wp_append_grown {w : World} {o : Oper} {a : Act} {K : Act → World → Prop} {Q : Exit → Act → World → Prop} (s x : Operand)
    (ho : o.op = .call { callee := .builtin .append, args := #[s, x], argTypes := #[40, 40] }) (v : Value) (l : List UInt8) (hs : a.eval s = v) (hown : OwnB 0 w v l)
    (src : Value) (m : List UInt8) (hx : a.eval x = src) (hr : BRow w src m) (hm : m ≠ []) (hlen : l.length + m.length ≤ 140737488355328)
    (h : ∀ v' w', OwnB 0 w' v' (l ++ m) → Grown w w' v v' → K (a.put o.dst v') w') : o.wp Try.prog a w K Q := by
  obtain ⟨i0, hi, hz0, hz1, hz2⟩ := info_parts infoByte
  have h0 := List.length_pos_iff.2 hm
  obtain ⟨p, cap, rfl, _, _, h3, hc⟩ := hr
  rcases hc with hc | ⟨b, off, rfl, _, hc⟩
  · have := byteCells_len m; rw [hc] at this; simp at this; omega
  · refine wp_append_lies w s x 40 ho 0 5 i0 (.int .u8 0) 1 1 Try.underlying40 hi hz0 hz1 hz2 rfl (by decide) v l.length (Lib.byteCells l) hs hown ⟨b, off, none⟩ (Lib.byteCells m).length cap (Lib.byteCells m) hx (by simp)
      (fun j u hu => by rw [add_at]; exact hc j u hu) (byteCells_one m) (by rw [byteCells_len]; omega) (by rw [byteCells_len]; unfold maxLen; omega) (by rw [byteCells_len]; omega) (Nat.zero_le _) w.heap.size rfl ?_
    intro g cap' w' hown' hgrow hat _
    refine h _ w' ?_ ⟨hgrow, fun k hk => ?_⟩
    · unfold OwnB
      rw [List.length_append, byteCells_append]
      rw [byteCells_len] at hown' ⊢
      exact hown'
    · simp only [Value.ownBlock, Option.some.injEq] at hk
      subst hk
      rcases hat with h | h
      · exact .inl h
      · exact .inr (Nat.le_of_eq h.symm)
end Go.Proofs.Ytgacfihidpijeaa.GB
set_option linter.unusedVariables false
namespace Go.Proofs.Ytgacfihidpijeaa.EV
open Go Go.RowKit Go.Proofs.Ytgacfihidpijeaa.MM Go.Proofs.Ytgacfihidpijeaa.EM Go.Proofs.Ytgacfihidpijeaa.VM Go.Proofs.Ytgacfihidpijeaa.GB
open Go.Proofs.Ytgacfihidpijeaa.VP

theorem bytesL_ne (n : Nat) : bytesL n ≠ [] := by
  intro h
  have := (bytesL_length n).1
  rw [h] at this
  simp at this
theorem intL_ne (z : Int) : intL z ≠ [] := bytesL_ne _
theorem textL_ne (s : List UInt8) : textL s ≠ [] := by
  intro h
  have := (textL_len s).2
  rw [h] at this
  simp at this
theorem intL_len (z : Int) : (intL z).length ≤ 10 := (bytesL_length _).2
theorem brow_nil (w : World) : BRow w (.slice none 0 0) [] := BIn.nil_ _ w
theorem put0_text (t : List UInt8) (ht : t.length ≤ 4096) (W : World) : Calls Try.prog 67 #[.slice none 0 0, .string ⟨t.toArray⟩] W (PutLeft W.heap.size (textL t) W) := by
  have h := puttext_any (.slice none 0 0) [] ⟨t.toArray⟩ W (brow_nil _) (by rw [str_sz]; simp; omega)
  rw [List.nil_append, str_list] at h
  exact h
theorem grown_ron {α : Type} {C : Codec α} {w w' : World} {v v' u : Value} {xs : List α} (h : ROn C (fun b => v.ownBlock ≠ some b) w u xs) (hg : Grown w w' v v') : ROn C (fun b => v.ownBlock ≠ some b) w' u xs := h.keep hg.kep fun _ _ h => h
theorem fits (m : Nat) (L : List UInt8) (fs : List Fld) (z : Int) (h16 : fs.length ≤ 16) (hx : ∀ f ∈ fs, f.1.length ≤ 4096 ∧ f.2.length ≤ 4096) (hl : L.length ≤ 1000000000) : ∀ k, (L ++ intL z ++ bytesL m ++ bytesF (fs.take k)).length ≤ 1001000000 := fun k => by
  have h1 := intL_len z
  have h2 := (bytesL_length m).2
  have h3 := bytesF_len (fs.take k)
  have h4 : sizeF (fs.take k) ≤ 8192 * (fs.take k).length := by
    have : ∀ gs : List Fld, (∀ f ∈ gs, f.1.length ≤ 4096 ∧ f.2.length ≤ 4096) → sizeF gs ≤ 8192 * gs.length := by
      intro gs
      induction gs with
      | nil => simp [sizeF]
      | cons f r ih =>
        intro h
        have h1 := h f (by simp)
        have h2 := ih fun g hg => h g (by simp [hg])
        have e : sizeF (f :: r) = f.1.length + f.2.length + sizeF r := by simp [sizeF]
        rw [e, List.length_cons]
        omega
    exact this _ fun f hf => hx f (List.mem_of_mem_take hf)
  have h5 : (fs.take k).length ≤ fs.length := List.length_take_le' _ _
  simp only [List.length_append]
  omega

set_option maxRecDepth 100000 in
set_option maxHeartbeats 4000000 in
theorem appe_any (v : Value) (l : List UInt8) (z : Int) (u : Value) (fs : List Fld) (w : World) (hown : OwnB 0 w v l) (hr : ROn fldC (fun b => v.ownBlock ≠ some b) w u fs) (h0 : -9223372036854775808 ≤ z) (h1 : z ≤ 9223372036854775807) (h16 : fs.length ≤ 16) (hx : ∀ f ∈ fs, f.1.length ≤ 4096 ∧ f.2.length ≤ 4096) (hl : l.length ≤ 1000000000) :
    Calls Try.prog 44 #[v, .agg #[.int .i64 z, u]] w (AppL (l ++ bytesE (z, fs)) v w) := by
  obtain ⟨p, cap, rfl, hlc, hcm, _⟩ := hr.shape
  unfold maxLen at hcm
  have hbx := box_below w z (.slice p fs.length cap)
  have HP := Lib.hid (putint_any (.slice none 0 0) [] z (evBox w z (.slice p fs.length cap)) h0 h1 (brow_nil _) (by simp))
  have HLN := Lib.hid (fits fs.length l fs z h16 hx hl)
  have HX := Lib.hid hx
  have HO := Lib.hid hown
  have HR := Lib.hid hr
  have HOL := Lib.hid (own_lt hown)
  have HBX := Lib.hid hbx
  have HEND : Hid (l ++ intL z ++ bytesL fs.length ++ bytesF (fs.take fs.length) = l ++ bytesE (z, fs)) := Lib.hid (by rw [List.take_length]; unfold bytesE; simp)
  clear hown hr hx hl hbx
  go_enter Try.func44, Try.ntmps44
  go_wp2_with fail
  refine HP.out.mono ?_
  rintro e w1 ⟨v1, rfl, ho1, hb1⟩
  rw [List.nil_append] at ho1
  have hbw1 : Below w.heap.size w w1 := HBX.out.trans (hb1.mono HBX.out.size)
  have hsz1 : w.heap.size < w1.heap.size := by have := hb1.size; rw [box_size] at this; omega
  have HOV1 := Lib.hid (HO.out.keep hbw1)
  have HO1 := Lib.hid ho1
  have HC1 := Lib.hid (box_in hb1)
  have HB1 := Lib.hid hbw1
  have HIL := Lib.hid (intL_len z)
  have hvo : v.ownBlock ≠ some w.heap.size := fun e => absurd (HOL.out _ e) (Nat.lt_irrefl _)
  clear ho1 hb1 hbw1 HP
  go_wp2_with (at_builtin; go_loud (refine wpList_append_grown rfl _ _ rfl v l rfl HOV1.out _ (intL z) rfl HO1.out.brow (intL_ne z) (by have := HLN.out 0; simp only [List.length_append] at this; omega) ?_; intro v2 w2 ho2 hg2; have d1 := (hg2.kep.cell hsz1 hvo 1).trans HC1.out.2.1; have hsz2 : w.heap.size < w2.heap.size := Nat.lt_of_lt_of_le hsz1 hg2.1.size; have hvo2 : v2.ownBlock ≠ some w.heap.size := fun e => (hg2.2 _ e).elim hvo fun h => absurd hsz1 (Nat.not_lt.2 h); have HO2 := Lib.hid ho2; have HG2 := Lib.hid (Grown.of_below HB1.out hg2 HOL.out); clear ho2 hg2))
  have HQ := Lib.hid (put_any (.slice none 0 0) [] fs.length w2 (by omega) (brow_nil _) (by simp))
  refine HQ.out.mono ?_
  rintro e w3 ⟨v3, rfl, ho3, hb3⟩
  rw [List.nil_append] at ho3
  have HO3 := Lib.hid ho3
  have HOV3 := Lib.hid (HO2.out.keep hb3)
  have e1 := (hb3.cell (p := ⟨w.heap.size, 1, none⟩) hsz2).trans d1
  have HG3 := Lib.hid (Grown.below HG2.out hb3)
  have hsz3 : w.heap.size < w3.heap.size := Nat.lt_of_lt_of_le hsz2 hb3.size
  clear ho3 hb3 HQ d1
  go_wp2_with (at_builtin; go_loud (refine wpList_append_grown rfl _ _ rfl v2 (l ++ intL z) rfl HOV3.out _ (bytesL fs.length) rfl HO3.out.brow (bytesL_ne _) (by have := HLN.out 0; simp only [List.length_append] at this; simp only [List.length_append]; omega) ?_; intro v4 w4 ho4 hg4; have d1 := (hg4.kep.cell hsz3 hvo2 1).trans e1; have HO4 : Hid (OwnB 0 w4 v4 (l ++ intL z ++ bytesL fs.length ++ bytesF (fs.take 0))) := Lib.hid (by rw [show l ++ intL z ++ bytesL fs.length ++ bytesF (fs.take 0) = l ++ intL z ++ bytesL fs.length by simp [EM.bytesF]]; exact ho4); have HG4 := Lib.hid (HG3.out.trans hg4); clear ho4 hg4))
  go_loopw [0, 22] (fun bv iv wr => ∃ k : Nat, k ≤ fs.length ∧ iv = .int .i64 k ∧ Hid (OwnB 0 wr bv (l ++ intL z ++ bytesL fs.length ++ bytesF (fs.take k))) ∧ Hid (Grown w wr v bv)) (fun _ iv _ => fs.length - (intOf iv).toNat)
  case atStart => exact ⟨0, by omega, rfl, HO4, HG4⟩
  case round =>
    obtain ⟨k, hk, rfl, HOk, HGk⟩ := hrel
    clear HO4 HG4 HOV3 HO3 HG3 HO2 HG2 HOV1 HO1 d1 e1
    by_cases hlt : k < fs.length
    · have q1 : decide ((k : Int) < (fs.length : Int)) = true := by rw [decide_eq_true_eq]; omega
      have q2 : decide (k < fs.length) = true := by rw [decide_eq_true_eq]; omega
      have q3 : (k : Int) < (fs.length : Int) := by omega
      obtain ⟨b, off, rfl, hbl, hbS, c1, c2⟩ := fld_at (grown_ron HR.out HGk.out) hlt
      have hxk := HX.out fs[k] (List.getElem_mem hlt)
      have hnx := bytesF_next hlt
      have hll := HLN.out (k + 1)
      rw [hnx] at hll
      generalize fs[k].1 = nm at *
      generalize fs[k].2 = tx at *
      have hn2 : l ++ intL z ++ bytesL fs.length ++ bytesF (fs.take (k + 1)) = l ++ intL z ++ bytesL fs.length ++ bytesF (fs.take k) ++ textL nm ++ textL tx := by rw [hnx]; simp
      obtain ⟨L, hL⟩ : ∃ L, l ++ intL z ++ bytesL fs.length ++ bytesF (fs.take k) = L := ⟨_, rfl⟩
      have hlen : (L ++ textL nm ++ textL tx).length ≤ 1001000000 := by rw [← hL]; rw [← List.append_assoc] at hll; rw [← List.append_assoc] at hll; exact hll
      rw [hL] at hn2
      have ho := HOk.out
      rw [hL] at ho
      have HOL0 := Lib.hid ho
      have HN2 := Lib.hid hn2
      have HT1 := Lib.hid (fun W => put0_text nm hxk.1 W)
      have HT2 := Lib.hid (fun W => put0_text tx hxk.2 W)
      have HLT := Lib.hid hlt
      have HUL := Lib.hid (own_lt ho)
      clear hnx hll hL ho hn2 HOk hlt
      go_wp2_with fail
      have hba : Below wr.heap.size wr (wr.alloc (.cells #[.string ⟨nm.toArray⟩, .string ⟨tx.toArray⟩] 68)) := (Below.refl _ _).alloc (Nat.le_refl _) _
      have hnw := (new_two wr (.string ⟨nm.toArray⟩) (.string ⟨tx.toArray⟩) 68).2
      refine (HT1.out _).mono ?_
      rintro e w5 ⟨v5, rfl, ho5, hb5⟩
      have hb15 : Below wr.heap.size wr w5 := hba.trans (hb5.mono hba.size)
      have hszr5 : wr.heap.size < w5.heap.size := by have := hb5.size; rw [World.size_alloc] at this; omega
      have k1 := (hb5.cell (p := ⟨wr.heap.size, 1, none⟩) (by rw [World.size_alloc]; exact Nat.lt_succ_self _)).trans hnw
      have HO5 := Lib.hid ho5
      have HV5 := Lib.hid (HOL0.out.keep hb15)
      have HG5 := Lib.hid (Grown.below HGk.out hb15)
      have hvr : u0.ownBlock ≠ some wr.heap.size := fun e => absurd (HUL.out _ e) (Nat.lt_irrefl _)
      clear hba hnw ho5 hb5 hb15 HT1 c1 c2 HGk
      go_wp2_with (at_builtin; go_loud (refine wpList_append_grown rfl _ _ rfl u0 L rfl HV5.out _ (textL nm) rfl HO5.out.brow (textL_ne _) (by simp only [List.length_append] at hlen; omega) ?_; intro v6 w6 ho6 hg6; have k2 := (hg6.kep.cell hszr5 hvr 1).trans k1; have HO6 := Lib.hid ho6; have HG6 := Lib.hid (HG5.out.trans hg6); clear ho6 hg6))
      refine (HT2.out _).mono ?_
      rintro e w7 ⟨v7, rfl, ho7, hb7⟩
      have HO7 := Lib.hid ho7
      have HV7 := Lib.hid (HO6.out.keep hb7)
      have HG7 := Lib.hid (Grown.below HG6.out hb7)
      clear ho7 hb7 HT2 k1 k2 HO6 HG6 HO5 HV5 HG5
      go_wp2_with (at_builtin; go_loud (refine wpList_append_grown rfl _ _ rfl v6 (L ++ textL nm) rfl HV7.out _ (textL tx) rfl HO7.out.brow (textL_ne _) (by simp only [List.length_append] at hlen; simp only [List.length_append]; omega) ?_; intro v8 w8 ho8 hg8; rw [← HN2.out] at ho8; have HO8 := Lib.hid ho8; have HG8 := Lib.hid (HG7.out.trans hg8); clear ho8 hg8))
      have hlt := HLT.out
      go_roundw
      case rel => exact ⟨k + 1, by omega, by go_num, HO8, HG8⟩
      case measure => simp [intOf]; omega
    · obtain rfl : k = fs.length := by omega
      have q1 : decide ((fs.length : Int) < (fs.length : Int)) = false := by simp
      have q2 : decide (fs.length < fs.length) = false := by simp
      have ho := HOk.out
      rw [HEND.out] at ho
      have HO9 := Lib.hid ho
      clear HOk ho hlt
      go_wp2_with fail
      go_ret
      exact ⟨_, rfl, HO9.out, HGk.out⟩
end Go.Proofs.Ytgacfihidpijeaa.EV
set_option linter.unusedVariables false
namespace Go.Proofs.Ytgacfihidpijeaa.MM
open Go Go.RowKit Go.Proofs.Ytgacfihidpijeaa.VP

/-- A slice of slices of bytes. -/
def LRow (w : World) (v : Value) (ls : List (List UInt8)) : Prop := ∃ xs, Row w v xs ∧ xs.length = ls.length ∧ ∀ i (h : i < ls.length), ∃ x, xs[i]? = some x ∧ BRow w x ls[i]
theorem LRow.below {w w' : World} {v : Value} {ls : List (List UInt8)} (h : LRow w v ls) (hb : Below w.heap.size w w') : LRow w' v ls := by
  obtain ⟨xs, hr, hl, hx⟩ := h
  refine ⟨xs, Row.below (B := 0) hr hb, hl, fun i hi => ?_⟩
  obtain ⟨x, h1, h2⟩ := hx i hi
  exact ⟨x, h1, h2.below hb⟩
theorem LRow.shape {w : World} {v : Value} {ls : List (List UInt8)} (h : LRow w v ls) : ∃ p cap, v = .slice p ls.length cap ∧ ls.length ≤ cap ∧ cap ≤ maxLen := by
  obtain ⟨xs, ⟨p, cap, hv, h1, h2, _, _⟩, hl, _⟩ := h
  rw [hl] at hv h1
  exact ⟨p, cap, hv, h1, h2⟩
theorem LRow.at_ {w : World} {p : Option Addr} {n cap : Nat} {ls : List (List UInt8)} (h : LRow w (.slice p n cap) ls) {k : Nat} (hk : k < ls.length) :
    ∃ b off x, p = some ⟨b, off, none⟩ ∧ w.cell? ⟨b, off + k, none⟩ = some x ∧ BRow w x ls[k] := by
  obtain ⟨xs, ⟨p', cap', hv, _, _, _, h⟩, hl, hx⟩ := h
  simp only [Value.slice.injEq] at hv
  obtain ⟨rfl, _, _⟩ := hv
  obtain ⟨x, h1, h2⟩ := hx k hk
  rcases h with h | ⟨b, off, hp, hlt, hc⟩
  · rw [h] at h1; simp at h1
  · exact ⟨b, off, x, hp, hc k _ h1, h2⟩
/-- A literal row: one block with these slices. -/
theorem lrow_lit {w : World} (xs : List Value) (ls : List (List UInt8)) (hl : xs.length = ls.length) (hm : xs.length ≤ maxLen) (h : ∀ i (h : i < ls.length), ∃ x, xs[i]? = some x ∧ BRow w x ls[i]) :
    LRow (w.alloc (.cells xs.toArray 40)) (.slice (some ⟨w.heap.size, 0, none⟩) xs.length xs.length) ls := by
  have hb : Below w.heap.size w (w.alloc (.cells xs.toArray 40)) := (Below.refl _ _).alloc (Nat.le_refl _) _
  refine ⟨xs, ⟨some ⟨w.heap.size, 0, none⟩, xs.length, rfl, Nat.le_refl _, hm, (fun h => by cases h), .inr ⟨w.heap.size, 0, rfl, by simp, fun i u hi => ?_⟩⟩, hl, fun i hi => ?_⟩
  · rw [cell_of_row _ w.heap.size _ _ _ _ (heap_alloc_new _ _)]
    simpa using hi
  · obtain ⟨x, h1, h2⟩ := h i hi
    exact ⟨x, h1, h2.below hb⟩
theorem lrow_two {w : World} {v u : Value} {l m : List UInt8} (h : BRow w v l) (k : BRow w u m) : LRow (w.alloc (.cells #[v, u] 40)) (.slice (some ⟨w.heap.size, 0, none⟩) 2 2) [l, m] :=
  lrow_lit [v, u] [l, m] rfl (by unfold maxLen; simp) (fun i hi => by
    match i, hi with
    | 0, _ => exact ⟨v, rfl, h⟩
    | 1, _ => exact ⟨u, rfl, k⟩)
theorem flat_next {ls : List (List UInt8)} {k : Nat} (hk : k < ls.length) : (ls.take (k + 1)).flatten = (ls.take k).flatten ++ ls[k] := by
  rw [List.take_succ_eq_append_getElem hk, List.flatten_append]
  simp
theorem flat_take_le (ls : List (List UInt8)) (k : Nat) : (ls.take k).flatten.length ≤ ls.flatten.length := by
  have h : ls.flatten = (ls.take k).flatten ++ (ls.drop k).flatten := by rw [← List.flatten_append, List.take_append_drop]
  rw [h, List.length_append]
  omega

set_option maxRecDepth 100000 in
set_option maxHeartbeats 1000000 in
theorem ggrow_any (n : Nat) (w : World) (hn : n ≤ 1000000000000) : Calls Try.prog 65 #[.slice none 0 0, .int .i64 n] w (PutLeft w.heap.size [] w) := by
  have q1 : decide ((n : Int) < 0) = false := decide_eq_false (by omega)
  have q2 : IntKind.i64.wrap ((n : Int) - 0) = (n : Int) := by rw [IntKind.wrap_i64]; omega
  have q3 : wrap64 (n : Int) = (n : Int) := by unfold wrap64; omega
  by_cases h0 : n = 0
  · subst h0
    have HF := Lib.hid (show PutLeft w.heap.size [] w (.returned (.slice none 0 0)) w from ⟨_, rfl, World.ownsRow_nil _ _ _ _, Below.refl _ _⟩)
    go_enter Try.func65, Try.ntmps65
    go_wp2_with fail
    go_ret
    exact HF.out
  · have q4 : decide ((n : Int) > 0) = true := decide_eq_true (by omega)
    obtain ⟨i0, hi, hz0, hz1, hz2⟩ := info_parts infoByte
    have hr := fun ty => Lib.run_append_nil_zeros (P := Try.prog) w 40 3 ty 5 i0 (.int .u8 0) .i64 .i64 Try.underlying40 Try.underlying3 hi hz0 n (by omega) (by omega) (by omega) (by rw [hz2]; omega)
    obtain ⟨G, hG⟩ : ∃ G, grownCap w n 0 5 = G := ⟨_, rfl⟩
    have hGn : n ≤ G := by rw [← hG]; exact grownCap_ge w _ _ _
    have hGm : G ≤ maxLen := by rw [← hG]; exact grownCap_le_maxLen w n 0 5 (by unfold maxLen; omega)
    rw [hG] at hr
    obtain ⟨w1, hw1⟩ : ∃ w1, w.drew.alloc (.cells (Builtin.zeroCells (Value.int .u8 0).cells n ++ Builtin.zeroCells (Value.int .u8 0).cells (G - n)) 5) = w1 := ⟨_, rfl⟩
    rw [hw1] at hr
    have hb : Below w.heap.size w w1 := by rw [← hw1]; exact ((Below.refl _ w).drew).alloc (Nat.le_refl _) _
    have hown : OwnB w.heap.size w1 (.slice (some ⟨w.heap.size, 0, none⟩) 0 G) [] := by
      refine ⟨rfl, .inr ⟨w.heap.size, G, Builtin.zeroCells (Value.int .u8 0).cells n ++ Builtin.zeroCells (Value.int .u8 0).cells (G - n), rfl, Nat.le_refl _, ?_, Nat.zero_le _, hGm, ?_, rfl⟩⟩
      · rw [← hw1]; exact heap_alloc_new _ _
      · simp [Builtin.zeroCells, Value.cells]
        omega
    have HF := Lib.hid (show PutLeft w.heap.size [] w (.returned (.slice (some ⟨w.heap.size, 0, none⟩) 0 G)) w1 from ⟨_, rfl, hown, hb⟩)
    have HR := Lib.hid hr
    unfold maxLen at hGm
    have q5 : (0 : Int) ≤ (G : Int) := by omega
    clear hown hb hr hw1 hG hi hz0 hz1 hz2
    go_enter Try.func65, Try.ntmps65
    go_wp2_with (at_builtin; go_loud (refine Lib.wpList_append_run w rfl _ _ _ _ rfl _ _ rfl rfl _ _ (HR.out _) ?_))
    go_ret
    exact HF.out

set_option maxRecDepth 100000 in
set_option maxHeartbeats 1000000 in
theorem concat_any (v : Value) (ls : List (List UInt8)) (w : World) (h : LRow w v ls) (hlen : ls.flatten.length ≤ 1000000000000) :
    Calls Try.prog 43 #[v] w (PutLeft w.heap.size ls.flatten w) := by
  obtain ⟨p, cap, rfl, hlc, hcm⟩ := h.shape
  unfold maxLen at hcm
  have HR := Lib.hid h
  have HL := Lib.hid (flat_take_le ls)
  obtain ⟨F, hF⟩ : ∃ F : Nat → Nat, ∀ k, F k = (ls.take k).flatten.length := ⟨fun k => (ls.take k).flatten.length, fun _ => rfl⟩
  have HF := Lib.hid hF
  have hF0 : F 0 = 0 := by rw [hF]; simp
  clear h hF
  go_enter Try.func43, Try.ntmps43
  go_wp2_with fail
  go_loopw [3, 11] (fun sv iv wr => ∃ k : Nat, k ≤ ls.length ∧ iv = .int .i64 k ∧ sv = .int .i64 (F k) ∧ w = wr) (fun _ iv _ => ls.length - (intOf iv).toNat)
  case atStart => exact ⟨0, by omega, rfl, by rw [hF0]; rfl, rfl⟩
  case round =>
    obtain ⟨k, hk, rfl, rfl, rfl⟩ := hrel
    by_cases hlt : k < ls.length
    · have q1 : decide ((k : Int) < (ls.length : Int)) = true := by rw [decide_eq_true_eq]; omega
      have q2 : decide (k < ls.length) = true := by rw [decide_eq_true_eq]; omega
      have q3 : (k : Int) < (ls.length : Int) := by omega
      obtain ⟨b, off, x, rfl, hc, hx⟩ := HR.out.at_ hlt
      obtain ⟨px, cx, rfl, _⟩ := hx.shape
      have hnx := congrArg List.length (flat_next hlt)
      rw [List.length_append, ← HF.out, ← HF.out] at hnx
      have hle := HL.out (k + 1)
      rw [← HF.out] at hle
      obtain ⟨m, hm⟩ : ∃ m, ls[k].length = m := ⟨_, rfl⟩
      rw [hm] at hnx hc
      have q4 : wrap64 ((F k : Int) + (m : Int)) = (F (k + 1) : Int) := by rw [IntWalk.wrap64_in _ ⟨by omega, by omega⟩]; omega
      have q5 : decide ((F (k + 1) : Int) < 0) = false := decide_eq_false (Int.not_lt.2 (Int.natCast_nonneg _))
      have HLT := Lib.hid hlt
      clear hx hnx hm
      go_wp2_with fail
      have hlt := HLT.out
      go_roundw
      case rel => exact ⟨k + 1, by omega, by go_num, by first | trivial | rfl | rw [q4], by first | trivial | rfl⟩
      case measure => simp [intOf]; omega
    · obtain rfl : k = ls.length := by omega
      have q1 : decide ((ls.length : Int) < (ls.length : Int)) = false := by simp
      have q2 : decide (ls.length < ls.length) = false := by simp
      have hFT := HF.out ls.length
      rw [List.take_length] at hFT
      have HG := Lib.hid (ggrow_any (F ls.length) w (by rw [hFT]; exact hlen))
      clear hFT
      clear hlt
      go_wp2_with fail
      refine HG.out.mono ?_
      rintro e w1 ⟨v1, rfl, ho1, hb1⟩
      have HO0 : Hid (OwnB w.heap.size w1 v1 (ls.take 0).flatten) := Lib.hid (by simpa using ho1)
      have HB1 := Lib.hid hb1
      clear ho1 hb1 HG
      go_wp2_with fail
      go_loopw [6, 27] (fun bv iv w2 => ∃ k : Nat, k ≤ ls.length ∧ iv = .int .i64 k ∧ Hid (OwnB w.heap.size w2 bv (ls.take k).flatten) ∧ Hid (Below w.heap.size w w2)) (fun _ iv _ => ls.length - (intOf iv).toNat)
      case atStart => exact ⟨0, by omega, rfl, HO0, HB1⟩
      case round =>
        obtain ⟨k, hk, rfl, HOk, HBk⟩ := hrel
        clear HO0 HB1
        by_cases hlt : k < ls.length
        · have q1 : decide ((k : Int) < (ls.length : Int)) = true := by rw [decide_eq_true_eq]; omega
          have q2 : decide (k < ls.length) = true := by rw [decide_eq_true_eq]; omega
          have q3 : (k : Int) < (ls.length : Int) := by omega
          obtain ⟨b, off, x, rfl, hc, hx⟩ := (LRow.below HR.out HBk.out).at_ hlt
          have hnx := flat_next hlt
          obtain ⟨m, hm⟩ : ∃ m, ls[k] = m := ⟨_, rfl⟩
          rw [hm] at hnx hx
          have hle := HL.out (k + 1)
          rw [hnx, List.length_append] at hle
          have HNX := Lib.hid hnx
          have HX := Lib.hid hx
          have HLT := Lib.hid hlt
          clear hx hnx hm
          go_wp2_with (at_builtin; go_loud (refine wpList_append_bytes rfl _ _ rfl w.heap.size _ (ls.take k).flatten rfl HOk.out _ m rfl HX.out (by omega) HBk.out.size ?_; intro v4 w4 ho4 hb4; rw [← HNX.out] at ho4; have HO4 := Lib.hid ho4; have HB4 := Lib.hid (HBk.out.trans hb4); clear ho4 hb4))
          have hlt := HLT.out
          go_roundw
          case rel => exact ⟨k + 1, by omega, by go_num, HO4, HB4⟩
          case measure => simp [intOf]; omega
        · obtain rfl : k = ls.length := by omega
          have q1 : decide ((ls.length : Int) < (ls.length : Int)) = false := by simp
          have q2 : decide (ls.length < ls.length) = false := by simp
          have ho := HOk.out
          rw [List.take_length] at ho
          have HO9 := Lib.hid ho
          clear hlt ho
          go_wp2_with fail
          go_ret
          exact ⟨_, rfl, HO9.out, HBk.out⟩
end Go.Proofs.Ytgacfihidpijeaa.MM
