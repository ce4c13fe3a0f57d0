/-
  DERIVED: THE SHELF's CONTRACTS AT THIS DUMP, IN PLAIN WORDS (tools/lay-plain.mjs out of 'TryShelf.lean', which tools/lay-shelf.mjs wrote): THE SAME DECLARATIONS UNDER THE SAME NAMES: 'import', 'namespace', 'open', 'def', 'theorem' AND NOTHING ELSE: no command of the shelf's: FOR A HAND-IN. Each laying: the table of numbers ('.._ren') and one theorem, a field a fact of the dump's own or the kernel's comparison; each contract: ONE APPLICATION. Size and Put of a number: what the plain lists say. Condition: the rows stay below 2^46 bytes. PutText: what the plain lists say. Condition: the rows stay below 2^44 bytes.
-/
import Derived.Shelf.Strconv.Itoa0
import Derived.Shelf.Strings.Prefix
import Derived.Test.YtklngjnjnkocmaaProg
import Derived.Test.YtklngjnjnkocmaaZA15
import Derived.Lib.BitFns
import Derived.Lib.ItoaNum
namespace Go.Proofs
open Go.Shelf
def Try.lays129_ren : Go.Shelf.Ren := ⟨fun | 129 => 66 | n => n, fun | 53 => 62 | 3 => 3 | 4 => 4 | 46 => 103 | 5 => 5 | 9 => 9 | n => n, fun | n => n⟩
theorem Try.lays129 : Go.Proofs.Lays.n129 Try.prog Try.lays129_ren := {
  mixed := by kernel_rfl
  f129 := Try.func66.trans (congrArg some (by kernel_rfl))
  t3 := Try.underlying3
  a3 := Try.isAgg3
  z3 := Try.sizeOf3
  v3 := Try.zeroValue3
  t4 := Try.underlying4
  a4 := Try.isAgg4
  z4 := Try.sizeOf4
  v4 := Try.zeroValue4
  t5 := Try.underlying5
  a5 := Try.isAgg5
  z5 := Try.sizeOf5
  v5 := Try.zeroValue5
  t9 := Try.underlying9
  a9 := Try.isAgg9
  z9 := Try.sizeOf9
  v9 := Try.zeroValue9
  t46 := Try.underlying103
  a46 := Try.isAgg103
  z46 := Try.sizeOf103
  v46 := Try.zeroValue103
  t53 := Try.underlying62
  a53 := Try.isAgg62
  z53 := Try.sizeOf62
  v53 := Try.zeroValue62 }
/-- bits.Len64: "Len64 returns the minimum number of bits required to represent x; the result is 0 for x == 0.": IT RETURNS 'Lib.bitLen x'; the world is as it was. ('h0', 'h1': x is a uint64.) (LAID: no walk: one application.) -/
theorem Try.bits_Len64 (x : Int) (w : World) (h0 : 0 ≤ x) (h1 : x ≤ 18446744073709551615) :
    Calls Try.prog 66 #[.int .u64 x] w fun e w' => e = .returned (.int .i64 (Lib.bitLen x.toNat)) ∧ w' = w := Any.bits_Len64 Try.lays129 x w h0 h1
def Try.lays206_ren : Go.Shelf.Ren := ⟨fun | 206 => 65 | n => n, fun | 9 => 9 | 4 => 4 | 3 => 3 | n => n, fun | n => n⟩
theorem Try.lays206 : Go.Proofs.Lays.n206 Try.prog Try.lays206_ren := {
  mixed := by kernel_rfl
  f206 := Try.func65.trans (congrArg some (by kernel_rfl))
  t3 := Try.underlying3
  a3 := Try.isAgg3
  z3 := Try.sizeOf3
  v3 := Try.zeroValue3
  t4 := Try.underlying4
  a4 := Try.isAgg4
  z4 := Try.sizeOf4
  v4 := Try.zeroValue4
  t9 := Try.underlying9
  a9 := Try.isAgg9
  z9 := Try.sizeOf9
  v9 := Try.zeroValue9 }
open Go.RowKit Go.Lib in
/-- internal/stringslite.HasPrefix (what strings.HasPrefix calls). (LAID: no walk: one application.) -/
theorem Try.stringslite_HasPrefix (s p : ByteArray) (w : World) :
    Calls Try.prog 65 #[.string s, .string p] w fun e w' => e = .returned (.bool (Lib.hasPrefix s.data.toList p.data.toList)) ∧ w' = w := Any.stringslite_HasPrefix Try.lays206 s p w
def Try.lays99_ren : Go.Shelf.Ren := ⟨fun | 99 => 41 | 206 => 65 | n => n, fun | 9 => 9 | 4 => 4 | 3 => 3 | n => n, fun | n => n⟩
theorem Try.lays99 : Go.Proofs.Lays.n99 Try.prog Try.lays99_ren := {
  mixed := by kernel_rfl
  f99 := Try.func41.trans (congrArg some (by kernel_rfl))
  f206 := Try.func65.trans (congrArg some (by kernel_rfl))
  t3 := Try.underlying3
  a3 := Try.isAgg3
  z3 := Try.sizeOf3
  v3 := Try.zeroValue3
  t4 := Try.underlying4
  a4 := Try.isAgg4
  z4 := Try.sizeOf4
  v4 := Try.zeroValue4
  t9 := Try.underlying9
  a9 := Try.isAgg9
  z9 := Try.sizeOf9
  v9 := Try.zeroValue9 }
open Go.RowKit Go.Lib in
/-- strings.HasPrefix: "HasPrefix reports whether the string s begins with prefix.": IT RETURNS 'Lib.hasPrefix s prefix'; the world is as it was. (LAID: no walk: one application.) -/
theorem Try.strings_HasPrefix (s p : ByteArray) (w : World) :
    Calls Try.prog 41 #[.string s, .string p] w fun e w' => e = .returned (.bool (Lib.hasPrefix s.data.toList p.data.toList)) ∧ w' = w := Any.strings_HasPrefix Try.lays99 s p w
end Go.Proofs
set_option linter.unusedVariables false
namespace Go.Proofs.Ytklngjnjnkocmaa.VP
open Go.RowKit Go.Proofs.Ytklngjnjnkocmaa.MM Go.Proofs.Ytklngjnjnkocmaa.VM

/-! ### Size -/
theorem bitLen_small (n : Nat) (h : n < 128) : Lib.bitLen n ≤ 7 := by
  by_cases h0 : n = 0
  · subst h0; decide
  · have := Lib.bitLenAux_bounds 64 n (by omega) h0
    have h2 : 2 ^ (Lib.bitLen n - 1) < 2 ^ 7 := by
      have := this.2.1
      unfold Lib.bitLen
      omega
    have := (Nat.pow_lt_pow_iff_right (a := 2) (by omega)).1 h2
    omega
theorem bitLen_pos (n : Nat) (h0 : n ≠ 0) (h : n < 18446744073709551616) : 1 ≤ Lib.bitLen n := (Lib.bitLenAux_bounds 64 n h h0).1
theorem size_eq (n : Nat) : n < 18446744073709551616 → max 1 ((Lib.bitLen n + 6) / 7) = (bytesL n).length := by
  refine rec128 (P := fun n => n < 18446744073709551616 → max 1 ((Lib.bitLen n + 6) / 7) = (bytesL n).length) ?_ ?_ n
  · intro n h hn
    have := bitLen_small n h
    rw [bytesL_small h, List.length_singleton]
    omega
  · intro n h ih hn
    have h1 := Lib.bitLen_shift 7 n (by omega) hn
    have h2 := bitLen_pos (n / 128) (by omega) (by omega)
    have h3 := ih (by omega)
    rw [bytesL_big h hn, List.length_cons, ← h3, h1, show (2 : Nat) ^ 7 = 128 from rfl]
    omega

set_option maxRecDepth 100000 in
set_option maxHeartbeats 1000000 in
theorem size_any (n : Nat) (w : World) (hn : n < 18446744073709551616) : Calls Try.prog 47 #[.int .u64 n] w fun e w' => e = .returned (.int .i64 ((bytesL n).length : Int)) ∧ w = w' := by
  have hl := Try.bits_Len64 n w (by omega) (by omega)
  rw [Int.toNat_natCast] at hl
  have hs := size_eq n hn
  have hb : Lib.bitLen n ≤ 70 := by have := (bytesL_length n).2; omega
  obtain ⟨B, hB⟩ : ∃ B, Lib.bitLen n = B := ⟨_, rfl⟩
  rw [hB] at hl hb hs
  have HL := Lib.hid hl
  have HS := Lib.hid hs
  clear hl hs hB
  go_enter Try.func47, Try.ntmps47
  go_wp2_with fail
  refine HL.out.mono ?_
  rintro e w' ⟨rfl, rfl⟩
  go_wp2_with fail
  go_ret
  have e : max 1 (((B : Int) + 6) / 7) = ((max 1 ((B + 6) / 7) : Nat) : Int) := by omega
  rw [← HS.out, ← e]
  exact ⟨rfl, rfl⟩

set_option maxRecDepth 100000 in
set_option maxHeartbeats 1000000 in
theorem put_any (v : Value) (l : List UInt8) (n : Nat) (w : World) (hn : n < 18446744073709551616) (hr : BRow w v l) (hlen : l.length ≤ 35184372088832) :
    Calls Try.prog 27 #[v, .int .u64 n] w (PutLeft w.heap.size (l ++ bytesL n) w) := by
  have hbl := bytesL_length n
  have k1 := fun W => size_any n W hn
  have k2 := fun W (h : BRow W v l) => room_any v l ((bytesL n).length : Int) _ W rfl h (by omega)
  obtain ⟨L, hL⟩ : ∃ L, (bytesL n).length = L := ⟨_, rfl⟩
  simp only [hL] at k1 k2
  have k3 := fun B u W (h : OwnB B W u l) hB => app_any B u l n W hn h (by omega) hB
  have K1 := Lib.hid k1
  have K2 := Lib.hid k2
  have K3 := Lib.hid k3
  have HR := Lib.hid hr
  clear k1 k2 k3 hr hL hbl
  go_enter Try.func27, Try.ntmps27
  go_wp2_with fail
  refine (K1.out _).mono ?_
  rintro e w1 ⟨rfl, rfl⟩
  go_wp2_with fail
  refine (K2.out _ HR.out).mono ?_
  rintro e w1 ⟨v1, rfl, hown1, hb1⟩
  have hsz := hb1.size
  have HO := Lib.hid hown1
  clear hown1
  go_wp2_with fail
  refine (K3.out _ _ _ HO.out hsz).mono ?_
  rintro e w2 ⟨v2, rfl, hown2, hb2⟩
  have HO2 := Lib.hid hown2
  clear hown2
  go_wp2_with fail
  go_ret
  exact ⟨_, rfl, HO2.out, hb1.trans hb2⟩
end Go.Proofs.Ytklngjnjnkocmaa.VP
set_option linter.unusedVariables false
namespace Go.Proofs.Ytklngjnjnkocmaa.VP
open Go.RowKit Go.Proofs.Ytklngjnjnkocmaa.MM Go.Proofs.Ytklngjnjnkocmaa.VM

set_option maxRecDepth 100000 in
set_option maxHeartbeats 1000000 in
theorem puttext_any (v : Value) (l : List UInt8) (s : ByteArray) (w : World) (hr : BRow w v l) (hlen : l.length + s.size ≤ 17592186044416) :
    Calls Try.prog 51 #[v, .string s] w (PutLeft w.heap.size (l ++ textL s.data.toList) w) := by
  have hz : s.data.toList.length = s.size := (Lib.size_eq s).symm
  have hbl := bytesL_length s.size
  have k1 := fun W => size_any s.size W (by omega)
  have k2 := fun W (h : BRow W v l) => room_any v l ((bytesL s.size).length + s.size : Int) ((bytesL s.size).length + s.size) W (by omega) h (by omega)
  have k3 := fun B u W (h : OwnB B W u l) hB => app_any B u l s.size W (by omega) h (by omega) hB
  have hm : s.size ≤ 9223372036854775807 := by omega
  have hlz : (l ++ bytesL s.size).length + s.size ≤ 140737488355328 := by rw [List.length_append]; omega
  unfold textL
  rw [hz, ← List.append_assoc]
  obtain ⟨L, hL⟩ : ∃ L, (bytesL s.size).length = L := ⟨_, rfl⟩
  simp only [hL] at k1 k2
  have hL10 : L ≤ 10 := by omega
  obtain ⟨T, hT⟩ : ∃ T, l ++ bytesL s.size = T := ⟨_, rfl⟩
  simp only [hT] at k3 hlz
  rw [hT]
  have K1 := Lib.hid k1
  have K2 := Lib.hid k2
  have K3 := Lib.hid k3
  have HR := Lib.hid hr
  clear k1 k2 k3 hr hL hbl hz hT
  go_enter Try.func51, Try.ntmps51
  go_wp2_with fail
  refine (K1.out _).mono ?_
  rintro e w1 ⟨rfl, rfl⟩
  go_wp2_with fail
  refine (K2.out _ HR.out).mono ?_
  rintro e w1 ⟨v1, rfl, hown1, hb1⟩
  have hsz := hb1.size
  have HO := Lib.hid hown1
  clear hown1
  go_wp2_with fail
  refine (K3.out _ _ _ HO.out hsz).mono ?_
  rintro e w2 ⟨v2, rfl, hown2, hb2⟩
  have hb := hb1.trans hb2
  have hsz2 := hb.size
  have HO2 := Lib.hid hown2
  clear hown2
  go_wp2_with (at_builtin; refine wpList_append_text rfl _ _ rfl w.heap.size _ _ rfl HO2.out _ rfl hlz hsz2 ?_)
  intro v3 w3 hown3 hb3
  have HO3 := Lib.hid hown3
  clear hown3
  go_wp2_with fail
  go_ret
  exact ⟨_, rfl, HO3.out, hb.trans hb3⟩
end Go.Proofs.Ytklngjnjnkocmaa.VP
