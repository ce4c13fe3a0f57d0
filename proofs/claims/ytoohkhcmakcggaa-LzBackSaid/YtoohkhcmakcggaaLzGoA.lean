/-
  The code's Bound and Size: what the plain lists say. No condition.
-/
import Derived.Test.YtoohkhcmakcggaaLzRef3
import Derived.Laws.BitsLemmas
set_option linter.unusedVariables false
namespace Go.Proofs.Ytoohkhcmakcggaa.LZ
open Go.RowKit Go.Proofs.Ytoohkhcmakcggaa.MM

/-! ### bits that do not meet -/
theorem i64_or_nat (a b : Nat) (ha : a < 4611686018427387904) (hb : b < 4611686018427387904) : bits .or .i64 (a : Int) (b : Int) = ((a ||| b : Nat) : Int) := by
  have hx : a ||| b < 2 ^ 62 := Nat.or_lt_two_pow (by omega) (by omega)
  have e : ∀ a : Nat, a < 4611686018427387904 → (BitVec.ofInt 64 (a : Int)).toNat = a := fun a ha => by
    rw [BitVec.ofInt_natCast, BitVec.toNat_ofNat]; exact Nat.mod_eq_of_lt (by omega)
  show IntKind.i64.wrap ((BitVec.ofInt 64 (a : Int) ||| BitVec.ofInt 64 (b : Int)).toNat : Int) = _
  rw [BitVec.toNat_or, e a ha, e b hb, IntKind.wrap_i64]
  omega
theorem or_add (a b i m : Nat) (hm : m = 2 ^ i) (h : b < m) (ha : a * m < 4611686018427387904) (hm2 : m ≤ 4611686018427387904) : bits BinOp.or IntKind.i64 ((a : Int) * (m : Int)) (b : Int) = (a : Int) * (m : Int) + (b : Int) := by
  have e : ((a : Int) * (m : Int)) = ((a * m : Nat) : Int) := by simp
  rw [e, i64_or_nat (a * m) b (by omega) (by omega)]
  have : a * m ||| b = a * m + b := by
    subst hm
    rw [← Nat.shiftLeft_eq, Nat.shiftLeft_add_eq_or_of_lt h]
  rw [this]
  omega
theorem or_four (x0 x1 x2 x3 : Nat) (h0 : x0 < 256) (h1 : x1 < 256) (h2 : x2 < 256) (h3 : x3 < 256) :
    bits BinOp.or IntKind.i64 (bits BinOp.or IntKind.i64 (bits BinOp.or IntKind.i64 ((x0 : Int) * 16777216) ((x1 : Int) * 65536)) ((x2 : Int) * 256)) (x3 : Int) = (x0 : Int) * 16777216 + (x1 : Int) * 65536 + (x2 : Int) * 256 + (x3 : Int) := by
  have e1 := or_add x0 (x1 * 65536) 24 16777216 (by decide) (by omega) (by omega) (by omega)
  have e2 := or_add (x0 * 256 + x1) (x2 * 256) 16 65536 (by decide) (by omega) (by omega) (by omega)
  have e3 := or_add (x0 * 65536 + x1 * 256 + x2) x3 8 256 (by decide) (by omega) (by omega) (by omega)
  rw [show ((x1 * 65536 : Nat) : Int) = (x1 : Int) * 65536 by omega, show (((16777216 : Nat) : Int)) = 16777216 from rfl] at e1
  rw [show ((x2 * 256 : Nat) : Int) = (x2 : Int) * 256 by omega, show (((65536 : Nat) : Int)) = 65536 from rfl, show (((x0 * 256 + x1 : Nat) : Int)) * 65536 = (x0 : Int) * 16777216 + (x1 : Int) * 65536 by omega] at e2
  rw [show (((256 : Nat) : Int)) = 256 from rfl, show (((x0 * 65536 + x1 * 256 + x2 : Nat) : Int)) * 256 = (x0 : Int) * 16777216 + (x1 : Int) * 65536 + (x2 : Int) * 256 by omega] at e3
  rw [e1, e2, e3]
theorem or_two (x0 x1 : Nat) (h0 : x0 < 256) (h1 : x1 < 256) : bits BinOp.or IntKind.i64 ((x0 : Int) * 256) (x1 : Int) = (x0 : Int) * 256 + (x1 : Int) := or_add x0 x1 8 256 (by decide) (by omega) (by omega) (by omega)
set_option maxRecDepth 100000 in
theorem bound_any (n : Int) (w : World) (h0 : -9223372036854775808 ≤ n) (h1 : n ≤ 9223372036854775807) : Calls Try.prog 10 #[.int .i64 n] w fun e w' => e = .returned (.int .i64 (boundL n)) ∧ Below w.heap.size w w' := by
  by_cases hn : n < 0 ∨ 16777216 < n
  · have e : boundL n = 0 := by unfold boundL; rw [if_pos hn]
    rw [e]
    clear e
    by_cases hneg : n < 0
    · have t1 : decide (n < 0) = true := by simp [hneg]
      go_enter Try.func10, Try.ntmps10
      go_wp2_with fail
      go_ret
      exact ⟨rfl, Below.refl _ _⟩
    · have t1 : decide (n < 0) = false := by simp; omega
      have t2 : decide (n > 16777216) = true := by simp; omega
      go_enter Try.func10, Try.ntmps10
      go_wp2_with fail
      go_ret
      exact ⟨rfl, Below.refl _ _⟩
  · obtain ⟨m, rfl⟩ := Int.eq_ofNat_of_zero_le (show 0 ≤ n by omega)
    have hm : m ≤ 16777216 := by omega
    have e : boundL (m : Int) = ((m + 4 + (m + 127) / 128 : Nat) : Int) := by unfold boundL; rw [if_neg hn]; omega
    have HE := Lib.hid e
    have t1 : decide ((m : Int) < 0) = false := by simp
    have t2 : decide ((m : Int) > 16777216) = false := by simp; omega
    clear e hn
    go_enter Try.func10, Try.ntmps10
    go_wp2_with fail
    go_ret
    rw [HE.out]
    exact ⟨by go_num, Below.refl _ _⟩

set_option maxRecDepth 100000 in
set_option maxHeartbeats 1000000 in
theorem size_any (v : Value) (l : List UInt8) (w : World) (hr : BRow w v l) :
    Calls Try.prog 15 #[v] w fun e w' => e = .returned (.tuple #[.int .i64 ((lzSize l).1 : Int), .int .i64 (lzSize l).2]) ∧ Below w.heap.size w w' := by
  obtain ⟨p, cap, rfl, hlc, hcm⟩ := hr.shape
  unfold maxLen at hcm
  by_cases h4 : l.length < 4
  · have e : lzSize l = (0, 6) := by unfold lzSize; rw [if_pos h4]
    rw [e]
    clear hr e
    go_enter Try.func15, Try.ntmps15
    go_wp2_with fail
    go_ret2
    exact ⟨rfl, Below.refl _ _⟩
  · obtain ⟨b, off, rfl, hbl, c0⟩ := hr.at_ (k := 0) (by omega)
    obtain ⟨b1, off1, hp1, _, c1⟩ := hr.at_ (k := 1) (by omega)
    obtain ⟨b2, off2, hp2, _, c2⟩ := hr.at_ (k := 2) (by omega)
    obtain ⟨b3, off3, hp3, _, c3⟩ := hr.at_ (k := 3) (by omega)
    simp only [Option.some.injEq, Addr.mk.injEq] at hp1 hp2 hp3
    obtain ⟨rfl, rfl, _⟩ := hp1
    obtain ⟨rfl, rfl, _⟩ := hp2
    obtain ⟨rfl, rfl, _⟩ := hp3
    have h0 := l[0].toNat_lt
    have h1 := l[1].toNat_lt
    have h2 := l[2].toNat_lt
    have h3 := l[3].toNat_lt
    have he := size4_at l (by omega)
    have hs : lzSize l = if 16777216 < sizeOf4 l then (0, 2) else (sizeOf4 l, 0) := by unfold lzSize; rw [if_neg h4]
    generalize l[0].toNat = x0 at *
    generalize l[1].toNat = x1 at *
    generalize l[2].toNat = x2 at *
    generalize l[3].toNat = x3 at *
    generalize sizeOf4 l = F at *
    obtain ⟨M, hM⟩ : ∃ M, lzSize l = M := ⟨_, rfl⟩
    rw [hM]
    rw [hM] at hs
    have HS := Lib.hid hs
    have HOR := Lib.hid (or_four x0 x1 x2 x3 h0 h1 h2 h3)
    have HVAL := Lib.hid (show (x0 : Int) * 16777216 + (x1 : Int) * 65536 + (x2 : Int) * 256 + (x3 : Int) = (F : Int) by omega)
    rw [Nat.add_zero] at c0
    clear hr he hs hM
    go_enter Try.func15, Try.ntmps15
    go_wp2_with fail
    go_quiet (fail)
    rw [HOR.out, HVAL.out]
    clear c0 c1 c2 c3
    by_cases hbig : 16777216 < F
    · have hs := HS.out
      rw [if_pos hbig] at hs
      subst hs
      have t1 : decide ((F : Int) > 16777216) = true := by simp; omega
      clear HS
      go_wp2_with fail
      go_ret2
      exact ⟨rfl, below_drewN (Below.refl _ _) _⟩
    · have hs := HS.out
      rw [if_neg hbig] at hs
      subst hs
      have t1 : decide ((F : Int) > 16777216) = false := by simp; omega
      clear HS
      go_wp2_with fail
      go_ret2
      exact ⟨rfl, below_drewN (Below.refl _ _) _⟩

end Go.Proofs.Ytoohkhcmakcggaa.LZ
