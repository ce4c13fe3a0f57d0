/-
  The reference's alike, match, run, Size and Bound: what the plain lists say. No condition.
-/
import Derived.Test.YtoohkhcmakcggaaMem
import Derived.Test.YtoohkhcmakcggaaLzMath
set_option linter.unusedVariables false
namespace Go.Proofs.Ytoohkhcmakcggaa.LZ
open Go.RowKit Go.Proofs.Ytoohkhcmakcggaa.MM

/-! ### alike -/
theorem alike_all {b : List UInt8} {f a n : Nat} (hf : f < a) (ha : a ≤ b.length) (hn : n ≤ 131) (hl : a + n ≤ b.length) (h : (b.drop f).take n = (b.drop a).take n) (hs : n = 131 ∨ a + n = b.length) : alikeAt b f a = n := by
  refine alikeL_stop h hn (by rw [List.length_drop]; omega) (by rw [List.length_drop]; omega) ?_
  rcases hs with hs | hs
  · exact .inl hs
  · exact .inr (.inl (by rw [List.length_drop]; omega))
theorem alike_other {b : List UInt8} {f a n : Nat} (hf : f < a) (hn : n ≤ 131) (hl : a + n < b.length) (h : (b.drop f).take n = (b.drop a).take n) (hs : b[f + n]'(by omega) ≠ b[a + n]) : alikeAt b f a = n := by
  refine alikeL_stop h hn (by rw [List.length_drop]; omega) (by rw [List.length_drop]; omega) (.inr (.inr (.inr ⟨by rw [List.length_drop]; omega, by rw [List.length_drop]; omega, ?_⟩)))
  rw [List.getElem_drop, List.getElem_drop]
  exact hs
theorem alike_more {b : List UInt8} {f a n : Nat} (hf : f < a) (hl : a + n < b.length) (h : (b.drop f).take n = (b.drop a).take n) (hs : b[f + n]'(by omega) = b[a + n]) : (b.drop f).take (n + 1) = (b.drop a).take (n + 1) := by
  rw [List.take_succ_eq_append_getElem (by rw [List.length_drop]; omega), List.take_succ_eq_append_getElem (by rw [List.length_drop]; omega), h, List.getElem_drop, List.getElem_drop, hs]

set_option maxRecDepth 100000 in
set_option maxHeartbeats 1000000 in
theorem alike_any (v : Value) (b : List UInt8) (f a : Nat) (w : World) (hr : BRow w v b) (hf : f < a) (ha : a ≤ b.length) :
    Calls Try.prog 27 #[v, .int .i64 f, .int .i64 a] w fun e w' => e = .returned (.int .i64 (alikeAt b f a)) ∧ Below w.heap.size w w' := by
  obtain ⟨p, cap, rfl, hlc, hcm⟩ := hr.shape
  unfold maxLen at hcm
  have HR := Lib.hid hr
  have H0 : Hid ((b.drop f).take 0 = (b.drop a).take 0) := Lib.hid rfl
  obtain ⟨M, hM⟩ : ∃ M, alikeAt b f a = M := ⟨_, rfl⟩
  rw [hM]
  have HRES := Lib.hid hM
  clear hr hM
  go_enter Try.func27, Try.ntmps27
  go_wp2_with fail
  go_loopw [7] (fun i wr => ∃ n : Nat, n ≤ 131 ∧ a + n ≤ b.length ∧ i = .int .i64 n ∧ Hid ((b.drop f).take n = (b.drop a).take n) ∧ Hid (Below w.heap.size w wr)) (fun i _ => 131 - (intOf i).toNat)
  case atStart => exact ⟨0, by omega, by omega, rfl, H0, Lib.hid (Below.refl _ _)⟩
  case round =>
    obtain ⟨n, hn, hl, rfl, HT, HB⟩ := hrel
    clear H0
    by_cases h1 : n = 131
    · have he := alike_all hf ha hn hl HT.out (.inl h1)
      obtain rfl : n = M := he.symm.trans HRES.out
      have t1 : decide ((n : Int) < 131) = false := by simp; omega
      clear he h1
      go_wp2_with fail
      go_quiet (fail)
      go_wp2_with fail
      go_ret
      exact ⟨rfl, below_drewN HB.out nq⟩
    · have t1 : decide ((n : Int) < 131) = true := by simp; omega
      by_cases h2 : a + n = b.length
      · have he := alike_all hf ha hn hl HT.out (.inr h2)
        obtain rfl : n = M := he.symm.trans HRES.out
        have t2 : decide ((a : Int) + (n : Int) < (b.length : Int)) = false := by simp; omega
        clear he h2
        go_wp2_with fail
        go_quiet (fail)
        go_wp2_with fail
        go_ret
        exact ⟨rfl, below_drewN HB.out nq⟩
      · have t2 : decide ((a : Int) + (n : Int) < (b.length : Int)) = true := by simp; omega
        have hlt : a + n < b.length := by omega
        obtain ⟨blk, off, rfl, hb1, c1⟩ := (HR.out.below HB.out).at_ (k := f + n) (by omega)
        obtain ⟨blk2, off2, hp, hb2, c2⟩ := (HR.out.below HB.out).at_ (k := a + n) hlt
        simp only [Option.some.injEq, Addr.mk.injEq] at hp
        obtain ⟨rfl, rfl, _⟩ := hp
        have i1 : (f : Int) + (n : Int) < (b.length : Int) := by omega
        have i2 : (a : Int) + (n : Int) < (b.length : Int) := by omega
        have i3 : ((f : Int) + (n : Int)).toNat = f + n := by rw [show (f : Int) + (n : Int) = ((f + n : Nat) : Int) from rfl, Int.toNat_natCast]
        have i4 : ((a : Int) + (n : Int)).toNat = a + n := by rw [show (a : Int) + (n : Int) = ((a + n : Nat) : Int) from rfl, Int.toNat_natCast]
        by_cases heq : b[f + n]'(by omega) = b[a + n]
        · have hm := alike_more hf hlt HT.out heq
          rw [heq] at c1
          generalize b[a + n] = x at *
          have t3 : ((x.toNat : Int) == (x.toNat : Int)) = true := by simp
          have HM := Lib.hid hm
          have hn2 : n < 131 := by omega
          clear hm heq h1 h2 HT
          go_wp2_with fail
          go_quiet (fail)
          go_wp2_with fail
          go_roundw
          case rel => exact ⟨n + 1, by omega, by omega, by go_num, HM, Lib.hid (below_drewN HB.out _)⟩
          case measure => simp [intOf]; omega
        · have he := alike_other hf hn hlt HT.out heq
          obtain rfl : n = M := he.symm.trans HRES.out
          have t3 : (((b[f + n]'(by omega)).toNat : Int) == ((b[a + n]).toNat : Int)) = false := by
            rw [beq_eq_false_iff_ne]
            intro h
            exact heq (UInt8.toNat_inj.1 (by omega))
          generalize (b[f + n]'(by omega)).toNat = x at *
          generalize (b[a + n]).toNat = y at *
          clear he heq h1 h2 HT
          go_wp2_with fail
          go_quiet (fail)
          go_wp2_with fail
          go_ret
          exact ⟨rfl, below_drewN HB.out nq⟩

/-! ### match -/
set_option maxRecDepth 100000 in
set_option maxHeartbeats 1000000 in
theorem match_any (v : Value) (b : List UInt8) (a : Nat) (w : World) (hr : BRow w v b) (ha : a ≤ b.length) :
    Calls Try.prog 22 #[v, .int .i64 a] w fun e w' => e = .returned (.tuple #[.int .i64 ((matchL b a).1 : Int), .int .i64 ((matchL b a).2 : Int)]) ∧ Below w.heap.size w w' := by
  obtain ⟨p, cap, rfl, hlc, hcm⟩ := hr.shape
  unfold maxLen at hcm
  have HR := Lib.hid hr
  have H0 : Hid (matchF b a 0 = (0, 0)) := Lib.hid rfl
  obtain ⟨M, hM⟩ : ∃ M, matchL b a = M := ⟨_, rfl⟩
  rw [hM]
  have HRES := Lib.hid hM
  clear hr hM
  go_enter Try.func22, Try.ntmps22
  go_wp2_with fail
  go_loopw [6, 7, 8] (fun fr lg i wr => ∃ d x y : Nat, d ≤ a ∧ d ≤ 65535 ∧ i = .int .i64 ((d : Int) + 1) ∧ fr = .int .i64 x ∧ lg = .int .i64 y ∧ y ≤ 131 ∧ Hid (matchF b a d = (x, y)) ∧ Hid (Below w.heap.size w wr)) (fun _ _ i _ => 70000 - (intOf i).toNat)
  case atStart => exact ⟨0, 0, 0, by omega, by omega, rfl, rfl, rfl, by omega, H0, Lib.hid (Below.refl _ _)⟩
  case round =>
    obtain ⟨d, x, y, hd1, hd2, rfl, rfl, rfl, hy, HM, HB⟩ := hrel
    clear H0
    by_cases hgo : d < a ∧ d < 65535
    · have t1 : decide ((d : Int) + 1 ≤ (a : Int)) = true := by simp; omega
      have t2 : decide ((d : Int) + 1 ≤ 65535) = true := by simp; omega
      have hK := alike_any _ b (a - (d + 1)) a wr (HR.out.below HB.out) (by omega) ha
      have hcast : ((a - (d + 1) : Nat) : Int) = (a : Int) - ((d : Int) + 1) := by omega
      rw [hcast] at hK
      have hle := (alikeAt_le b (a - (d + 1)) a).1
      have hnext : matchF b a (d + 1) = if 4 ≤ alikeAt b (a - (d + 1)) a ∧ y < alikeAt b (a - (d + 1)) a then (d + 1, alikeAt b (a - (d + 1)) a) else (x, y) := by
        rw [matchF, HM.out]
      generalize alikeAt b (a - (d + 1)) a = n at *
      have HK := Lib.hid hK
      have HN := Lib.hid hnext
      clear hK hnext hcast HM
      by_cases hb : 4 ≤ n ∧ y < n
      · have t3 : decide ((n : Int) ≥ 4) = true := by simp; omega
        have t4 : decide ((n : Int) > (y : Int)) = true := by simp; omega
        have hN := HN.out
        rw [if_pos hb] at hN
        have HN2 := Lib.hid hN
        clear hN HN
        go_wp2_with fail
        refine HK.out.mono ?_
        rintro e w1 ⟨rfl, hb1⟩
        have HB1 := Lib.hid (grow HB.out hb1)
        clear hb1
        go_wp2_with fail
        go_roundw
        case rel => exact ⟨d + 1, d + 1, n, by omega, by omega, by go_num, by go_num, rfl, by omega, HN2, HB1⟩
        case measure => simp [intOf]; omega
      · have hN := HN.out
        rw [if_neg hb] at hN
        have HN2 := Lib.hid hN
        clear hN HN
        by_cases h4 : 4 ≤ n
        · have t3 : decide ((n : Int) ≥ 4) = true := by simp; omega
          have t4 : decide (y < n) = false := by simp; omega
          clear hb
          go_wp2_with fail
          refine HK.out.mono ?_
          rintro e w1 ⟨rfl, hb1⟩
          have HB1 := Lib.hid (grow HB.out hb1)
          clear hb1
          go_wp2_with fail
          go_roundw
          case rel => exact ⟨d + 1, x, y, by omega, by omega, by go_num, rfl, rfl, by omega, HN2, HB1⟩
          case measure => simp [intOf]; omega
        · have t3 : decide ((n : Int) ≥ 4) = false := by simp; omega
          clear hb
          go_wp2_with fail
          refine HK.out.mono ?_
          rintro e w1 ⟨rfl, hb1⟩
          have HB1 := Lib.hid (grow HB.out hb1)
          clear hb1
          go_wp2_with fail
          go_roundw
          case rel => exact ⟨d + 1, x, y, by omega, by omega, by go_num, rfl, rfl, by omega, HN2, HB1⟩
          case measure => simp [intOf]; omega
    · have he : matchL b a = (x, y) := by
        unfold matchL
        rw [show min a 65535 = d by omega]
        exact HM.out
      obtain rfl : (x, y) = M := he.symm.trans HRES.out
      clear HM he
      by_cases hda : d < a
      · have t1 : decide ((d : Int) + 1 ≤ (a : Int)) = true := by simp; omega
        have t2 : decide ((d : Int) + 1 ≤ 65535) = false := by simp; omega
        go_wp2_with fail
        go_ret2
        exact ⟨rfl, HB.out⟩
      · have t1 : decide ((d : Int) + 1 ≤ (a : Int)) = false := by simp; omega
        go_wp2_with fail
        go_ret2
        exact ⟨rfl, HB.out⟩
end Go.Proofs.Ytoohkhcmakcggaa.LZ
