/-
  The reference's run, Bound, Size and Pack: what the plain lists say. Condition (run): the row stays below 2^40 bytes.
-/
import Derived.Test.YtoohkhcmakcggaaLzRef
set_option linter.unusedVariables false
namespace Go.Proofs.Ytoohkhcmakcggaa.LZ
open Go.RowKit Go.Proofs.Ytoohkhcmakcggaa.MM

/-! ### Bound -/
def boundL (n : Int) : Int := if n < 0 ∨ 16777216 < n then 0 else n + 4 + (n + 127) / 128
set_option maxRecDepth 100000 in
theorem rbound_any (n : Int) (w : World) (h0 : -9223372036854775808 ≤ n) (h1 : n ≤ 9223372036854775807) : Calls Try.prog 11 #[.int .i64 n] w fun e w' => e = .returned (.int .i64 (boundL n)) ∧ w = w' := by
  by_cases hn : n < 0 ∨ 16777216 < n
  · have e : boundL n = 0 := by unfold boundL; rw [if_pos hn]
    rw [e]
    clear e
    by_cases hneg : n < 0
    · have t1 : decide (n < 0) = true := by simp [hneg]
      go_enter Try.func11, Try.ntmps11
      go_wp2_with fail
      go_ret
      exact ⟨rfl, rfl⟩
    · have t1 : decide (n < 0) = false := by simp; omega
      have t2 : decide (n > 16777216) = true := by simp; omega
      go_enter Try.func11, Try.ntmps11
      go_wp2_with fail
      go_ret
      exact ⟨rfl, rfl⟩
  · obtain ⟨m, rfl⟩ := Int.eq_ofNat_of_zero_le (show 0 ≤ n by omega)
    have hm : m ≤ 16777216 := by omega
    have e : boundL (m : Int) = ((m + 4 + (m + 127) / 128 : Nat) : Int) := by unfold boundL; rw [if_neg hn]; omega
    have HE := Lib.hid e
    have t1 : decide ((m : Int) < 0) = false := by simp
    have t2 : decide ((m : Int) > 16777216) = false := by simp; omega
    clear e hn
    go_enter Try.func11, Try.ntmps11
    go_wp2_with fail
    go_ret
    rw [HE.out]
    exact ⟨by go_num, rfl⟩

/-! ### run -/
theorem cells_one {m : Nat} (h : m < 256) : Lib.byteCells [UInt8.ofNat m] = [.int .u8 (m : Int)] := by
  show [Value.int .u8 ((UInt8.ofNat m).toNat : Int)] = _
  rw [toNat_of h]
theorem lit_byte {w : World} {m : Nat} (hm : m < 256) : BRow (w.alloc (.cells #[.int .u8 (m : Int)] 5)) (.slice (some ⟨w.heap.size, 0, none⟩) 1 1) [UInt8.ofNat m] := by
  have h := own_lit w (Lib.byteCells [UInt8.ofNat m]) 5 0 (Nat.zero_le _) (by rw [byteCells_len]; unfold maxLen; simp)
  have hb := BRow.of_own (l := [UInt8.ofNat m]) h
  rw [cells_one hm] at hb
  exact hb
set_option maxRecDepth 100000 in
set_option maxHeartbeats 1000000 in
theorem rrun_any (B : Nat) (o u : Value) (out l : List UInt8) (w : World) (ho : OwnB B w o out) (hu : BIn B w u l) (hl : l.length ≤ 128) (hlen : out.length ≤ 1000000000000) (hB : B ≤ w.heap.size) :
    Calls Try.prog 23 #[o, u] w (PutLeft B (out ++ runB l) w) := by
  obtain ⟨q, capq, rfl, hqc, hqm⟩ := hu.shape
  by_cases h0 : l = []
  · subst h0
    have e : out ++ runB [] = out := by simp [runB]
    rw [e]
    have HO := Lib.hid ho
    clear ho hu e
    go_enter Try.func23, Try.ntmps23
    go_wp2_with fail
    go_ret
    exact ⟨_, rfl, HO.out, Below.refl _ _⟩
  · have hl0 : 0 < l.length := List.length_pos_iff.2 h0
    obtain ⟨m, hm⟩ : ∃ m : Nat, l.length - 1 = m := ⟨_, rfl⟩
    have hmi : (l.length : Int) - 1 = (m : Int) := by omega
    have hm2 : m < 128 := by omega
    have t1 : ((l.length : Int) == 0) = false := by rw [beq_eq_false_iff_ne]; omega
    have e : out ++ runB l = (out ++ [UInt8.ofNat m]) ++ l := by unfold runB; rw [if_neg h0, hm]; simp
    rw [e]
    obtain ⟨X1, hX1⟩ : ∃ X, out ++ [UInt8.ofNat m] = X := ⟨_, rfl⟩
    obtain ⟨X2, hX2⟩ : ∃ X, X1 ++ l = X := ⟨_, rfl⟩
    have hl1 : out.length + ([UInt8.ofNat m] : List UInt8).length ≤ 140737488355328 := by simp; omega
    have hl2 : X1.length + l.length ≤ 140737488355328 := by rw [← hX1, List.length_append]; simp; omega
    rw [hX1, hX2]
    have HX1 := Lib.hid hX1
    have HX2 := Lib.hid hX2
    have hba : Below w.heap.size w (w.alloc (.cells #[.int .u8 (m : Int)] 5)) := (Below.refl _ _).alloc (Nat.le_refl _) _
    have HO := Lib.hid (ho.keep hba)
    have HU := Lib.hid (hu.below (hba.mono hB))
    have HL := Lib.hid (lit_byte (w := w) (m := m) (by omega))
    have hb1 : Below B w (w.alloc (.cells #[.int .u8 (m : Int)] 5)) := hba.mono hB
    have hsz1 := hb1.size
    have hszB : B ≤ (w.alloc (.cells #[.int .u8 (m : Int)] 5)).heap.size := by omega
    clear ho hu e h0 hX1 hX2 hba hm
    generalize [UInt8.ofNat m] = Z at *
    go_enter Try.func23, Try.ntmps23
    go_wp2_with (at_builtin; refine wpList_append_bytes rfl _ _ rfl B _ out rfl HO.out _ Z rfl HL.out hl1 hszB ?_)
    intro v1 w1 hown1 hb2
    rw [HX1.out] at hown1
    have hb3 := hb1.trans hb2
    have hsz3 := hb3.size
    have HO1 := Lib.hid hown1
    have HU1 := Lib.hid ((HU.out.below hb2).row (by omega))
    clear hown1 hb2
    go_wp2_with (at_builtin; refine wpList_append_bytes rfl _ _ rfl B _ X1 rfl HO1.out _ l rfl HU1.out hl2 (by omega) ?_)
    intro v2 w2 hown2 hb4
    rw [HX2.out] at hown2
    have HO2 := Lib.hid hown2
    clear hown2
    go_wp2_with fail
    go_ret
    exact ⟨_, rfl, HO2.out, hb3.trans hb4⟩

/-! ### Pack -/
theorem packF_lit {b : List UInt8} {k f a : Nat} (h1 : a < b.length) (h2 : (matchL b a).2 = 0) (h3 : ¬ a + 1 - f = 128) : packF b (k + 1) f a = packF b k f (a + 1) := by
  rw [packF, if_neg (by omega), if_pos h2, if_neg h3]
theorem packF_full {b : List UInt8} {k f a : Nat} (h1 : a < b.length) (h2 : (matchL b a).2 = 0) (h3 : a + 1 - f = 128) : packF b (k + 1) f a = runB (part b f (a + 1)) ++ packF b k (a + 1) (a + 1) := by
  rw [packF, if_neg (by omega), if_pos h2, if_pos h3]
theorem packF_mat {b : List UInt8} {k f a : Nat} (h1 : a < b.length) (h2 : ¬ (matchL b a).2 = 0) : packF b (k + 1) f a = runB (part b f a) ++ (matB (matchL b a).1 (matchL b a).2 ++ packF b k (a + (matchL b a).2) (a + (matchL b a).2)) := by
  rw [packF, if_neg (by omega), if_neg h2]
theorem part_row {B : Nat} {w : World} {blk off cap : Nat} {b : List UInt8} {i j : Nat} (h : BIn B w (.slice (some ⟨blk, off, none⟩) b.length cap) b) (h1 : i ≤ j) (h2 : j ≤ b.length) (hc : ¬ cap = i) : BIn B w (.slice (some ⟨blk, off + i, none⟩) (j - i) (cap - i)) (part b i j) := by
  have := ((h.drop2 i (by omega)).2 hc).take (j - i) (by omega)
  exact this
theorem lit_four (w : World) (n : Nat) (hn : n ≤ 16777216) : OwnB w.heap.size (w.alloc (.cells #[.int .u8 ((n : Int) / 16777216), .int .u8 ((n : Int) / 65536 % 256), .int .u8 ((n : Int) / 256 % 256), .int .u8 ((n : Int) % 256)] 5)) (.slice (some ⟨w.heap.size, 0, none⟩) 4 4) (fourB n) := by
  have h := own_lit w (Lib.byteCells (fourB n)) 5 w.heap.size (Nat.le_refl _) (by rw [byteCells_len]; unfold maxLen; simp [fourB])
  have e : Lib.byteCells (fourB n) = [.int .u8 ((n : Int) / 16777216), .int .u8 ((n : Int) / 65536 % 256), .int .u8 ((n : Int) / 256 % 256), .int .u8 ((n : Int) % 256)] := by
    simp only [Lib.byteCells, fourB, List.map_cons, List.map_nil, UInt8.toNat_ofNat']
    rw [show ((n / 16777216 % 2 ^ 8 : Nat) : Int) = (n : Int) / 16777216 by omega, show ((n / 65536 % 2 ^ 8 : Nat) : Int) = (n : Int) / 65536 % 256 by omega, show ((n / 256 % 2 ^ 8 : Nat) : Int) = (n : Int) / 256 % 256 by omega, show ((n % 2 ^ 8 : Nat) : Int) = (n : Int) % 256 by omega]
  unfold OwnB
  rw [e] at h ⊢
  exact h
theorem lit_mat (w : World) (x y : Nat) (hx : x ≤ 65535) (hy : y ≤ 131) : BRow (w.alloc (.cells #[.int .u8 ((y : Int) + 124), .int .u8 ((x : Int) / 256), .int .u8 ((x : Int) % 256)] 5)) (.slice (some ⟨w.heap.size, 0, none⟩) 3 3) (matB x y) := by
  have h := own_lit w (Lib.byteCells (matB x y)) 5 0 (Nat.zero_le _) (by rw [byteCells_len]; unfold maxLen; simp [matB])
  have e : Lib.byteCells (matB x y) = [.int .u8 ((y : Int) + 124), .int .u8 ((x : Int) / 256), .int .u8 ((x : Int) % 256)] := by
    simp only [Lib.byteCells, matB, List.map_cons, List.map_nil, UInt8.toNat_ofNat']
    rw [show (((y + 124) % 2 ^ 8 : Nat) : Int) = (y : Int) + 124 by omega, show ((x / 256 % 2 ^ 8 : Nat) : Int) = (x : Int) / 256 by omega, show ((x % 2 ^ 8 : Nat) : Int) = (x : Int) % 256 by omega]
  have hb := BRow.of_own (l := matB x y) h
  rw [e] at hb
  exact hb
/-- Bytes of the call's own, and a number. -/
def PackLeft (B : Nat) (l : List UInt8) (w : World) (e : Ending) (w' : World) : Prop := ∃ v', e = .returned (.tuple #[v', .int .i64 0]) ∧ OwnB B w' v' l ∧ Below B w w'
set_option maxRecDepth 100000 in
set_option maxHeartbeats 2000000 in
theorem rpack_any (v : Value) (b : List UInt8) (w : World) (hr : BRow w v b) (hlen : b.length ≤ 16777216) :
    Calls Try.prog 9 #[v] w (PackLeft w.heap.size (packL b) w) := by
  obtain ⟨p, cap, rfl, hlc, hcm⟩ := hr.shape
  unfold maxLen at hcm
  have hbd := pack_bound b
  obtain ⟨R, hR⟩ : ∃ R, packL b = R := ⟨_, rfl⟩
  have h0 : fourB b.length ++ packF b b.length 0 0 = R := hR
  rw [hR] at hbd ⊢
  have hba : Below w.heap.size w (w.alloc (.cells #[.int .u8 ((b.length : Int) / 16777216), .int .u8 ((b.length : Int) / 65536 % 256), .int .u8 ((b.length : Int) / 256 % 256), .int .u8 ((b.length : Int) % 256)] 5)) := (Below.refl _ _).alloc (Nat.le_refl _) _
  have HO0 := Lib.hid (lit_four w b.length hlen)
  have HR0 := Lib.hid (show BIn w.heap.size w (.slice p b.length cap) b from hr)
  have H0 := Lib.hid h0
  have HBA := Lib.hid hba
  have t0 : decide ((b.length : Int) > 16777216) = false := by simp; omega
  clear hr h0 hR hba
  go_enter Try.func9, Try.ntmps9
  go_wp2_with fail
  go_loopw [5, 6, 7] (fun o fr at_ wr => ∃ (f a k : Nat) (X : List UInt8), f ≤ a ∧ a ≤ b.length ∧ a - f < 128 ∧ b.length - a ≤ k ∧ fr = .int .i64 f ∧ at_ = .int .i64 a ∧ Hid (X ++ packF b k f a = R) ∧ Hid (OwnB w.heap.size wr o X) ∧ Hid (Below w.heap.size w wr)) (fun _ _ at_ _ => b.length - (intOf at_).toNat)
  case atStart => exact ⟨0, 0, b.length, fourB b.length, by omega, by omega, by omega, by omega, rfl, rfl, H0, HO0, HBA⟩
  case round =>
    obtain ⟨f, a, k, X, hfa, hab, h128, hk, rfl, rfl, HX, HO, HB⟩ := hrel
    clear H0 HO0 HBA
    have hXl : X.length ≤ 40000000 := by
      have : (X ++ packF b k f a).length = R.length := by rw [HX.out]
      rw [List.length_append] at this
      omega
    by_cases hlt : a < b.length
    · obtain ⟨k', rfl⟩ : ∃ k', k = k' + 1 := ⟨k - 1, by omega⟩
      have hM := match_any _ b a wr ((HR0.out.below HB.out).row HB.out.size) hab
      have hcf : ¬ cap = f := by omega
      obtain ⟨blk, off, hp, _, _⟩ := (HR0.out).at_ (k := a) hlt
      subst hp
      have hszw := HB.out.size
      rcases matchL_is b a with hm | ⟨m1, m2, m3, m4, m5, m6, m7⟩
      · have hm2 : (matchL b a).2 = 0 := by rw [hm]
        rw [hm] at hM
        have HM := Lib.hid hM
        clear hM
        by_cases hfull : a + 1 - f = 128
        · have hx := HX.out
          rw [packF_full hlt hm2 hfull, ← List.append_assoc] at hx
          have HX2 := Lib.hid hx
          have hpl := part_len (b := b) (i := f) (j := a + 1) (by omega) (by omega)
          have hrow := fun W (h : Below w.heap.size w W) => part_row (i := f) (j := a + 1) (HR0.out.below h) (by omega) (by omega) hcf
          rw [hfull] at hrow
          have HROW := Lib.hid hrow
          have t2 : (((a : Int) + 1 - (f : Int)) == 128) = true := by rw [beq_iff_eq]; omega
          have i1 : (f : Int) ≤ (a : Int) + 1 := by omega
          have i2 : (a : Int) + 1 ≤ (cap : Int) := by omega
          clear hx hrow hm hm2 HX
          go_wp2_with fail
          refine HM.out.mono ?_
          rintro e w1 ⟨rfl, hb1⟩
          have HB1 := Lib.hid (grow HB.out hb1)
          have HO1 := Lib.hid (HO.out.keep hb1)
          have HK := Lib.hid (rrun_any w.heap.size _ _ X _ w1 HO1.out (HROW.out w1 HB1.out) (by omega) (by omega) HB1.out.size)
          clear hb1 HM
          go_wp2_with fail
          refine HK.out.mono ?_
          rintro e w2 ⟨v2, rfl, hown2, hb2⟩
          have HO2 := Lib.hid hown2
          have HB2 := Lib.hid (HB1.out.trans hb2)
          clear hown2 hb2 HK HO1
          go_wp2_with fail
          go_roundw
          case rel => exact ⟨a + 1, a + 1, k', _, by omega, by omega, by omega, by omega, by go_num, by go_num, HX2, HO2, HB2⟩
          case measure => simp [intOf]; omega
        · have hx := HX.out
          rw [packF_lit hlt hm2 hfull] at hx
          have HX2 := Lib.hid hx
          have t2 : (((a : Int) + 1 - (f : Int)) == 128) = false := by rw [beq_eq_false_iff_ne]; omega
          clear hx hm hm2 HX
          go_wp2_with fail
          refine HM.out.mono ?_
          rintro e w1 ⟨rfl, hb1⟩
          have HB1 := Lib.hid (grow HB.out hb1)
          have HO1 := Lib.hid (HO.out.keep hb1)
          clear hb1 HM
          go_wp2_with fail
          go_roundw
          case rel => exact ⟨f, a + 1, k', X, by omega, by omega, by omega, by omega, rfl, by go_num, HX2, HO1, HB1⟩
          case measure => simp [intOf]; omega
      · have hx := HX.out
        rw [packF_mat hlt (by omega), ← List.append_assoc, ← List.append_assoc] at hx
        generalize (matchL b a).1 = x at *
        generalize (matchL b a).2 = y at *
        have HX2 := Lib.hid hx
        have HM := Lib.hid hM
        have hpl := part_len (b := b) (i := f) (j := a) hfa hab
        have hrow := fun W (h : Below w.heap.size w W) => part_row (i := f) (j := a) (HR0.out.below h) hfa hab hcf
        have HROW := Lib.hid hrow
        have t2 : ((y : Int) == 0) = false := by rw [beq_eq_false_iff_ne]; omega
        have i1 : (f : Int) ≤ (a : Int) := by omega
        have i2 : (a : Int) ≤ (cap : Int) := by omega
        clear hx hM hrow m7 HX
        go_wp2_with fail
        refine HM.out.mono ?_
        rintro e w1 ⟨rfl, hb1⟩
        have HB1 := Lib.hid (grow HB.out hb1)
        have HO1 := Lib.hid (HO.out.keep hb1)
        have HK := Lib.hid (rrun_any w.heap.size _ _ X _ w1 HO1.out (HROW.out w1 HB1.out) (by omega) (by omega) HB1.out.size)
        clear hb1 HM HO
        go_wp2_with fail
        refine HK.out.mono ?_
        rintro e w2 ⟨v2, rfl, hown2, hb2⟩
        obtain ⟨Y1, hY1⟩ : ∃ Y, X ++ runB (part b f a) = Y := ⟨_, rfl⟩
        rw [hY1] at hown2 HX2
        have hY1l : Y1.length ≤ 40000200 := by
          rw [← hY1, List.length_append]
          have := (runB_len (part b f a)).1
          omega
        obtain ⟨Y2, hY2⟩ : ∃ Y, Y1 ++ matB x y = Y := ⟨_, rfl⟩
        rw [hY2] at HX2
        have HY2 := Lib.hid hY2
        have hba : Below w2.heap.size w2 (w2.alloc (.cells #[.int .u8 ((y : Int) + 124), .int .u8 ((x : Int) / 256), .int .u8 ((x : Int) % 256)] 5)) := (Below.refl _ _).alloc (Nat.le_refl _) _
        have HB2 := Lib.hid (HB1.out.trans hb2)
        have HB2a := Lib.hid (HB2.out.trans (hba.mono HB2.out.size))
        have HO2 := Lib.hid (hown2.keep hba)
        have HL := Lib.hid (lit_mat w2 x y m3 m5)
        have hml : (matB x y).length = 3 := rfl
        have hl1 : Y1.length + (matB x y).length ≤ 140737488355328 := by omega
        have hsz2 := HB2a.out.size
        generalize matB x y = Z at *
        clear hown2 hb2 hba HK HO1 hY1 hY2 hml
        go_wp2_with (at_builtin; refine wpList_append_bytes rfl _ _ rfl w.heap.size _ Y1 rfl HO2.out _ Z rfl HL.out hl1 hsz2 ?_)
        intro v3 w3 hown3 hb3
        rw [HY2.out] at hown3
        have HO3 := Lib.hid hown3
        have HB3 := Lib.hid (HB2a.out.trans hb3)
        clear hown3 hb3
        go_wp2_with fail
        go_roundw
        case rel => exact ⟨a + y, a + y, k', Y2, by omega, by omega, by omega, by omega, by go_num, by go_num, HX2, HO3, HB3⟩
        case measure => simp [intOf]; omega
    · obtain rfl : a = b.length := by omega
      have hx := HX.out
      rw [packF_end (Nat.le_refl _)] at hx
      have hK := fun u (hu : BIn w.heap.size wr u (b.drop f)) => rrun_any w.heap.size _ u X (b.drop f) wr HO.out hu (by rw [List.length_drop]; omega) (by omega) HB.out.size
      rw [hx] at hK
      have HK := Lib.hid hK
      have HD := Lib.hid ((HR0.out.below HB.out).drop3 f hfa)
      clear hx hK HX HO
      go_wp2_with fail
      all_goals
        refine (HK.out _ (by first | exact HD.out.1 (by assumption) | exact HD.out.2 (by assumption))).mono ?_
        rintro e w2 ⟨v2, rfl, hown2, hb2⟩
        have HO2 := Lib.hid hown2
        have HB2 := Lib.hid (HB.out.trans hb2)
        clear hown2 hb2
        go_wp2_with fail
        go_ret2
        exact ⟨_, rfl, HO2.out, HB2.out⟩
end Go.Proofs.Ytoohkhcmakcggaa.LZ
