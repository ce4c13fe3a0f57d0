/-
  The code's appendHead, appendMatch, appendRuns: what the plain lists say. Condition: rows stay below 2^40 bytes.
-/
import Derived.Test.YtoohkhcmakcggaaLzOrd2
import Derived.Test.YtoohkhcmakcggaaLzRuns
set_option linter.unusedVariables false
namespace Go.Proofs.Ytoohkhcmakcggaa.LZ
open Go.RowKit Go.Proofs.Ytoohkhcmakcggaa.MM

set_option maxRecDepth 100000 in
theorem ahead_any (B n : Nat) (v : Value) (l : List UInt8) (w : World) (ho : OwnB B w v l) (hn : n ≤ 16777216) (hl : l.length ≤ 1000000000000) (hB : B ≤ w.heap.size) :
    Calls Try.prog 17 #[v, .int .i64 n] w (PutLeft B (l ++ fourB n) w) := by
  obtain ⟨X, hX⟩ : ∃ X, l ++ fourB n = X := ⟨_, rfl⟩
  rw [hX]
  have HX := Lib.hid hX
  have hba : ∀ o, Below w.heap.size w (w.alloc o) := fun o => (Below.refl _ _).alloc (Nat.le_refl _) _
  have HBA := Lib.hid hba
  have HO := Lib.hid (fun o => ho.keep (hba o))
  have HL := Lib.hid (lit_four w n hn).brow
  have h4 : (fourB n).length = 4 := rfl
  have hl1 : l.length + (fourB n).length ≤ 140737488355328 := by omega
  have hsz : ∀ o, B ≤ (w.alloc o).heap.size := fun o => by have := (hba o).size; omega
  generalize fourB n = Z at *
  clear ho hX hba
  go_enter Try.func17, Try.ntmps17
  go_wp2_with (at_builtin; go_loud (refine wpList_append_bytes rfl _ _ rfl B _ l rfl (HO.out _) _ Z rfl HL.out hl1 (hsz _) ?_))
  intro v3 w3 hown3 hb3
  rw [HX.out] at hown3
  have HO3 := Lib.hid hown3
  have HB3 := Lib.hid (((HBA.out _).mono hB).trans hb3)
  clear hown3 hb3
  go_wp2_with fail
  go_ret
  exact ⟨_, rfl, HO3.out, HB3.out⟩
set_option maxRecDepth 100000 in
theorem amat_any (B x y : Nat) (v : Value) (l : List UInt8) (w : World) (ho : OwnB B w v l) (hx : x ≤ 65535) (hy : y ≤ 131) (h4 : 4 ≤ y) (hl : l.length ≤ 1000000000000) (hB : B ≤ w.heap.size) :
    Calls Try.prog 20 #[v, .int .i64 y, .int .i64 x] w (PutLeft B (l ++ matB x y) w) := by
  obtain ⟨X, hX⟩ : ∃ X, l ++ matB x y = X := ⟨_, rfl⟩
  rw [hX]
  have HX := Lib.hid hX
  have hba : ∀ o, Below w.heap.size w (w.alloc o) := fun o => (Below.refl _ _).alloc (Nat.le_refl _) _
  have HBA := Lib.hid hba
  have HO := Lib.hid (fun o => ho.keep (hba o))
  have hlit := lit_mat w x y hx hy
  rw [show (y : Int) + 124 = 128 + (y : Int) - 4 by omega] at hlit
  have HL := Lib.hid hlit
  have hl3 : (matB x y).length = 3 := rfl
  have hl1 : l.length + (matB x y).length ≤ 140737488355328 := by omega
  have hsz : ∀ o, B ≤ (w.alloc o).heap.size := fun o => by have := (hba o).size; omega
  generalize matB x y = Z at *
  clear ho hX hba hlit
  go_enter Try.func20, Try.ntmps20
  go_wp2_with (at_builtin; go_loud (refine wpList_append_bytes rfl _ _ rfl B _ l rfl (HO.out _) _ Z rfl HL.out hl1 (hsz _) ?_))
  intro v3 w3 hown3 hb3
  rw [HX.out] at hown3
  have HO3 := Lib.hid hown3
  have HB3 := Lib.hid (((HBA.out _).mono hB).trans hb3)
  clear hown3 hb3
  go_wp2_with fail
  go_ret
  exact ⟨_, rfl, HO3.out, HB3.out⟩

theorem runs_step {m : List UInt8} {c : Nat} (h : m ≠ []) (hc : min m.length 128 = c) : runsL m = UInt8.ofNat (c - 1) :: (m.take c ++ runsL (m.drop c)) := by
  have hp := List.length_pos_iff.2 h
  rw [runsL_cons h]
  by_cases h1 : m.length ≤ 128
  · obtain rfl : c = m.length := by omega
    rw [List.take_of_length_le h1, List.drop_eq_nil_of_le h1, List.take_length, List.drop_length]
    unfold runB
    rw [if_neg h]
    rfl
  · obtain rfl : c = 128 := by omega
    have hl : (m.take 128).length = 128 := by rw [List.length_take]; omega
    have hne : m.take 128 ≠ [] := fun e => by rw [e] at hl; simp at hl
    unfold runB
    rw [if_neg hne, hl]
    rfl
set_option maxRecDepth 100000 in
set_option maxHeartbeats 2000000 in
theorem aruns_any (B0 B : Nat) (o u : Value) (out l : List UInt8) (w : World) (ho : OwnB B w o out) (hu : BIn B0 w u l) (hlen : out.length + 2 * l.length ≤ 1000000000000) (h0 : B0 ≤ B) (hB : B ≤ w.heap.size) :
    Calls Try.prog 21 #[o, u] w (PutLeft B (out ++ runsL l) w) := by
  obtain ⟨RES, hRES⟩ : ∃ RES, out ++ runsL l = RES := ⟨_, rfl⟩
  rw [hRES]
  have H0 := Lib.hid hRES
  have HO0 := Lib.hid ho
  have HU0 := Lib.hid hu
  have HB0 := Lib.hid (Below.refl B w)
  clear ho hu hRES
  go_enter Try.func21, Try.ntmps21
  go_wp2_with fail
  go_loopw [0, 1] (fun o u wr => ∃ (X m : List UInt8), X.length + 2 * m.length ≤ 1000000000000 ∧ Hid (X ++ runsL m = RES) ∧ Hid (OwnB B wr o X) ∧ Hid (BIn B0 wr u m) ∧ Hid (Below B w wr)) (fun _ u _ => match u with | .slice _ n _ => n | _ => 0)
  case atStart => exact ⟨out, l, hlen, H0, HO0, HU0, HB0⟩
  case round =>
    obtain ⟨X, m, hXm, HX, HO, HU, HB⟩ := hrel
    clear H0 HO0 HU0 HB0
    obtain ⟨p, cap, rfl, hmc, hcm⟩ := HU.out.shape
    obtain ⟨px, capx, rfl, _, _⟩ := HO.out.brow.shape
    unfold maxLen at hcm
    by_cases hm0 : m = []
    · subst hm0
      have hx := HX.out
      rw [runsL_nil, List.append_nil] at hx
      subst hx
      go_wp2_with fail
      go_ret
      exact ⟨_, rfl, HO.out, HB.out⟩
    · have hpos := List.length_pos_iff.2 hm0
      have hx := HX.out
      obtain ⟨c, hc⟩ : ∃ c : Nat, min m.length 128 = c := ⟨_, rfl⟩
      rw [runs_step hm0 hc] at hx
      have hc1 : 1 ≤ c := by omega
      have hc2 : c ≤ 128 := by omega
      have hc3 : c ≤ m.length := by omega
      have hmin : min (m.length : Int) 128 = (c : Int) := by omega
      have hmin2 : (if (128 : Int) < (m.length : Int) then (128 : Int) else (m.length : Int)) = (c : Int) := by split <;> omega
      obtain ⟨d, hd⟩ : ∃ d, c - 1 = d := ⟨_, rfl⟩
      have hdi : (c : Int) - 1 = (d : Int) := by omega
      rw [hd] at hx
      have hd9 : d < 256 := by omega
      obtain ⟨P, hP⟩ : ∃ P, m.take c = P := ⟨_, rfl⟩
      have hPl : P.length = c := by rw [← hP, List.length_take]; omega
      obtain ⟨Y, hY⟩ : ∃ Y, X ++ [UInt8.ofNat d] = Y := ⟨_, rfl⟩
      have hYl : Y.length = X.length + 1 := by rw [← hY]; simp
      obtain ⟨Z, hZ⟩ : ∃ Z, Y ++ P = Z := ⟨_, rfl⟩
      have hZl : Z.length = X.length + 1 + c := by rw [← hZ, List.length_append]; omega
      rw [hP] at hx
      rw [show X ++ UInt8.ofNat d :: (P ++ runsL (m.drop c)) = Z ++ runsL (m.drop c) by rw [← hZ, ← hY]; simp] at hx
      have hdl : (m.drop c).length = m.length - c := List.length_drop
      have hD := BIn.drop3 (show BIn B0 wr (.slice p m.length cap) m from HU.out) c hc3
      have hDg := BIn.drop (show BIn B0 wr (.slice p m.length cap) m from HU.out) c hc3
      have hT := BIn.take (show BIn B0 wr (.slice p m.length cap) m from HU.out) c hc3
      rw [hP] at hT
      generalize m.drop c = m2 at *
      have HX2 := Lib.hid hx
      have HD := Lib.hid hD
      have HDG := Lib.hid hDg
      have HT := Lib.hid hT
      have HDL := Lib.hid hdl
      have HZL := Lib.hid hZl
      have hszw := HB.out.size
      have hba : Below wr.heap.size wr (wr.alloc (.cells #[.int .u8 (d : Int)] 5)).drew := ((Below.refl _ _).alloc (Nat.le_refl _) _).drew
      have HOa := Lib.hid (HO.out.keep hba)
      have HBA := Lib.hid hba
      have HL := Lib.hid (show BRow (wr.alloc (.cells #[.int .u8 (d : Int)] 5)).drew (.slice (some ⟨wr.heap.size, 0, none⟩) 1 1) [UInt8.ofNat d] from lit_byte hd9)
      have hne : [UInt8.ofNat d] ≠ [] := by simp
      have hneP : P ≠ [] := fun e => by rw [e] at hPl; simp at hPl; omega
      have hl1 : X.length + [UInt8.ofNat d].length ≤ 140737488355328 := by simp; omega
      have hl2 : Y.length + P.length ≤ 140737488355328 := by omega
      have hszB : B ≤ ((wr.alloc (.cells #[.int .u8 (d : Int)] 5)).drew).heap.size := by have := hba.size; omega
      have HC := Lib.hid hc
      have i1 : (c : Int) ≤ (cap : Int) := by omega
      have i2 : (0 : Int) ≤ (c : Int) := by omega
      have hw1 : IntKind.i64.wrap (d : Int) = (d : Int) := by rw [IntKind.wrap_i64]; omega
      have hw2 : IntKind.u8.wrap (d : Int) = (d : Int) := by rw [IntKind.wrap_u8]; omega
      clear hDg hx hc hd hP hPl hYl hZl hdl hD hT hba hm0
      go_wp2_with fail
      go_region_law (first | (refine step_append_bytes rfl (.tmp 12) (.tmp 16) rfl B _ X rfl HOa.out _ [UInt8.ofNat d] rfl HL.out hne hl1 hszB ?_; intro v3 w3 hown3 hb3; rw [hY] at hown3; obtain ⟨p3, cap3, rfl, _, _⟩ := hown3.brow.shape; have HO3 := Lib.hid hown3; have HB3 := Lib.hid (((HB.out.trans (HBA.out.mono (by omega))).trans hb3)); have HBr := Lib.hid (Below.trans (Below.mono (B' := B0) HBA.out (by omega)) (hb3.mono h0)); have hT3 := HT.out.below HBr.out; have hB3 := Nat.le_trans hB HB3.out.size; have HT3 := Lib.hid (hT3.row (by omega)); clear hown3 hb3 hT3) | (refine step_append_bytes rfl (.tmp 17) (.tmp 20) rfl B _ Y rfl HO3.out _ P rfl HT3.out hneP hl2 hB3 ?_; intro v4 w4 hown4 hb4; rw [hZ] at hown4; obtain ⟨p4, cap4, rfl, _, _⟩ := hown4.brow.shape; have HO4 := Lib.hid hown4; have HB4 := Lib.hid (HB3.out.trans hb4); have HU4 := Lib.hid (HBr.out.trans (hb4.mono h0)); clear hown4 hb4))
      all_goals (
        have HR4 := Lib.hid (fun u (h : BIn B0 wr u m2) => h.below HU4.out)
        clear HO3 HB3 HT3 HBr HU4 HOa HL hmin hmin2 hw1 hw2
        go_wp2_with fail)
      all_goals (
        go_roundw
        case rel =>
          have hdl := HDL.out
          have hzl := HZL.out
          refine ⟨Z, m2, by omega, HX2, HO4, Lib.hid (HR4.out _ ?_), HB4⟩
          exact (by first | exact HDG.out | exact HD.out.1 (by assumption) | exact HD.out.2 (by assumption))
        case measure => simp; omega)
end Go.Proofs.Ytoohkhcmakcggaa.LZ
