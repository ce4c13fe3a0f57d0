/-
  A text's places and what is there, by the reference. Condition: a text is no longer than memory bears.
-/
import Derived.Test.YtjogjmkfkmbjdaaBlmNum
set_option linter.unusedVariables false
namespace Go.Proofs.Ytjogjmkfkmbjdaa.BL
open Go.RowKit Go.Proofs.Ytjogjmkfkmbjdaa.MM Go.Proofs.Ytjogjmkfkmbjdaa.BM

theorem place_int (a b i n : Nat) (ha : a < 4294967296) (hb : b ≤ 4294967296) (hi : i < 4) (hn0 : 8 ≤ n) (hn1 : n ≤ 131072) :
    wrap64 ((IntKind.u64.wrap ((a : Int) + IntKind.u64.wrap ((i : Int) * (b : Int)))).tmod (8 * (n : Int))) = (((a + i * b) % (8 * n) : Nat) : Int) := by
  have hm : i * b ≤ 4 * 4294967296 := Nat.mul_le_mul (by omega) hb
  have e1 : (i : Int) * (b : Int) = ((i * b : Nat) : Int) := by simp
  rw [e1]
  generalize i * b = X at *
  have e2 : IntKind.u64.wrap (X : Int) = (X : Int) := by rw [wrap_u64]; omega
  rw [e2]
  have e3 : IntKind.u64.wrap ((a : Int) + (X : Int)) = ((a + X : Nat) : Int) := by rw [wrap_u64]; omega
  rw [e3, show (8 * (n : Int)) = ((8 * n : Nat) : Int) by omega, ← Int.ofNat_tmod]
  have hl : (a + X) % (8 * n) < 8 * n := Nat.mod_lt _ (by omega)
  generalize (a + X) % (8 * n) = Z at *
  unfold wrap64
  omega
theorem place_even (s : List UInt8) (N i n : Nat) (hN : numL s = (N : Int)) (hN2 : N < 18446744073709551616) (hi : i < 4) (hn0 : 8 ≤ n) (hn1 : n ≤ 131072) (h : (N : Int) / 4294967296 % 2 = 0) :
    wrap64 ((IntKind.u64.wrap ((N : Int) % 4294967296 + IntKind.u64.wrap ((i : Int) * ((N : Int) / 4294967296 + 1)))).tmod (8 * (n : Int))) = ((placeL (8 * n) s i : Nat) : Int) := by
  have e1 : firstL s = N % 4294967296 := by unfold firstL; rw [hN]; omega
  have e2 : secondL s = N / 4294967296 + 1 := by unfold secondL halfL; rw [hN, if_pos (by omega)]; omega
  unfold placeL
  rw [e1, e2, ← place_int (N % 4294967296) (N / 4294967296 + 1) i n (by omega) (by omega) hi hn0 hn1]
  congr 1
theorem place_odd (s : List UInt8) (N i n : Nat) (hN : numL s = (N : Int)) (hN2 : N < 18446744073709551616) (hi : i < 4) (hn0 : 8 ≤ n) (hn1 : n ≤ 131072) (h : ¬ (N : Int) / 4294967296 % 2 = 0) :
    wrap64 ((IntKind.u64.wrap ((N : Int) % 4294967296 + IntKind.u64.wrap ((i : Int) * ((N : Int) / 4294967296)))).tmod (8 * (n : Int))) = ((placeL (8 * n) s i : Nat) : Int) := by
  have e1 : firstL s = N % 4294967296 := by unfold firstL; rw [hN]; omega
  have e2 : secondL s = N / 4294967296 := by unfold secondL halfL; rw [hN, if_neg (by omega)]; omega
  unfold placeL
  rw [e1, e2, ← place_int (N % 4294967296) (N / 4294967296) i n (by omega) (by omega) hi hn0 hn1]
  congr 1

set_option maxRecDepth 100000 in
set_option maxHeartbeats 1000000 in
theorem rbit_any (p : Option Addr) (n cap : Nat) (s : List UInt8) (i : Nat) (w : World) (hs : s.length ≤ 1000000000000) (hn0 : 8 ≤ n) (hn1 : n ≤ 131072) (hi : i < 4) :
    Calls Try.prog 25 #[.agg #[.slice p n cap], .string ⟨s.toArray⟩, .int .i64 i] w fun e w' => e = .returned (.int .i64 (placeL (8 * n) s i : Nat)) ∧ Below w.heap.size w w' := by
  have HK := Lib.hid (fun W => rnum_any s W hs)
  obtain ⟨N, hN⟩ : ∃ N : Nat, numL s = (N : Int) := ⟨(numL s).toNat, by have := (numL_range s).1; omega⟩
  rw [hN] at HK
  have hr := (numL_range s).2
  rw [hN] at hr
  have hN2 : N < 18446744073709551616 := by omega
  clear hr
  have HP := Lib.hid (place_even s N i n hN hN2 hi hn0 hn1)
  have HQ := Lib.hid (place_odd s N i n hN hN2 hi hn0 hn1)
  obtain ⟨R, hR⟩ : ∃ R, placeL (8 * n) s i = R := ⟨_, rfl⟩
  rw [hR] at HP HQ ⊢
  clear hN hR
  have HB := Lib.hid (fun o => (Below.refl w.heap.size w).alloc (Nat.le_refl _) o)
  by_cases h : (N : Int) / 4294967296 % 2 = 0
  · have hp := HP.out h
    have t1 : ((N : Int) / 4294967296 % 2 == 0) = true := by rw [beq_iff_eq]; exact h
    have HE := Lib.hid hp
    clear HP HQ h hp
    go_enter Try.func25, Try.ntmps25
    go_wp2_with fail
    refine (HK.out _).mono ?_
    rintro e w1 ⟨rfl, rfl⟩
    go_wp2_with fail
    go_ret
    exact ⟨congrArg (fun z => Ending.returned (.int .i64 z)) HE.out, HB.out _⟩
  · have hp := HQ.out h
    have t1 : ((N : Int) / 4294967296 % 2 == 0) = false := by rw [beq_eq_false_iff_ne]; exact h
    have HE := Lib.hid hp
    clear HP HQ h hp
    go_enter Try.func25, Try.ntmps25
    go_wp2_with fail
    refine (HK.out _).mono ?_
    rintro e w1 ⟨rfl, rfl⟩
    go_wp2_with fail
    go_ret
    exact ⟨congrArg (fun z => Ending.returned (.int .i64 z)) HE.out, HB.out _⟩

/-! ### has -/
theorem bit_all : ∀ c : Fin 256, ∀ j : Fin 8, ((c.val : Int) / ((2 : Int) ^ j.val % 256) % 2 == 1) = bitB (UInt8.ofNat c.val) j.val := by decide +kernel
theorem bit_int (c : UInt8) {j : Nat} (hj : j < 8) : ((c.toNat : Int) / ((2 : Int) ^ j % 256) % 2 == 1) = bitB c j := by
  have := bit_all ⟨c.toNat, c.toNat_lt⟩ ⟨j, hj⟩
  have e : UInt8.ofNat c.toNat = c := by simp
  dsimp only at this
  rw [e] at this
  exact this
theorem two_not0 : ∀ j : Fin 8, ¬ (2 : Int) ^ j.val % 256 = 0 := by decide +kernel
theorem has_at {L : List UInt8} {k : Nat} (hk : k / 8 < L.length) : hasL L k = bitB L[k / 8] (k % 8) := by
  unfold hasL
  simp [List.getD, hk]
set_option maxRecDepth 100000 in
set_option maxHeartbeats 1000000 in
theorem rhas_any (v : Value) (L : List UInt8) (k : Nat) (w : World) (h : BRow w v L) (hn1 : L.length ≤ 131072) (hk : k < 8 * L.length) :
    Calls Try.prog 26 #[.agg #[v], .int .i64 k] w fun e w' => e = .returned (.bool (hasL L k)) ∧ Below w.heap.size w w' := by
  have hb : Below w.heap.size w (w.alloc (.cells #[v] 30)) := (Below.refl _ _).alloc (Nat.le_refl _) _
  have h1 := h.below hb
  obtain ⟨p, cap, rfl, hlc, hcm⟩ := h.shape
  obtain ⟨b, off, rfl, hbl, hcell⟩ := h.at_ (show k / 8 < L.length by omega)
  have hc1 := fun o => (((Below.refl w.heap.size w).alloc (Nat.le_refl _) o).cell (p := ⟨b, off + k / 8, none⟩) hbl).trans hcell
  have hz := two_not0 ⟨k % 8, Nat.mod_lt _ (by decide)⟩
  dsimp only at hz
  have he := bit_int L[k / 8] (j := k % 8) (Nat.mod_lt _ (by decide))
  rw [← has_at] at he
  have HE := Lib.hid he
  have HB := Lib.hid (fun o => (Below.refl w.heap.size w).alloc (Nat.le_refl _) o)
  clear hcell hb h1 h he
  go_enter Try.func26, Try.ntmps26
  go_wp2_with fail
  go_ret
  exact ⟨congrArg (fun z => Ending.returned (.bool z)) HE.out, HB.out _⟩
end Go.Proofs.Ytjogjmkfkmbjdaa.BL
