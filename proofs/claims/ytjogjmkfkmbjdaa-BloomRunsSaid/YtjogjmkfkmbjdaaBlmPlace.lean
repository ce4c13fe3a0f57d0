/-
  A text's places, by the code. Condition: a text is no longer than memory bears.
-/
import Derived.Test.YtjogjmkfkmbjdaaBlmBit
set_option linter.unusedVariables false
namespace Go.Proofs.Ytjogjmkfkmbjdaa.BL
open Go.RowKit Go.Proofs.Ytjogjmkfkmbjdaa.MM Go.Proofs.Ytjogjmkfkmbjdaa.BM

/-- The first n places of the block hold the text's. -/
def Pl (m : Nat) (s : List UInt8) (B n : Nat) (w : World) : Prop := ∃ cur : Array Value, w.heap[B]? = some (.cells cur 58 (0, 0)) ∧ cur.size = 4 ∧ ∀ k, k < n → cur[k]? = some (.int .i64 (placeL m s k : Nat))
theorem Pl.there {m B n : Nat} {s : List UInt8} {w : World} (h : Pl m s B n w) {k : Nat} (hk : k < 4) : ∃ v, w.cell? ⟨B, k, none⟩ = some v := by
  obtain ⟨cur, hb, hs, _⟩ := h
  exact ⟨cur[k], by rw [cell_of_row w B k cur _ _ hb]; simp [hs, hk]⟩
theorem Pl.free {m B n : Nat} {s : List UInt8} {w : World} (h : Pl m s B n w) (k : Nat) : w.frozen? ⟨B, k, none⟩ = false := by
  obtain ⟨cur, hb, _, _⟩ := h
  exact frozen_of_row w B k cur _ hb
theorem Pl.put {m B n : Nat} {s : List UInt8} {w : World} (h : Pl m s B n w) (hn : n < 4) : Pl m s B (n + 1) (w.setCell ⟨B, n, none⟩ (.int .i64 (placeL m s n : Nat))) := by
  obtain ⟨cur, hb, hs, hc⟩ := h
  refine ⟨_, heap_setCell_same w B n cur _ _ hb, by simp [hs], fun k hk => ?_⟩
  by_cases hkn : k = n
  · subst hkn
    simp [hs, hn]
  · rw [Array.getElem?_setIfInBounds_ne (by omega)]
    exact hc k (by omega)
/-- A text's four places. -/
def plA (m : Nat) (s : List UInt8) : Array Value := #[.int .i64 (placeL m s 0 : Nat), .int .i64 (placeL m s 1 : Nat), .int .i64 (placeL m s 2 : Nat), .int .i64 (placeL m s 3 : Nat)]
theorem Pl.all {m B : Nat} {s : List UInt8} {w : World} (h : Pl m s B 4 w) : w.heap[B]? = some (.cells (plA m s) 58 (0, 0)) := by
  obtain ⟨cur, hb, hs, hc⟩ := h
  have : cur = plA m s := by
    apply Array.ext_getElem?
    intro k
    by_cases hk : k < 4
    · rw [hc k hk]
      match k, hk with
      | 0, _ => rfl
      | 1, _ => rfl
      | 2, _ => rfl
      | 3, _ => rfl
    · rw [Array.getElem?_eq_none (by omega), Array.getElem?_eq_none (by simp [plA]; omega)]
  rw [← this]
  exact hb
theorem plA_one (m : Nat) (s : List UInt8) : (plA m s).all (·.oneCell') = true := by
  simp only [plA, List.all_toArray, List.all_cons, List.all_nil]
  rfl
theorem infoFour : (Try.prog.info? 58).map (·.size) = some 4 := by kernel_rfl
theorem zero_four : ∃ Z : Array Value, Z.size = 4 ∧ ∀ W, Sem.run Try.prog (zeroValue 58) W = .ok (.agg Z) W :=
  ⟨#[.int .i64 0, .int .i64 0, .int .i64 0, .int .i64 0], rfl, fun W => by kernel_rfl⟩
theorem below_setRow {B g : Nat} {a w : World} (cs : Array Value) (h : Below B a w) (hg : B ≤ g) : Below B a (w.setRow g cs) :=
  ⟨h.os, h.tape, h.output, by rw [setRow_size]; exact h.size, fun i hi => by rw [setRow_other w g i cs (by omega)]; exact h.block i hi⟩
theorem and_all (N : Nat) (hN : N < 18446744073709551616) : bits .and .u64 (N : Int) 4294967295 = (N : Int) % 4294967296 := by
  have := bits_and_u64_nat N 4294967295 hN (by decide)
  rw [show (4294967295 : Int) = ((4294967295 : Nat) : Int) from rfl, this]
  have e : N &&& 4294967295 = N % 4294967296 := Nat.and_two_pow_sub_one_eq_mod N 32
  rw [e]
  omega
theorem or_one (Q : Nat) (hQ : Q < 4294967296) : bits .or .u64 (Q : Int) 1 = ((if Q % 2 = 0 then Q + 1 else Q : Nat) : Int) := by
  have := bits_or_u64_nat Q 1 (by omega) (by decide)
  rw [show (1 : Int) = ((1 : Nat) : Int) from rfl, this]
  congr 1
  apply Nat.eq_of_testBit_eq
  intro i
  rw [Nat.testBit_or]
  by_cases h : Q % 2 = 0
  · rw [if_pos h]
    cases i with
    | zero => simp [Nat.testBit_zero]; omega
    | succ i =>
      simp only [Nat.testBit_succ]
      rw [show (Q + 1) / 2 = Q / 2 by omega]
      simp
  · rw [if_neg h]
    cases i with
    | zero => simp [Nat.testBit_zero]; omega
    | succ i => simp [Nat.testBit_succ]

set_option maxRecDepth 100000 in
set_option maxHeartbeats 1000000 in
theorem places_any (s : List UInt8) (n : Nat) (w : World) (hs : s.length ≤ 1000000000000) (hn0 : 8 ≤ n) (hn1 : n ≤ 131072) :
    Calls Try.prog 28 #[.string ⟨s.toArray⟩, .int .i64 (8 * (n : Int))] w fun e w' => e = .returned (.agg (plA (8 * n) s)) ∧ Below w.heap.size w w' := by
  have HK := Lib.hid (fun W => cnum_any s W hs)
  obtain ⟨N, hN⟩ : ∃ N : Nat, numL s = (N : Int) := ⟨(numL s).toNat, by have := (numL_range s).1; omega⟩
  rw [hN] at HK
  have hr := (numL_range s).2
  rw [hN] at hr
  have hN2 : N < 18446744073709551616 := by omega
  clear hr
  have hand := and_all N hN2
  have hor := or_one (N / 4294967296) (by omega)
  have e1 : firstL s = N % 4294967296 := by unfold firstL; rw [hN]; omega
  have e2 : secondL s = if N / 4294967296 % 2 = 0 then N / 4294967296 + 1 else N / 4294967296 := by
    have eh : halfL s = N / 4294967296 := by unfold halfL; rw [hN]; omega
    unfold secondL; rw [eh]
  rw [← e2, show ((N / 4294967296 : Nat) : Int) = (N : Int) / 4294967296 by omega] at hor
  have hf := firstL_lt s
  have hsc := secondL_lt s
  have HPL := Lib.hid (fun i (hi : i < 4) => place_int (firstL s) (secondL s) i n hf (by omega) hi hn0 hn1)
  have HPI : Hid (∀ i, (firstL s + i * secondL s) % (8 * n) = placeL (8 * n) s i) := Lib.hid (fun i => rfl)
  have hand2 : bits .and .u64 (N : Int) 4294967295 = (firstL s : Int) := by rw [hand, e1]; omega
  obtain ⟨P, hP⟩ : ∃ P, plA (8 * n) s = P := ⟨_, rfl⟩
  have HAll := Lib.hid (fun W (h : Pl (8 * n) s w.heap.size 4 W) => hP ▸ h.all)
  have HP4 : Hid (P.size = 4) := Lib.hid (hP ▸ rfl)
  have HP1 : Hid (P.all (·.oneCell') = true) := Lib.hid (hP ▸ plA_one _ _)
  rw [hP]
  clear hP hand e1 e2 hN
  generalize firstL s = a at *
  generalize secondL s = b at *
  obtain ⟨Z, hZ, hz⟩ := zero_four
  have ht0 : Pl (8 * n) s w.heap.size 0 (w.alloc (.cells Z 58)) := ⟨Z, heap_alloc_new _ _, hZ, fun k hk => by omega⟩
  have hb0 : Below w.heap.size w (w.alloc (.cells Z 58)) := (Below.refl _ _).alloc (Nat.le_refl _) _
  have HT0 := Lib.hid ht0
  have HB0 := Lib.hid hb0
  clear ht0 hb0 hZ
  have HAND := Lib.hid hand2
  have HOR := Lib.hid hor
  clear hand2 hor
  go_enter Try.func28, Try.ntmps28
  go_wp2_with fail
  refine (HK.out _).mono ?_
  rintro e w1 ⟨rfl, rfl⟩
  go_wp2_with fail
  rw [HAND.out, HOR.out]
  clear HAND HOR HK hz
  go_loopw [16] (fun iv wr => ∃ i : Nat, i ≤ 4 ∧ iv = .int .i64 i ∧ Hid (Pl (8 * n) s w.heap.size i wr) ∧ Hid (Below w.heap.size w wr)) (fun iv _ => 4 - (intOf iv).toNat)
  case atStart => exact ⟨0, by omega, rfl, HT0, HB0⟩
  case round =>
    obtain ⟨i, hi, rfl, HT, HB⟩ := hrel
    clear HT0 HB0
    by_cases hlt : i < 4
    · have t1 : decide ((i : Int) < 4) = true := by simp; omega
      have hfz := HT.out.free i
      obtain ⟨old, hold⟩ := HT.out.there hlt
      have hpl := HPL.out i hlt
      rw [HPI.out] at hpl
      have HT3 := Lib.hid (HT.out.put hlt)
      have HB3 := Lib.hid (HB.out.setCell (p := ⟨w.heap.size, i, none⟩) (Nat.le_refl _) (.int .i64 (placeL (8 * n) s i : Nat)))
      obtain ⟨X, hX⟩ : ∃ X, placeL (8 * n) s i = X := ⟨_, rfl⟩
      rw [hX] at HT3 HB3 hpl
      have HX := Lib.hid hpl
      clear hX HT HB hpl
      go_wp2_with fail
      rw [HX.out]
      go_roundw
      case rel => exact ⟨i + 1, by omega, by go_num, HT3, HB3⟩
      case measure => simp [intOf]; omega
    · obtain rfl : i = 4 := by omega
      have t1 : decide ((4 : Int) < 4) = false := by simp
      have hg := HAll.out _ HT.out
      have hs := HP4.out
      have hi : (Try.prog.info? 58).map (·.size) = some P.size := by rw [hs]; exact infoFour
      have hg2 := setRow_heap wr w.heap.size P P _ _ hg
      have HG2 := Lib.hid hg2
      have HB3 := Lib.hid (below_setRow P HB.out (Nat.le_refl _))
      clear hg2 hs
      go_wp2_with (first | refine wpList_load_row rfl 58 (.tmp 4) rfl w.heap.size rfl 58 P (0, 0) (.array 4 3) hg Try.underlying58 rfl hi ?_ | refine wpList_store_row rfl 58 (.tmp 4) (.tmp 32) rfl w.heap.size P rfl rfl 58 P hg hi rfl HP1.out ?_)
      refine bodyPost_ret (v := .agg P) (results_cell_row rfl _ _ w.heap.size 58 P (0, 0) (.array 4 3) rfl HG2.out Try.underlying58 rfl hi) rfl ⟨rfl, HB3.out⟩
end Go.Proofs.Ytjogjmkfkmbjdaa.BL
