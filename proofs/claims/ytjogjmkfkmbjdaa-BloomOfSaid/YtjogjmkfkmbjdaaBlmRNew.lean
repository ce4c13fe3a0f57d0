/-
  The reference's Count, New, Read. No condition.
-/
import Derived.Test.YtjogjmkfkmbjdaaBlmRAdd
set_option linter.unusedVariables false
namespace Go.Proofs.Ytjogjmkfkmbjdaa.BL
open Go.RowKit Go.Proofs.Ytjogjmkfkmbjdaa.MM Go.Proofs.Ytjogjmkfkmbjdaa.BM

/-! ### Count -/
set_option maxRecDepth 100000 in
set_option maxHeartbeats 1000000 in
theorem rcount_any (v : Value) (L : List UInt8) (w : World) (h : BRow w v L) (hhi : L.length ≤ 131072) :
    Calls Try.prog 18 #[.agg #[v]] w fun e w' => e = .returned (.int .i64 (countL L : Nat)) ∧ Below w.heap.size w w' := by
  obtain ⟨p, cap, rfl, hlc, hcm⟩ := h.shape
  obtain ⟨n, hn⟩ : ∃ n, L.length = n := ⟨_, rfl⟩
  have HH := Lib.hid (fun k W (hr : BRow W (.slice p L.length cap) L) (hk : k < 8 * L.length) => rhas_any _ L k W hr hhi hk)
  have HE : Hid (cntK L (8 * n) = countL L) := Lib.hid (by rw [← hn]; exact cnt_count L)
  have HN := Lib.hid (cntK_next L)
  have HLE := Lib.hid (cntK_le L)
  have HR := Lib.hid h
  have HB0 := Lib.hid ((Below.refl w.heap.size w).alloc (Nat.le_refl _) (.cells #[.slice p L.length cap] 30))
  have HG0 := Lib.hid (heap_alloc_new w (.cells #[.slice p L.length cap] 30))
  have HSZ := Lib.hid (show (w.alloc (.cells #[.slice p L.length cap] 30)).heap.size = w.heap.size + 1 by simp)
  obtain ⟨R, hR⟩ : ∃ R, countL L = R := ⟨_, rfl⟩
  rw [hR] at HE ⊢
  rw [hn] at HH HR HB0 HG0 HSZ hlc hhi ⊢
  obtain ⟨W1, hW1⟩ : ∃ W1, w.alloc (.cells #[.slice p n cap] 30) = W1 := ⟨_, rfl⟩
  rw [hW1] at HB0 HG0 HSZ
  have HW1 := Lib.hid hW1
  clear h hR hW1 hn
  go_enter Try.func18, Try.ntmps18
  go_wp2_with fail
  rw [HW1.out]
  go_loopw [3, 4] (fun nv kv wr => ∃ k : Nat, k ≤ 8 * n ∧ nv = .int .i64 (cntK L k : Nat) ∧ kv = .int .i64 k ∧ Hid (Below W1.heap.size W1 wr)) (fun _ kv _ => 8 * n - (intOf kv).toNat)
  case atStart => exact ⟨0, by omega, rfl, rfl, Lib.hid (Below.refl _ _)⟩
  case round =>
    obtain ⟨k, hk, rfl, rfl, HB⟩ := hrel
    have h1 : wr.heap[w.heap.size]? = W1.heap[w.heap.size]? := HB.out.block _ (by have := HSZ.out; omega)
    have hc : wr.cell? ⟨w.heap.size, 0, none⟩ = some (.slice p n cap) := by rw [cell_of_row wr w.heap.size 0 _ _ _ (h1.trans HG0.out)]; rfl
    have HBW := Lib.hid (HB0.out.trans (HB.out.mono HB0.out.size))
    clear h1
    by_cases hlt : k < 8 * n
    · have t1 : decide ((k : Int) < 8 * (n : Int)) = true := by simp; omega
      have hn := HN.out k
      have hle := HLE.out k
      have hh := HH.out k wr (HR.out.below HBW.out) hlt
      obtain ⟨z, hz⟩ : ∃ z, cntK L k = z := ⟨_, rfl⟩
      rw [hz] at hn hle ⊢
      have HHH := Lib.hid hh
      cases hb : hasL L k with
      | true =>
        rw [hb] at hn HHH
        rw [if_pos rfl] at hn
        have HNN := Lib.hid hn
        clear hh hn hz hb
        go_wp2_with fail
        refine HHH.out.mono ?_
        rintro e w2 ⟨rfl, hb2⟩
        have HB2 := Lib.hid (HB.out.trans (hb2.mono HB.out.size))
        clear hb2
        go_wp2_with fail
        go_roundw
        case rel => exact ⟨k + 1, by omega, by rw [HNN.out]; go_num, by go_num, HB2⟩
        case measure => simp [intOf]; omega
      | false =>
        rw [hb] at hn HHH
        rw [if_neg (by simp), Nat.add_zero] at hn
        have HNN := Lib.hid hn
        clear hh hn hz hb
        go_wp2_with fail
        refine HHH.out.mono ?_
        rintro e w2 ⟨rfl, hb2⟩
        have HB2 := Lib.hid (HB.out.trans (hb2.mono HB.out.size))
        clear hb2
        go_wp2_with fail
        go_roundw
        case rel => exact ⟨k + 1, by omega, by rw [HNN.out]; rfl, by go_num, HB2⟩
        case measure => simp [intOf]; omega
    · obtain rfl : k = 8 * n := by omega
      have t1 : decide ((8 : Int) * (n : Int) < 8 * (n : Int)) = false := by simp
      have t2 : decide (((8 * n : Nat) : Int) < 8 * (n : Int)) = false := by simp
      rw [HE.out]
      go_wp2_with fail
      go_ret
      exact ⟨rfl, HBW.out⟩

/-! ### New -/
set_option maxRecDepth 100000 in
theorem rfor_any (n : Nat) (w : World) (h : n ≤ 262144) : Calls Try.prog 24 #[.int .i64 n] w fun e w' => e = .returned (.int .i64 (roomL n : Nat)) ∧ w = w' := by
  have HR : Hid (roomL n = (min (max (10 * n) 64) 1048576 + 7) / 8) := Lib.hid rfl
  generalize roomL n = R at *
  go_enter Try.func24, Try.ntmps24
  go_wp2_with fail
  all_goals
    go_ret
    refine ⟨congrArg (fun z => Ending.returned (.int .i64 z)) ?_, rfl⟩
    have := HR.out
    omega
/-- What the reference's New leaves. -/
def RNewLeft (L : List UInt8) (w : World) (e : Ending) (w' : World) : Prop := ∃ v, e = .returned (.tuple #[.agg #[v], .int .i64 0]) ∧ OwnB w.heap.size w' v L ∧ Below w.heap.size w w'
theorem box_one {w : World} {g t : Nat} {u : Value} (h : w.heap[g]? = some (.cells #[u] t (0, 0))) (a : Value) :
    w.cell? ⟨g, 0, none⟩ = some u ∧ w.frozen? ⟨g, 0, none⟩ = false ∧ (w.setCell ⟨g, 0, none⟩ a).heap[g]? = some (.cells #[a] t (0, 0)) ∧ Kep (fun c => c ≠ g) w (w.setCell ⟨g, 0, none⟩ a) := by
  have n1 := heap_setCell_same w g 0 _ _ a h
  exact ⟨by rw [cell_of_row w _ 0 _ _ _ h]; rfl, frozen_of_row w _ 0 _ _ h, n1, kep_set (by simp) _⟩
set_option maxRecDepth 100000 in
theorem rnew_no (n : Int) (w : World) (h : n < 0 ∨ 262144 < n) : Calls Try.prog 9 #[.int .i64 n] w fun e w' => e = .returned (.tuple #[.agg #[.slice none 0 0], .int .i64 90]) ∧ Below w.heap.size w w' := by
  have hg := heap_alloc_new w (.cells #[.slice none 0 0] 30)
  obtain ⟨q1, q2, q3, _⟩ := box_one hg (.slice none 0 0)
  have HG := Lib.hid hg
  have HB := Lib.hid ((Below.refl w.heap.size w).alloc (Nat.le_refl _) (.cells #[.slice none 0 0] 30))
  clear hg q3
  by_cases h0 : n < 0
  · have t1 : decide (n < 0) = true := by rw [decide_eq_true_eq]; exact h0
    go_enter Try.func9, Try.ntmps9
    go_wp2_with fail
    refine bodyPost_ret (results_fil_two rfl _ _ w.heap.size _ rfl HG.out) rfl ⟨rfl, HB.out⟩
  · have t1 : decide (n < 0) = false := by rw [decide_eq_false_iff_not]; exact h0
    have t2 : decide (n > 262144) = true := by rw [decide_eq_true_eq]; omega
    go_enter Try.func9, Try.ntmps9
    go_wp2_with fail
    refine bodyPost_ret (results_fil_two rfl _ _ w.heap.size _ rfl HG.out) rfl ⟨rfl, HB.out⟩
set_option maxRecDepth 100000 in
set_option maxHeartbeats 1000000 in
theorem rnew_any (n : Nat) (w : World) (h : n ≤ 262144) : Calls Try.prog 9 #[.int .i64 n] w (RNewLeft (newL n) w) := by
  have t1 : decide ((n : Int) < 0) = false := by rw [decide_eq_false_iff_not]; omega
  have t2 : decide ((n : Int) > 262144) = false := by rw [decide_eq_false_iff_not]; omega
  have HF := Lib.hid (fun W => rfor_any n W h)
  obtain ⟨i0, hi, hz0, hz1, hz2⟩ := info_parts infoByte
  have h9 := (roomL_le n).2
  have e : newL n = List.replicate (roomL n) 0 := rfl
  have h8 := (roomL_le n).1
  rw [e]
  obtain ⟨N, hN⟩ : ∃ N, roomL n = N := ⟨_, rfl⟩
  rw [hN] at HF h9 h8 ⊢
  have hg := heap_alloc_new w (.cells #[.slice none 0 0] 30)
  have hb := (Below.refl w.heap.size w).alloc (Nat.le_refl _) (.cells #[.slice none 0 0] 30)
  have hsz : (w.alloc (.cells #[.slice none 0 0] 30)).heap.size = w.heap.size + 1 := by simp
  obtain ⟨W1, hW1⟩ : ∃ W1, w.alloc (.cells #[.slice none 0 0] 30) = W1 := ⟨_, rfl⟩
  rw [hW1] at hg hb hsz
  have HG := Lib.hid hg
  have HB := Lib.hid hb
  have HSZ := Lib.hid hsz
  have HW1 := Lib.hid hW1
  clear e hN hg hb hsz hW1
  go_enter Try.func9, Try.ntmps9
  go_wp2_with fail
  rw [HW1.out]
  refine (HF.out _).mono ?_
  rintro e w1 ⟨rfl, rfl⟩
  go_wp2_with (at_make; go_loud (refine wpList_make_full W1 rfl _ _ 28 rfl W1.heap.size 5 i0 (.int .u8 0) 1 Try.underlying28 hi hz0 hz1 .i64 .i64 _ _ N rfl rfl rfl rfl (by rw [hz2]; omega) (by unfold maxLen; omega) (Nat.le_refl _) ?_))
  intro w2 hown hg2
  have hb2 := (Below.refl W1.heap.size W1).grown hg2 (Nat.le_refl _) (fun k h => by cases h)
  have ho := zeros_own hown
  have hgb := (hb2.block w.heap.size (by have := HSZ.out; omega)).trans HG.out
  obtain ⟨q1, q2, q3, q4⟩ := box_one hgb (.slice (some ⟨W1.heap.size, 0, none⟩) N N)
  have HQ := Lib.hid q3
  have hlt : W1.heap.size < w2.heap.size := by
    have h0 : (List.replicate N (0 : UInt8))[0]? = some 0 := by rw [List.getElem?_replicate, if_pos (by omega)]
    have hc := OwnB.cell ho h0
    by_cases hb : W1.heap.size < w2.heap.size
    · exact hb
    · simp [World.cell?, Array.getElem?_eq_none (Nat.le_of_not_lt hb)] at hc
  have ho3 := own_lift (own_block (own_at ho) (q4.block W1.heap.size hlt (by have := HSZ.out; omega))) (by have := HSZ.out; omega : w.heap.size ≤ W1.heap.size)
  have HO := Lib.hid ho3
  have HBE := Lib.hid (below_set (i := 0) (.slice (some ⟨W1.heap.size, 0, none⟩) N N) (HB.out.trans (hb2.mono HB.out.size)) (Nat.le_refl w.heap.size))
  clear hown hg2 hb2 ho hgb q3 q4 ho3 hlt
  go_wp2_with fail
  refine bodyPost_ret (results_fil_two rfl _ _ w.heap.size _ rfl HQ.out) rfl ⟨_, rfl, HO.out, HBE.out⟩
end Go.Proofs.Ytjogjmkfkmbjdaa.BL
