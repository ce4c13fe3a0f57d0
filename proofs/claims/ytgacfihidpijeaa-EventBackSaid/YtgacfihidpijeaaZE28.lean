/-
  Are two rows of numbers the same: the reference's (layer 2). No condition.
-/
import Derived.Test.YtgacfihidpijeaaZE21
set_option linter.unusedVariables false
namespace Go.Proofs.Ytgacfihidpijeaa.MM
open Go Go.RowKit

theorem int_at {S : Nat → Prop} {w : World} {p : Option Addr} {n cap : Nat} {zs : List Int} (h : ROn cInt S w (.slice p n cap) zs) {k : Nat} (hk : k < zs.length) : ∃ b off, p = some ⟨b, off, none⟩ ∧ b < w.heap.size ∧ S b ∧ w.cell? ⟨b, off + k, none⟩ = some (.int .i64 zs[k]) := by
  obtain ⟨b, off, vs, hp, hlt, hS, hon, hc⟩ := h.at_ hk
  have hon : vs = [.int .i64 zs[k]] := hon
  subst hon
  have := hc 0 _ rfl
  rw [show cInt.size = 1 from rfl, Nat.mul_one, Nat.add_zero] at this
  exact ⟨b, off, hp, hlt, hS, this⟩
theorem drop_eq {α : Type} [DecidableEq α] {a b : List α} {i : Nat} (ha : i < a.length) (hb : i < b.length) : decide (a.drop i = b.drop i) = (decide (a[i] = b[i]) && decide (a.drop (i + 1) = b.drop (i + 1))) := by
  rw [List.drop_eq_getElem_cons ha, List.drop_eq_getElem_cons hb]
  rw [Bool.eq_iff_iff, decide_eq_true_eq, Bool.and_eq_true, decide_eq_true_eq, decide_eq_true_eq, List.cons.injEq]
set_option maxRecDepth 100000 in
set_option maxHeartbeats 2000000 in
theorem sameints_any (u v : Value) (xs ys : List Int) (w : World) (hu : RAny cInt w u xs) (hv : RAny cInt w v ys) : Calls Try.prog 38 #[u, v] w fun e w' => e = .returned (.bool (decide (xs = ys))) ∧ Below w.heap.size w w' := by
  obtain ⟨p1, cap1, rfl, hl1, hm1, _⟩ := hu.shape
  obtain ⟨p2, cap2, rfl, hl2, hm2, _⟩ := hv.shape
  unfold maxLen at hm1 hm2
  by_cases hn : xs.length = ys.length
  · have t0 : (((xs.length : Int)) != ((ys.length : Int))) = false := by simp [hn]
    obtain ⟨n, hnn⟩ : ∃ n, xs.length = n := ⟨_, rfl⟩
    have hnb : ys.length = n := by omega
    obtain ⟨RES, hRES⟩ : ∃ RES, decide (xs = ys) = RES := ⟨_, rfl⟩
    have h0 : decide (xs.drop 0 = ys.drop 0) = RES := hRES
    rw [hRES]
    have H0 := Lib.hid h0
    have HU := Lib.hid hu
    have HV := Lib.hid hv
    have HNA := Lib.hid hnn
    have HNB := Lib.hid hnb
    rw [hnn, hnb] at t0
    rw [hnn] at hl1 ⊢
    rw [hnb] at hl2 ⊢
    clear h0 hu hv hRES hn hnn hnb
    go_enter Try.func38, Try.ntmps38
    go_wp2_with fail
    go_loopw [5] (fun iv wr => ∃ i : Nat, i ≤ n ∧ iv = .int .i64 i ∧ Hid (decide (xs.drop i = ys.drop i) = RES) ∧ Hid (Below w.heap.size w wr)) (fun iv _ => n - (intOf iv).toNat)
    case atStart => exact ⟨0, by omega, rfl, H0, Lib.hid (Below.refl _ _)⟩
    case round =>
      obtain ⟨i, hi, rfl, HI, HB⟩ := hrel
      clear H0
      by_cases hlt : i < n
      · have q1 : decide ((i : Int) < (n : Int)) = true := by rw [decide_eq_true_eq]; omega
        have q2 : decide (i < n) = true := by rw [decide_eq_true_eq]; omega
        have q3 : (i : Int) < n := by omega
        have ha : i < xs.length := by rw [HNA.out]; exact hlt
        have hb : i < ys.length := by rw [HNB.out]; exact hlt
        have hu1 := HU.out.below HB.out
        have hv1 := HV.out.below HB.out
        rw [HNA.out] at hu1
        rw [HNB.out] at hv1
        obtain ⟨b1, o1, rfl, hb1, _, c1⟩ := int_at hu1 ha
        obtain ⟨b2, o2, rfl, hb2, _, c3⟩ := int_at hv1 hb
        have hnx := HI.out
        rw [drop_eq ha hb] at hnx
        generalize xs[i] = X at *
        generalize ys[i] = Y at *
        have HN := Lib.hid hnx
        have HLT := Lib.hid hlt
        clear HI hu1 hv1 ha hb hnx hlt
        by_cases e : X = Y
        · have hn := HN.out
          rw [decide_eq_true e, Bool.true_and] at hn
          have t1 : (X != Y) = false := by simp [e]
          have HN2 := Lib.hid hn
          clear HN hn e
          go_wp2_with fail
          go_quiet (fail)
          go_wp2_with fail
          have hlt := HLT.out
          go_roundw
          case rel => exact ⟨i + 1, by omega, by go_num, HN2, Lib.hid (MM.below_drewN HB.out _)⟩
          case measure => simp [intOf]; omega
        · have hn := HN.out
          rw [decide_eq_false e, Bool.false_and] at hn
          have t1 : (X != Y) = true := by simp [e]
          subst hn
          clear HN e
          go_wp2_with fail
          go_quiet (fail)
          go_wp2_with fail
          go_ret
          exact ⟨rfl, MM.below_drewN HB.out _⟩
      · obtain rfl : i = n := by omega
        have q1 : decide ((i : Int) < (i : Int)) = false := by simp
        have q2 : decide (i < i) = false := by simp
        have hf : RES = true := by
          rw [← HI.out, List.drop_of_length_le (by rw [HNA.out]; exact Nat.le_refl _), List.drop_of_length_le (by rw [HNB.out]; exact Nat.le_refl _)]
          simp
        subst hf
        clear HI
        go_wp2_with fail
        go_ret
        exact ⟨rfl, HB.out⟩
  · have t0 : (((xs.length : Int)) != ((ys.length : Int))) = true := by simp; omega
    have e : decide (xs = ys) = false := decide_eq_false fun h => hn (by rw [h])
    rw [e]
    clear hu hv e hn
    go_enter Try.func38, Try.ntmps38
    go_wp2_with fail
    go_ret
    exact ⟨rfl, Below.refl _ _⟩
end Go.Proofs.Ytgacfihidpijeaa.MM
