/-
  Are two rows of whole numbers, two rows of posts the same: the code's Same, the reference's. No condition.
-/
import Derived.Test.YtdgjbhejokmeoaaPstForm
set_option linter.unusedVariables false
namespace Go.Proofs.Ytdgjbhejokmeoaa.PW
open Go.RowKit Go.Proofs.Ytdgjbhejokmeoaa.MM Go.Proofs.Ytdgjbhejokmeoaa.PM

theorem same_more {α : Type} {xs ys : List α} {k : Nat} (hl : xs.length = ys.length) (h : xs.take k = ys.take k) (hk : k < xs.length) (he : xs[k] = ys[k]'(by omega)) : xs.take (k + 1) = ys.take (k + 1) := by
  rw [List.take_succ_eq_append_getElem hk, List.take_succ_eq_append_getElem (by omega), h, he]
theorem same_not {α : Type} {xs ys : List α} {k : Nat} (hl : xs.length = ys.length) (hk : k < xs.length) (he : xs[k] ≠ ys[k]'(by omega)) : xs ≠ ys := by
  intro e; subst e; exact he rfl
theorem same_end {α : Type} {xs ys : List α} (hl : xs.length = ys.length) (h : xs.take xs.length = ys.take xs.length) : xs = ys := by
  rw [List.take_length, hl, List.take_length] at h; exact h

set_option maxRecDepth 100000 in
set_option maxHeartbeats 1000000 in
theorem equal_any (u v : Value) (xs ys : List Int) (w : World) (hu : IOn (fun _ => True) w u xs) (hv : IOn (fun _ => True) w v ys) :
    Calls Try.prog 51 #[u, v] w fun e w' => e = .returned (.bool (decide (xs = ys))) ∧ Below w.heap.size w w' := by
  obtain ⟨p, cp, rfl, hp1, hp2, _⟩ := hu.shape
  obtain ⟨q, cq, rfl, hq1, hq2, _⟩ := hv.shape
  unfold maxLen at hp2 hq2
  have HP := Lib.hid hu
  have HQ := Lib.hid hv
  clear hu hv
  by_cases hl : xs.length = ys.length
  · have HL := Lib.hid hl
    have t0 : ((xs.length : Int) == (ys.length : Int)) = true := by rw [beq_iff_eq]; omega
    obtain ⟨RES, hRES⟩ : ∃ R, decide (xs = ys) = R := ⟨_, rfl⟩
    have HE := Lib.hid hRES
    rw [hRES]
    have H0 : Hid (xs.take 0 = ys.take 0) := Lib.hid rfl
    clear hl hRES
    go_enter Try.func51, Try.ntmps51
    go_wp2_with fail
    go_loopw [13] (fun i wr => ∃ k : Nat, k ≤ xs.length ∧ i = .int .i64 k ∧ Hid (xs.take k = ys.take k) ∧ Hid (Below w.heap.size w wr)) (fun i _ => xs.length - (intOf i).toNat)
    case atStart => exact ⟨0, Nat.zero_le _, rfl, H0, Lib.hid (Below.refl _ _)⟩
    case round =>
      obtain ⟨k, hk, rfl, HA, HB⟩ := hrel
      clear H0
      by_cases hlt : k < xs.length
      · have t1 : decide ((k : Int) < (xs.length : Int)) = true := by simp; omega
        have hlt2 : k < ys.length := by rw [← HL.out]; exact hlt
        obtain ⟨b, off, rfl, hbl, _, hcell⟩ := (HP.out.keep (kep_below (fun _ => True) HB.out) fun _ _ h => h).at_ hlt
        obtain ⟨b2, off2, rfl, hbl2, _, hcell2⟩ := (HQ.out.keep (kep_below (fun _ => True) HB.out) fun _ _ h => h).at_ hlt2
        have hmore := same_more HL.out HA.out hlt
        have hnot := same_not HL.out hlt
        obtain ⟨x, hx⟩ : ∃ r, xs[k] = r := ⟨_, rfl⟩
        obtain ⟨y, hy⟩ : ∃ r, ys[k] = r := ⟨_, rfl⟩
        rw [hx] at hcell hmore hnot
        rw [hy] at hcell2 hmore hnot
        have HM := Lib.hid hmore
        have HN := Lib.hid hnot
        clear hx hy hmore hnot
        by_cases hxy : x = y
        · subst hxy
          have HA2 := Lib.hid (HM.out rfl)
          clear HM HN HA
          go_wp2_with fail
          go_quiet (fail)
          go_wp2_with fail
          go_roundw
          case rel => exact ⟨k + 1, by omega, by go_num, HA2, Lib.hid (below_drewN HB.out _)⟩
          case measure => simp [intOf]; omega
        · have t2 : (x == y) = false := by rw [beq_eq_false_iff_ne]; exact hxy
          have hf : RES = false := by rw [← HE.out]; exact decide_eq_false (HN.out hxy)
          subst hf
          clear HM HN HA hxy
          go_wp2_with fail
          go_quiet (fail)
          go_wp2_with fail
          go_ret
          exact ⟨rfl, below_drewN HB.out _⟩
      · obtain rfl : k = xs.length := by omega
        have t1 : decide ((xs.length : Int) < (xs.length : Int)) = false := by simp
        have hf : RES = true := by rw [← HE.out]; exact decide_eq_true (same_end HL.out HA.out)
        subst hf
        clear HA
        go_wp2_with fail
        go_ret
        exact ⟨rfl, HB.out⟩
  · have t0 : ((xs.length : Int) == (ys.length : Int)) = false := by rw [beq_eq_false_iff_ne]; omega
    have hf : decide (xs = ys) = false := decide_eq_false (fun e => hl (by rw [e]))
    rw [hf]
    clear hl hf
    go_enter Try.func51, Try.ntmps51
    go_wp2_with fail
    go_ret
    exact ⟨rfl, Below.refl _ _⟩

set_option maxRecDepth 100000 in
set_option maxHeartbeats 1000000 in
theorem sameints_any (u v : Value) (xs ys : List Int) (w : World) (hu : IOn (fun _ => True) w u xs) (hv : IOn (fun _ => True) w v ys) :
    Calls Try.prog 11 #[u, v] w fun e w' => e = .returned (.bool (decide (xs = ys))) ∧ Below w.heap.size w w' := by
  obtain ⟨p, cp, rfl, hp1, hp2, _⟩ := hu.shape
  obtain ⟨q, cq, rfl, hq1, hq2, _⟩ := hv.shape
  unfold maxLen at hp2 hq2
  have HP := Lib.hid hu
  have HQ := Lib.hid hv
  clear hu hv
  by_cases hl : xs.length = ys.length
  · have HL := Lib.hid hl
    have t0 : ((xs.length : Int) == (ys.length : Int)) = true := by rw [beq_iff_eq]; omega
    obtain ⟨RES, hRES⟩ : ∃ R, decide (xs = ys) = R := ⟨_, rfl⟩
    have HE := Lib.hid hRES
    rw [hRES]
    have H0 : Hid (xs.take 0 = ys.take 0) := Lib.hid rfl
    clear hl hRES
    go_enter Try.func11, Try.ntmps11
    go_wp2_with fail
    go_loopw [5] (fun i wr => ∃ k : Nat, k ≤ xs.length ∧ i = .int .i64 k ∧ Hid (xs.take k = ys.take k) ∧ Hid (Below w.heap.size w wr)) (fun i _ => xs.length - (intOf i).toNat)
    case atStart => exact ⟨0, Nat.zero_le _, rfl, H0, Lib.hid (Below.refl _ _)⟩
    case round =>
      obtain ⟨k, hk, rfl, HA, HB⟩ := hrel
      clear H0
      by_cases hlt : k < xs.length
      · have t1 : decide ((k : Int) < (xs.length : Int)) = true := by simp; omega
        have hlt2 : k < ys.length := by rw [← HL.out]; exact hlt
        obtain ⟨b, off, rfl, hbl, _, hcell⟩ := (HP.out.keep (kep_below (fun _ => True) HB.out) fun _ _ h => h).at_ hlt
        obtain ⟨b2, off2, rfl, hbl2, _, hcell2⟩ := (HQ.out.keep (kep_below (fun _ => True) HB.out) fun _ _ h => h).at_ hlt2
        have hmore := same_more HL.out HA.out hlt
        have hnot := same_not HL.out hlt
        obtain ⟨x, hx⟩ : ∃ r, xs[k] = r := ⟨_, rfl⟩
        obtain ⟨y, hy⟩ : ∃ r, ys[k] = r := ⟨_, rfl⟩
        rw [hx] at hcell hmore hnot
        rw [hy] at hcell2 hmore hnot
        have HM := Lib.hid hmore
        have HN := Lib.hid hnot
        clear hx hy hmore hnot
        by_cases hxy : x = y
        · subst hxy
          have HA2 := Lib.hid (HM.out rfl)
          clear HM HN HA
          go_wp2_with fail
          go_quiet (fail)
          go_wp2_with fail
          go_roundw
          case rel => exact ⟨k + 1, by omega, by go_num, HA2, Lib.hid (below_drewN HB.out _)⟩
          case measure => simp [intOf]; omega
        · have t2 : (x == y) = false := by rw [beq_eq_false_iff_ne]; exact hxy
          have hf : RES = false := by rw [← HE.out]; exact decide_eq_false (HN.out hxy)
          subst hf
          clear HM HN HA hxy
          go_wp2_with fail
          go_quiet (fail)
          go_wp2_with fail
          go_ret
          exact ⟨rfl, below_drewN HB.out _⟩
      · obtain rfl : k = xs.length := by omega
        have t1 : decide ((xs.length : Int) < (xs.length : Int)) = false := by simp
        have hf : RES = true := by rw [← HE.out]; exact decide_eq_true (same_end HL.out HA.out)
        subst hf
        clear HA
        go_wp2_with fail
        go_ret
        exact ⟨rfl, HB.out⟩
  · have t0 : ((xs.length : Int) == (ys.length : Int)) = false := by rw [beq_eq_false_iff_ne]; omega
    have hf : decide (xs = ys) = false := decide_eq_false (fun e => hl (by rw [e]))
    rw [hf]
    clear hl hf
    go_enter Try.func11, Try.ntmps11
    go_wp2_with fail
    go_ret
    exact ⟨rfl, Below.refl _ _⟩

theorem post_ne (z y : Int) (qs rs : List Int) : decide ((z, qs) = (y, rs)) = (decide (z = y) && decide (qs = rs)) := by
  rw [Bool.eq_iff_iff]; simp
set_option maxRecDepth 100000 in
set_option maxHeartbeats 1000000 in
theorem aresame_any (z y : Int) (u v : Value) (qs rs : List Int) (w : World) (hu : IOn (fun _ => True) w u qs) (hv : IOn (fun _ => True) w v rs) :
    Calls Try.prog 32 #[.agg #[.int .i64 z, u], .agg #[.int .i64 y, v]] w fun e w' => e = .returned (.bool (decide ((z, qs) = (y, rs)))) ∧ Below w.heap.size w w' := by
  have HS := Lib.hid (fun W (hb : Below w.heap.size w W) => equal_any u v qs rs W (hu.keep (kep_below _ hb) fun _ _ h => h) (hv.keep (kep_below _ hb) fun _ _ h => h))
  obtain ⟨p, cp, rfl, hp1, hp2, _⟩ := hu.shape
  obtain ⟨q, cq, rfl, hq1, hq2, _⟩ := hv.shape
  rw [post_ne]
  obtain ⟨R, hR⟩ : ∃ R, decide (qs = rs) = R := ⟨_, rfl⟩
  rw [hR] at HS ⊢
  generalize qs.length = n1 at *
  generalize rs.length = n2 at *
  have hb1 : Below w.heap.size w (w.alloc (.cells #[.int .i64 z, .slice p n1 cp] 47)) := (Below.refl _ _).alloc (Nat.le_refl _) _
  have hb2 := hb1.alloc hb1.size (.cells #[.int .i64 y, .slice q n2 cq] 47)
  have HS2 := Lib.hid (HS.out _ hb2)
  have HB2 := Lib.hid hb2
  clear hu hv hR hb1 hb2 HS
  by_cases hzy : z = y
  · have t1 : (z == y) = true := by rw [beq_iff_eq]; exact hzy
    have t2 : decide (z = y) = true := decide_eq_true hzy
    rw [t2]
    clear hzy t2
    go_enter Try.func32, Try.ntmps32
    go_wp2_with fail
    refine HS2.out.mono ?_
    rintro e w1 ⟨rfl, hb⟩
    have HB3 := Lib.hid (grow HB2.out hb)
    clear hb
    go_wp2_with fail
    go_ret
    exact ⟨by simp, HB3.out⟩
  · have t1 : (z == y) = false := by rw [beq_eq_false_iff_ne]; exact hzy
    have t2 : decide (z = y) = false := decide_eq_false hzy
    rw [t2]
    clear hzy t2
    go_enter Try.func32, Try.ntmps32
    go_wp2_with fail
    go_ret
    exact ⟨rfl, HB2.out⟩
set_option maxRecDepth 100000 in
set_option maxHeartbeats 1000000 in
theorem eqfunc_any (u v : Value) (xs ys : List Post) (w : World) (hu : PRow w u xs) (hv : PRow w v ys) :
    Calls Try.prog 31 #[u, v, .func (.func 32) #[] #[]] w fun e w' => e = .returned (.bool (decide (xs = ys))) ∧ Below w.heap.size w w' := by
  obtain ⟨p, cp, rfl, hp1, hp2, _⟩ := hu.shape
  obtain ⟨q, cq, rfl, hq1, hq2, _⟩ := hv.shape
  unfold maxLen at hp2 hq2
  have HP := Lib.hid hu
  have HQ := Lib.hid hv
  clear hu hv
  by_cases hl : xs.length = ys.length
  · have HL := Lib.hid hl
    rw [← hl]
    obtain ⟨RES, hRES⟩ : ∃ R, decide (xs = ys) = R := ⟨_, rfl⟩
    have HE := Lib.hid hRES
    rw [hRES]
    have H0 : Hid (xs.take 0 = ys.take 0) := Lib.hid rfl
    clear hl hRES hq1
    go_enter Try.func31, Try.ntmps31
    go_wp2_with fail
    go_loopw [17] (fun i wr => ∃ k : Nat, k ≤ xs.length ∧ i = .int .i64 k ∧ Hid (xs.take k = ys.take k) ∧ Hid (Below w.heap.size w wr)) (fun i _ => xs.length - (intOf i).toNat)
    case atStart => exact ⟨0, Nat.zero_le _, rfl, H0, Lib.hid (Below.refl _ _)⟩
    case round =>
      obtain ⟨k, hk, rfl, HA, HB⟩ := hrel
      clear H0
      by_cases hlt : k < xs.length
      · have t1 : decide ((k : Int) < (xs.length : Int)) = true := by simp; omega
        have hlt2 : k < ys.length := by rw [← HL.out]; exact hlt
        obtain ⟨b, off, x1, rfl, hbl, _, hc1, hc2, hx1⟩ := (HP.out.below HB.out).at_ hlt
        obtain ⟨b2, off2, x2, rfl, hbl2, _, hd1, hd2, hx2⟩ := (HQ.out.below HB.out).at_ hlt2
        have hmore := same_more HL.out HA.out hlt
        have hnot := same_not HL.out hlt
        obtain ⟨⟨z1, l1⟩, hy1⟩ : ∃ r, xs[k] = r := ⟨_, rfl⟩
        obtain ⟨⟨z2, l2⟩, hy2⟩ : ∃ r, ys[k] = r := ⟨_, rfl⟩
        rw [hy1] at hc1 hx1 hmore hnot
        rw [hy2] at hd1 hx2 hmore hnot
        dsimp only at hc1 hd1 hx1 hx2
        have hsz := HB.out.size
        have ha1 : Below wr.heap.size wr (wr.alloc (.cells #[.int .i64 z1, x1] 47)) := (Below.refl _ _).alloc (Nat.le_refl _) _
        have ha2 := ha1.alloc ha1.size (.cells #[.int .i64 z2, x2] 47)
        have hd1b := (ha1.cell (p := ⟨b2, off2 + k * 2, none⟩) hbl2).trans hd1
        have hd2b := (ha1.cell (p := ⟨b2, off2 + k * 2 + 1, none⟩) hbl2).trans hd2
        have HC := Lib.hid (aresame_any z1 z2 x1 x2 l1 l2 _ (hx1.keep (kep_below _ ha2) fun _ _ h => h) (hx2.keep (kep_below _ ha2) fun _ _ h => h))
        have HM := Lib.hid hmore
        have HN := Lib.hid hnot
        have HB2 := Lib.hid (HB.out.trans (ha2.mono hsz))
        obtain ⟨px1, cx1, rfl, _⟩ := hx1.shape
        obtain ⟨px2, cx2, rfl, _⟩ := hx2.shape
        generalize l1.length = n1 at *
        generalize l2.length = n2 at *
        obtain ⟨R, hR⟩ : ∃ R, decide ((z1, l1) = (z2, l2)) = R := ⟨_, rfl⟩
        rw [hR] at HC
        have HRR := Lib.hid hR
        clear hy1 hy2 hmore hnot hR hx1 hx2 ha1 ha2
        cases R with
        | true =>
          have HA2 := Lib.hid (HM.out (of_decide_eq_true HRR.out))
          clear HM HN HA HRR
          go_wp2_with fail
          refine HC.out.mono ?_
          rintro e w3 ⟨rfl, hb3⟩
          have HB3 := Lib.hid (grow HB2.out hb3)
          clear hb3 HC
          go_wp2_with fail
          go_roundw
          case rel => exact ⟨k + 1, by omega, by go_num, HA2, HB3⟩
          case measure => simp [intOf]; omega
        | false =>
          have hf : RES = false := by rw [← HE.out]; exact decide_eq_false (HN.out (of_decide_eq_false HRR.out))
          subst hf
          clear HM HN HA HRR
          go_wp2_with fail
          refine HC.out.mono ?_
          rintro e w3 ⟨rfl, hb3⟩
          have HB3 := Lib.hid (grow HB2.out hb3)
          clear hb3 HC
          go_wp2_with fail
          go_ret
          exact ⟨rfl, HB3.out⟩
      · obtain rfl : k = xs.length := by omega
        have t1 : decide ((xs.length : Int) < (xs.length : Int)) = false := by simp
        have hf : RES = true := by rw [← HE.out]; exact decide_eq_true (same_end HL.out HA.out)
        subst hf
        clear HA
        go_wp2_with fail
        go_ret
        exact ⟨rfl, HB.out⟩
  · have t0 : ((xs.length : Int) == (ys.length : Int)) = false := by rw [beq_eq_false_iff_ne]; omega
    have hf : decide (xs = ys) = false := decide_eq_false (fun e => hl (by rw [e]))
    rw [hf]
    clear hl hf
    go_enter Try.func31, Try.ntmps31
    go_wp2_with fail
    go_ret
    exact ⟨rfl, Below.refl _ _⟩
set_option maxRecDepth 100000 in
set_option maxHeartbeats 1000000 in
theorem same_any (u v : Value) (xs ys : List Post) (w : World) (hu : PRow w u xs) (hv : PRow w v ys) :
    Calls Try.prog 14 #[u, v] w fun e w' => e = .returned (.bool (decide (xs = ys))) ∧ Below w.heap.size w w' := by
  have HE := Lib.hid (eqfunc_any u v xs ys w hu hv)
  obtain ⟨p, cp, rfl, hp1, hp2, _⟩ := hu.shape
  obtain ⟨q, cq, rfl, hq1, hq2, _⟩ := hv.shape
  generalize decide (xs = ys) = R at *
  clear hu hv
  go_enter Try.func14, Try.ntmps14
  go_wp2_with fail
  refine HE.out.mono ?_
  rintro e w1 ⟨rfl, hb⟩
  have HB := Lib.hid hb
  clear hb HE
  go_wp2_with fail
  go_ret
  exact ⟨rfl, HB.out⟩
end Go.Proofs.Ytdgjbhejokmeoaa.PW
