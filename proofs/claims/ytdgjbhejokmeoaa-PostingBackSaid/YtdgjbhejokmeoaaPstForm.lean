/-
  Which rows may be, their Docs: the code's areRising, hasOddPlaces, Docs, Check. Condition: fewer than 10^9 posts.
-/
import Derived.Test.YtdgjbhejokmeoaaPstRow
import Derived.Test.YtdgjbhejokmeoaaReg
set_option linter.unusedVariables false
namespace Go.Proofs.Ytdgjbhejokmeoaa.PW
open Go.RowKit Go.Proofs.Ytdgjbhejokmeoaa.MM Go.Proofs.Ytdgjbhejokmeoaa.PM

set_option maxRecDepth 100000 in
set_option maxHeartbeats 1000000 in
theorem rising_any (v : Value) (zs : List Int) (fin : Int) (w : World) (hr : IOn (fun _ => True) w v zs) : Calls Try.prog 27 #[v, .int .i64 fin] w fun e w' => e = .returned (.bool (riseL fin zs)) ∧ w = w' := by
  obtain ⟨p, cap, rfl, hlc, hcm, _⟩ := hr.shape
  unfold maxLen at hcm
  have HR := Lib.hid hr
  obtain ⟨RES, hRES⟩ : ∃ RES, riseL fin zs = RES := ⟨_, rfl⟩
  have HE := Lib.hid hRES
  have H0 : Hid (∀ k, k < 0 → prevL (-1) zs k < zs.getD k 0 ∧ zs.getD k 0 < fin) := Lib.hid (fun k hk => by omega)
  have HP0 : Hid (prevL (-1) zs 0 = -1) := Lib.hid rfl
  rw [hRES]
  clear hr hRES
  go_enter Try.func27, Try.ntmps27
  go_wp2_with fail
  go_loop [5, 10] (fun a i => ∃ (k : Nat) (A : Int), k ≤ zs.length ∧ i = .int .i64 k ∧ a = .int .i64 A ∧ Hid (prevL (-1) zs k = A) ∧ Hid (∀ j, j < k → prevL (-1) zs j < zs.getD j 0 ∧ zs.getD j 0 < fin)) (fun _ i => zs.length - (intOf i).toNat)
  case atStart => exact ⟨0, -1, by omega, rfl, rfl, HP0, H0⟩
  case round =>
    obtain ⟨k, A, hk, rfl, rfl, HP, HA⟩ := hrel
    clear H0 HP0
    by_cases hlt : k < zs.length
    · have t1 : decide ((k : Int) < (zs.length : Int)) = true := by simp; omega
      obtain ⟨b, off, rfl, hbl, _, hcell⟩ := HR.out.at_ hlt
      have hg : zs.getD k 0 = zs[k] := by simp [hlt]
      obtain ⟨z, hz⟩ : ∃ z, zs[k] = z := ⟨_, rfl⟩
      rw [hz] at hcell hg
      have HG := Lib.hid hg
      have HLT := Lib.hid hlt
      clear hz hg
      by_cases h1 : z ≤ A
      · have t2 : decide (z ≤ A) = true := by simpa using h1
        have hf : RES = false := by
          rw [← HE.out, Bool.eq_false_iff]
          intro hc
          have := ((riseL_iff fin zs).1 hc k HLT.out).1
          rw [HP.out, HG.out] at this
          omega
        subst hf
        clear HA h1
        go_wp2_with fail
        go_ret
        exact ⟨rfl, rfl⟩
      · have t2 : decide (z ≤ A) = false := by simpa using h1
        by_cases h2 : z ≥ fin
        · have t3 : decide (z ≥ fin) = true := by simpa using h2
          have hf : RES = false := by
            rw [← HE.out, Bool.eq_false_iff]
            intro hc
            have := ((riseL_iff fin zs).1 hc k HLT.out).2
            rw [HG.out] at this
            omega
          subst hf
          clear HA h1 h2
          go_wp2_with fail
          go_ret
          exact ⟨rfl, rfl⟩
        · have t3 : decide (z ≥ fin) = false := by simpa using h2
          have HA2 : Hid (∀ j, j < k + 1 → prevL (-1) zs j < zs.getD j 0 ∧ zs.getD j 0 < fin) := Lib.hid (fun j hj => by
            by_cases e : j = k
            · subst e
              rw [HP.out, HG.out]
              omega
            · exact HA.out j (by omega))
          have HP2 : Hid (prevL (-1) zs (k + 1) = z) := Lib.hid HG.out
          clear HA h1 h2
          go_wp2_with fail
          go_round
          case rel => exact ⟨k + 1, z, by omega, by go_num, rfl, HP2, HA2⟩
          case measure => simp [intOf]; omega
    · obtain rfl : k = zs.length := by omega
      have t1 : decide ((zs.length : Int) < (zs.length : Int)) = false := by simp
      have hf : RES = true := by rw [← HE.out, riseL_iff]; exact HA.out
      subst hf
      clear HA
      go_wp2_with fail
      go_ret
      exact ⟨rfl, rfl⟩

set_option maxRecDepth 100000 in
set_option maxHeartbeats 1000000 in
theorem odd_any (z : Int) (x : Value) (qs : List Int) (w : World) (hr : IOn (fun _ => True) w x qs) : Calls Try.prog 29 #[.agg #[.int .i64 z, x]] w fun e w' => e = .returned (.bool (oddL (z, qs))) ∧ Below w.heap.size w w' := by
  obtain ⟨p, cap, rfl, hlc, hcm, _⟩ := hr.shape
  unfold maxLen at hcm
  have HR := Lib.hid (fun W (hb : Below w.heap.size w W) => rising_any _ qs 1048576 W (hr.keep (kep_below _ hb) fun _ _ h => h))
  have hb0 : Below w.heap.size w (w.alloc (.cells #[.int .i64 z, .slice p qs.length cap] 47)) := (Below.refl _ _).alloc (Nat.le_refl _) _
  have HR1 := Lib.hid (HR.out _ hb0)
  have HB := Lib.hid hb0
  clear HR hr hb0
  by_cases h0 : qs.length = 0
  · have t1 : ((qs.length : Int) == 0) = true := by rw [beq_iff_eq]; omega
    have e : oddL (z, qs) = true := by
      have : qs = [] := List.eq_nil_of_length_eq_zero h0
      subst this; rfl
    rw [e]
    clear e h0
    go_enter Try.func29, Try.ntmps29
    go_wp2_with fail
    go_ret
    exact ⟨rfl, HB.out⟩
  · have t1 : ((qs.length : Int) == 0) = false := by rw [beq_eq_false_iff_ne]; omega
    have e : oddL (z, qs) = !riseL 1048576 qs := by
      unfold oddL
      cases qs with
      | nil => simp at h0
      | cons q qs => rfl
    rw [e]
    obtain ⟨R, hR⟩ : ∃ R, riseL 1048576 qs = R := ⟨_, rfl⟩
    rw [hR] at HR1 ⊢
    clear e h0 hR
    go_enter Try.func29, Try.ntmps29
    go_wp2_with fail
    refine HR1.out.mono ?_
    rintro e w1 ⟨rfl, rfl⟩
    go_wp2_with fail
    go_ret
    exact ⟨rfl, HB.out⟩

set_option maxRecDepth 100000 in
set_option maxHeartbeats 1000000 in
theorem index_any (v : Value) (ps : List Post) (w : World) (hr : PRow w v ps) : Calls Try.prog 49 #[v, .func (.func 29) #[] #[]] w fun e w' => ∃ n : Int, e = .returned (.int .i64 n) ∧ decide (n ≥ 0) = ps.any oddL ∧ Below w.heap.size w w' := by
  obtain ⟨p, cap, rfl, hlc, hcm, _⟩ := hr.shape
  unfold maxLen at hcm
  have HR := Lib.hid hr
  obtain ⟨RES, hRES⟩ : ∃ RES, ps.any oddL = RES := ⟨_, rfl⟩
  have HE := Lib.hid hRES
  have H0 : Hid ((ps.take 0).any oddL = false) := Lib.hid rfl
  rw [hRES]
  clear hr hRES
  go_enter Try.func49, Try.ntmps49
  go_wp2_with fail
  go_loopw [8] (fun i wr => ∃ k : Nat, k ≤ ps.length ∧ i = .int .i64 k ∧ Hid ((ps.take k).any oddL = false) ∧ Hid (Below w.heap.size w wr)) (fun i _ => ps.length - (intOf i).toNat)
  case atStart => exact ⟨0, by omega, rfl, H0, Lib.hid (Below.refl _ _)⟩
  case round =>
    obtain ⟨k, hk, rfl, HA, HB⟩ := hrel
    clear H0
    by_cases hlt : k < ps.length
    · have t1 : decide ((k : Int) < (ps.length : Int)) = true := by simp; omega
      obtain ⟨b, off, x, rfl, hbl, _, hc1, hc2, hx⟩ := (HR.out.below HB.out).at_ hlt
      have hnx : (ps.take (k + 1)).any oddL = oddL ps[k] := by
        rw [List.take_succ_eq_append_getElem hlt, List.any_append, HA.out]; simp
      have hod := odd_any ps[k].1 x ps[k].2 wr hx
      have hmem : ∀ r, oddL ps[k] = r → r = true → RES = true := fun r hr h => by
        rw [← HE.out]; exact List.any_eq_true.2 ⟨ps[k], List.getElem_mem hlt, by rw [hr, h]⟩
      obtain ⟨z, hz⟩ : ∃ z, ps[k].1 = z := ⟨_, rfl⟩
      have e2 : oddL (ps[k].1, ps[k].2) = oddL ps[k] := rfl
      rw [e2] at hod
      rw [hz] at hc1 hod
      obtain ⟨R, hR⟩ : ∃ R, oddL ps[k] = R := ⟨_, rfl⟩
      rw [hR] at hnx hod
      have HM := Lib.hid (hmem R hR)
      obtain ⟨px, cx, rfl, _⟩ := hx.shape
      generalize ps[k].2.length = nx at *
      have HNX := Lib.hid hnx
      have HOD := Lib.hid hod
      clear hx hnx hod hz hR hmem e2
      go_wp2_with fail
      refine HOD.out.mono ?_
      rintro e w1 ⟨rfl, hb1⟩
      have HB1 := Lib.hid (grow HB.out hb1)
      clear hb1 HOD
      cases R with
      | true =>
        have := HM.out rfl
        subst this
        go_wp2_with fail
        go_ret
        exact ⟨_, rfl, by simp, HB1.out⟩
      | false =>
        go_wp2_with fail
        go_roundw
        case rel => exact ⟨k + 1, by omega, by go_num, HNX, HB1⟩
        case measure => simp [intOf]; omega
    · obtain rfl : k = ps.length := by omega
      have t1 : decide ((ps.length : Int) < (ps.length : Int)) = false := by simp
      have hf : RES = false := by rw [← HE.out, ← HA.out, List.take_length]
      subst hf
      clear HA
      go_wp2_with fail
      go_ret
      exact ⟨_, rfl, by simp, HB.out⟩
set_option maxRecDepth 100000 in
set_option maxHeartbeats 1000000 in
theorem contains_any (v : Value) (ps : List Post) (w : World) (hr : PRow w v ps) : Calls Try.prog 28 #[v, .func (.func 29) #[] #[]] w fun e w' => e = .returned (.bool (ps.any oddL)) ∧ Below w.heap.size w w' := by
  have HI := Lib.hid (index_any v ps w hr)
  obtain ⟨p, cap, rfl, hlc, hcm, _⟩ := hr.shape
  generalize ps.any oddL = R at *
  clear hr
  go_enter Try.func28, Try.ntmps28
  go_wp2_with fail
  refine HI.out.mono ?_
  rintro e w1 ⟨n, rfl, hn, hb1⟩
  have HB := Lib.hid hb1
  have HN := Lib.hid hn
  clear hn hb1 HI
  go_wp2_with fail
  go_ret
  exact ⟨by rw [← HN.out]; rfl, HB.out⟩

/-! ### Docs -/
theorem docs_len (ps : List Post) : (docsL ps).length = ps.length := by simp [docsL]
theorem docs_at (ps : List Post) (k : Nat) (h : k < ps.length) : (docsL ps).getD k 0 = ps[k].1 := by simp [docsL, h]
theorem docs_take (ps : List Post) (k : Nat) : docsL (ps.take k) = (docsL ps).take k := by simp [docsL]
/-- A row of whole numbers of the call's own. -/
def IntsLeft (zs : List Int) (w : World) (e : Ending) (w' : World) : Prop := ∃ v, e = .returned v ∧ OwnI w.heap.size w' v zs ∧ Below w.heap.size w w'
theorem OwnI.ion {B : Nat} {w : World} {v : Value} {zs : List Int} (h : OwnI B w v zs) : IOn (fun _ => True) w v zs := (ion_of_irow (B := w.heap.size) h.irow (Nat.le_refl _)).weak fun _ _ _ => trivial
/-- A row of whole numbers that is filled from its head on. -/
def HalfI (w : World) (g n : Nat) (zs : List Int) : Prop := g < w.heap.size ∧ ∃ cur, w.heap[g]? = some (.cells cur 3) ∧ cur.size = n ∧ zs.length ≤ n ∧ cur.toList.take zs.length = zs.map (Value.int .i64)
theorem halfI_start {B : Nat} {w : World} {g n : Nat} {xs : List Value} (h : w.ownsRow B 3 1 (.slice (some ⟨g, 0, none⟩) n n) n xs) : HalfI w g n [] := by
  rcases h.2 with ⟨hv, _⟩ | ⟨g', cap, cur, hv, hb, hh, hn, hm, hs, ht⟩
  · cases hv
  · simp only [Value.slice.injEq, Option.some.injEq, Addr.mk.injEq] at hv
    obtain ⟨⟨rfl, _⟩, _, rfl⟩ := hv
    exact ⟨(Array.getElem?_eq_some_iff.1 hh).1, cur, hh, by omega, by simp, by simp⟩
theorem HalfI.next {w : World} {g n : Nat} {zs : List Int} (h : HalfI w g n zs) (hk : zs.length < n) (z : Int) : HalfI (w.setCell ⟨g, zs.length, none⟩ (.int .i64 z)) g n (zs ++ [z]) := by
  obtain ⟨h1, cur, h2, h3, h4, h5⟩ := h
  have := heap_setCell_same w g zs.length _ _ (.int .i64 z) h2
  refine ⟨by simpa using h1, _, this, by simp [h3], by simp; omega, ?_⟩
  rw [List.length_append, List.length_singleton, List.take_succ_eq_append_getElem (by simp; omega)]
  simp only [Array.toList_setIfInBounds, List.map_append, List.map_singleton]
  rw [List.take_set_of_le (by omega), h5]
  simp
theorem HalfI.cell {w : World} {g n : Nat} {zs : List Int} (h : HalfI w g n zs) {k : Nat} (hk : k < n) : (∃ u, w.cell? ⟨g, k, none⟩ = some u) ∧ w.frozen? ⟨g, k, none⟩ = false := by
  obtain ⟨h1, cur, h2, h3, h4, h5⟩ := h
  exact ⟨by rw [cell_of_row w g k _ _ _ h2]; exact ⟨_, Array.getElem?_eq_getElem (by omega)⟩, frozen_of_row w g k _ _ h2⟩
theorem HalfI.own {w : World} {g n : Nat} {zs : List Int} (h : HalfI w g n zs) (hn : zs.length = n) (hm : n ≤ maxLen) {B : Nat} (hB : B ≤ g) : OwnI B w (.slice (some ⟨g, 0, none⟩) n n) zs := by
  obtain ⟨h1, cur, h2, h3, h4, h5⟩ := h
  subst hn
  exact ⟨by simp, .inr ⟨g, zs.length, cur, rfl, hB, h2, Nat.le_refl _, hm, by omega, by rw [Nat.mul_one]; exact h5⟩⟩
theorem HalfI.keep {S : Nat → Prop} {w w' : World} {g n : Nat} {zs : List Int} (h : HalfI w g n zs) (hk : Kep S w w') (hS : S g) : HalfI w' g n zs := by
  obtain ⟨h1, cur, h2, h3⟩ := h
  exact ⟨Nat.lt_of_lt_of_le h1 hk.size, cur, by rw [hk.block g h1 hS]; exact h2, h3⟩

set_option maxRecDepth 100000 in
set_option maxHeartbeats 1000000 in
theorem docs_any (v : Value) (ps : List Post) (w : World) (hr : PRow w v ps) (hl : ps.length ≤ 1000000000) : Calls Try.prog 12 #[v] w (IntsLeft (docsL ps) w) := by
  obtain ⟨i0, hi, hz0, hz1, hz2⟩ := info_parts infoInt
  obtain ⟨p, cap, rfl, hlc, hcm, _⟩ := hr.shape
  unfold maxLen at hcm
  have HR := Lib.hid hr
  have HL := Lib.hid (docs_len ps)
  have HD := Lib.hid (docs_at ps)
  obtain ⟨D, hD⟩ : ∃ D, docsL ps = D := ⟨_, rfl⟩
  rw [hD] at HL HD ⊢
  clear hr hD
  go_enter Try.func12, Try.ntmps12
  go_wp2_with (at_make; refine wpList_make_full w rfl _ _ 27 rfl w.heap.size 3 i0 (.int .i64 0) 1 Try.underlying27 hi hz0 hz1 .i64 .i64 _ _ ps.length rfl rfl rfl rfl (by rw [hz2]; omega) (by unfold maxLen; omega) (Nat.le_refl _) ?_)
  intro w2 hown2 hg2
  have b2 := (Below.refl w.heap.size w).grown hg2 (Nat.le_refl _) (fun k h => by cases h)
  have HH0 : Hid (HalfI w2 w.heap.size ps.length (D.take 0)) := Lib.hid (halfI_start hown2)
  have HB0 := Lib.hid b2
  clear hown2 hg2 b2 hi hz0 hz1 hz2
  go_wp2_with fail
  go_loopw [11] (fun i wr => ∃ k : Nat, k ≤ ps.length ∧ i = .int .i64 k ∧ Hid (HalfI wr w.heap.size ps.length (D.take k)) ∧ Hid (Below w.heap.size w wr)) (fun i _ => ps.length - (intOf i).toNat)
  case atStart => exact ⟨0, by omega, rfl, HH0, HB0⟩
  case round =>
    obtain ⟨k, hk, rfl, HH, HB⟩ := hrel
    clear HH0 HB0
    by_cases hlt : k < ps.length
    · have t1 : decide ((k : Int) < (ps.length : Int)) = true := by simp; omega
      obtain ⟨b, off, x, rfl, hbl, _, hc1, hc2, hx⟩ := HR.out.at_ hlt
      have hc1b := (HB.out.cell (p := ⟨b, off + k * 2, none⟩) hbl).trans hc1
      have hc2b := (HB.out.cell (p := ⟨b, off + k * 2 + 1, none⟩) hbl).trans hc2
      have hDt : (D.take k).length = k := by rw [List.length_take, HL.out]; omega
      have hDs : D.take (k + 1) = D.take k ++ [ps[k].1] := by
        rw [List.take_succ_eq_append_getElem (by rw [HL.out]; exact hlt)]
        have := HD.out k hlt
        rw [List.getD_eq_getElem?_getD, List.getElem?_eq_getElem (by rw [HL.out]; exact hlt)] at this
        rw [← this]; rfl
      obtain ⟨z, hz⟩ : ∃ z, ps[k].1 = z := ⟨_, rfl⟩
      rw [hz] at hc1b hDs
      obtain ⟨px, cx, rfl, _⟩ := hx.shape
      generalize ps[k].2.length = nx at *
      have hal : Below wr.heap.size wr (wr.alloc (.cells #[.int .i64 z, .slice px nx cx] 47)) := (Below.refl _ _).alloc (Nat.le_refl _) _
      have hsz := HB.out.size
      have HHa := HH.out.keep (kep_below (fun _ => True) hal) trivial
      obtain ⟨⟨u0, f1⟩, f2⟩ := HHa.cell hlt
      have HHn := HHa.next (by rw [hDt]; exact hlt) z
      rw [hDt, ← hDs] at HHn
      have HS := Lib.hid HHn
      have HB2 := Lib.hid ((HB.out.trans (hal.mono hsz)).setCell (p := ⟨w.heap.size, k, none⟩) (Nat.le_refl _) (.int .i64 z))
      clear hx hal HHa HHn hDs hDt hz hc1 hc2
      go_wp2_with fail
      go_roundw
      case rel => exact ⟨k + 1, by omega, by go_num, HS, HB2⟩
      case measure => simp [intOf]; omega
    · obtain rfl : k = ps.length := by omega
      have t1 : decide ((ps.length : Int) < (ps.length : Int)) = false := by simp
      have hD : D.take ps.length = D := by rw [← HL.out, List.take_length]
      have hh := HH.out
      rw [hD] at hh
      have HO := Lib.hid (hh.own HL.out (by unfold maxLen; omega) (Nat.le_refl _))
      clear HH hh hD
      go_wp2_with fail
      go_ret
      exact ⟨_, rfl, HO.out, HB.out⟩
set_option maxRecDepth 100000 in
set_option maxHeartbeats 1000000 in
theorem check_any (v : Value) (ps : List Post) (w : World) (hr : PRow w v ps) (hl : ps.length ≤ 1000000000) : Calls Try.prog 9 #[v] w fun e w' => e = .returned (.int .i64 (if isL ps = true then 0 else 80)) ∧ Below w.heap.size w w' := by
  have HD := Lib.hid (docs_any v ps w hr hl)
  have HC := Lib.hid (fun W (hb : Below w.heap.size w W) => contains_any v ps W (hr.below hb))
  obtain ⟨p, cap, rfl, hlc, hcm, _⟩ := hr.shape
  unfold isL
  obtain ⟨D, hD⟩ : ∃ D, docsL ps = D := ⟨_, rfl⟩
  rw [hD] at HD ⊢
  obtain ⟨O, hO⟩ : ∃ O, ps.any oddL = O := ⟨_, rfl⟩
  rw [hO] at HC ⊢
  have HR0 : Hid (∀ W u, OwnI w.heap.size W u D → Calls Try.prog 27 #[u, .int .i64 65536] W fun e w' => e = .returned (.bool (riseL 65536 D)) ∧ W = w') := Lib.hid (fun W u h => rising_any u D 65536 W (OwnI.ion h))
  obtain ⟨R, hR⟩ : ∃ R, riseL 65536 D = R := ⟨_, rfl⟩
  rw [hR] at HR0 ⊢
  clear hr hD hO hR
  go_enter Try.func9, Try.ntmps9
  go_wp2_with fail
  refine HD.out.mono ?_
  rintro e w1 ⟨v1, rfl, ho1, hb1⟩
  have HR := Lib.hid (HR0.out w1 v1 ho1)
  have HC1 := Lib.hid (HC.out w1 hb1)
  have HB1 := Lib.hid hb1
  obtain ⟨p1, c1, rfl, _⟩ := (OwnI.irow ho1).shape
  clear HC HD ho1 hb1 HR0
  cases R with
  | false =>
    go_wp2_with fail
    refine HR.out.mono ?_
    rintro e w2 ⟨rfl, rfl⟩
    go_wp2_with fail
    go_ret
    exact ⟨rfl, HB1.out⟩
  | true =>
    go_wp2_with fail
    refine HR.out.mono ?_
    rintro e w2 ⟨rfl, rfl⟩
    go_wp2_with fail
    refine HC1.out.mono ?_
    rintro e w3 ⟨rfl, hb3⟩
    have HB3 := Lib.hid (grow HB1.out hb3)
    clear hb3 HC1
    cases O with
    | true =>
      go_wp2_with fail
      go_ret
      exact ⟨rfl, HB3.out⟩
    | false =>
      go_wp2_with fail
      go_ret
      exact ⟨rfl, HB3.out⟩
end Go.Proofs.Ytdgjbhejokmeoaa.PW
