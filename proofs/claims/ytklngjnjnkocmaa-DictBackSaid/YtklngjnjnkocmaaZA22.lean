/-
  Which entries may be: the reference's. No condition.
-/
import Derived.Test.YtklngjnjnkocmaaZA19
import Derived.Test.YtklngjnjnkocmaaZA21
import Derived.Laws.Cover1
set_option linter.unusedVariables false
namespace Go.Proofs.Ytklngjnjnkocmaa.DT
open Go Go.RowKit Go.Proofs.Ytklngjnjnkocmaa.MM Go.Proofs.Ytklngjnjnkocmaa.DM
open Go.Proofs.Ytklngjnjnkocmaa.EM (lessL less_bytes)

/-- The term ahead of the i-th. -/
def prevT (l : List Ent) : Nat → Option (List UInt8)
  | 0 => none
  | j + 1 => l[j]?.map (·.1)
theorem areR_drop {l : List Ent} {i : Nat} (hi : i < l.length) : areR (prevT l i) (l.drop i) = (okX l[i] && riseO (prevT l i) l[i].1 && areR (prevT l (i + 1)) (l.drop (i + 1))) := by
  rw [List.drop_eq_getElem_cons hi, areR_cons]
  simp [prevT, hi]
theorem areR_stop (l : List Ent) : areR (prevT l l.length) (l.drop l.length) = true := by
  rw [List.drop_length]
  cases prevT l l.length <;> rfl
theorem ok_short {x : Ent} (h : x.1.length < 1) : okX x = false := by unfold okX; rw [decide_eq_false (show ¬ 1 ≤ x.1.length by omega)]; simp
theorem ok_long {x : Ent} (h : 65 < x.1.length) : okX x = false := by unfold okX; rw [decide_eq_false (show ¬ x.1.length ≤ 65 by omega)]; simp
theorem ok_mid {x : Ent} (h1 : ¬ x.1.length < 1) (h2 : ¬ 65 < x.1.length) : okX x = (placeOk x.2.1 && placeOk x.2.2.1 && placeOk x.2.2.2) := by
  unfold okX
  rw [decide_eq_true (show 1 ≤ x.1.length by omega), decide_eq_true (show x.1.length ≤ 65 by omega)]
  simp
set_option maxRecDepth 100000 in
set_option maxHeartbeats 8000000 in
theorem rare_any (v : Value) (l : List Ent) (w : World) (hv : RAny entC w v l) : Calls Try.prog 30 #[v] w fun e w' => e = .returned (.bool (areD l)) ∧ Below w.heap.size w w' := by
  obtain ⟨p, cap, rfl, hlc, hcm, _⟩ := hv.shape
  unfold maxLen at hcm
  unfold areD
  by_cases hn : l.length ≤ 262144
  · have t1 : decide ((l.length : Int) > 262144) = false := by rw [decide_eq_false_iff_not]; omega
    have t2 : decide (l.length > 262144) = false := by rw [decide_eq_false_iff_not]; omega
    rw [decide_eq_true hn, Bool.true_and]
    obtain ⟨RES, hRES⟩ : ∃ RES, areR none l = RES := ⟨_, rfl⟩
    have H0 : Hid (areR (prevT l 0) (l.drop 0) = RES) := Lib.hid hRES
    rw [hRES]
    have HV := Lib.hid hv
    clear hv hRES
    go_enter Try.func30, Try.ntmps30
    go_wp2_with fail
    go_loopw [3] (fun iv wr => ∃ i : Nat, i ≤ l.length ∧ iv = .int .i64 i ∧ Hid (areR (prevT l i) (l.drop i) = RES) ∧ Hid (Below w.heap.size w wr)) (fun iv _ => l.length - (intOf iv).toNat)
    case atStart => exact ⟨0, by omega, rfl, H0, Lib.hid (Below.refl _ _)⟩
    case round =>
    obtain ⟨i, hi, rfl, HI, HB⟩ := hrel
    clear H0
    by_cases hlt : i < l.length
    · have q1 : decide ((i : Int) < (l.length : Int)) = true := by rw [decide_eq_true_eq]; omega
      have q2 : decide (i < l.length) = true := by rw [decide_eq_true_eq]; omega
      have q3 : (i : Int) < (l.length : Int) := by omega
      have hvw := RAny.below HV.out HB.out
      have HVW := Lib.hid hvw
      obtain ⟨b, off, rfl, hbl, _, c1, c2, c3, c4⟩ := ent_at hvw hlt
      have hnx := HI.out
      rw [areR_drop hlt] at hnx
      generalize l[i] = X at *
      have hxs := str_sz X.1
      have HN := Lib.hid hnx
      obtain ⟨wx, hwx⟩ : ∃ wx, wr.alloc (.cells #[.string ⟨X.1.toArray⟩, .int .i64 X.2.1, .int .i64 X.2.2.1, .int .i64 X.2.2.2] 42) = wx := ⟨_, rfl⟩
      obtain ⟨wd, hwd⟩ : ∃ wd, wx.drew = wd := ⟨_, rfl⟩
      have hbx : Below wr.heap.size wr wd := by rw [← hwd, ← hwx]; exact ((Below.refl _ _).alloc (Nat.le_refl _) _).drew
      have hfd : Four wd wr.heap.size 42 (.string ⟨X.1.toArray⟩) (.int .i64 X.2.1) (.int .i64 X.2.2.1) (.int .i64 X.2.2.2) := by rw [← hwd, ← hwx]; exact four_new wr 42 _ _ _ _
      have HWX := Lib.hid hwx
      have HWD := Lib.hid hwd
      have HBX := Lib.hid hbx
      have HF := Lib.hid hfd
      have HQL := Lib.hid hfd.lt
      have HBD := Lib.hid (HB.out.trans (hbx.mono HB.out.size))
      clear hwx hwd hbx hfd hvw hnx HI
      by_cases hA : X.1.length < 1
      · have q5 : decide ((X.1.length : Int) < 1) = true := by rw [decide_eq_true_eq]; omega
        have q6 : decide (X.1.length < 1) = true := decide_eq_true hA
        have hf : RES = false := by rw [← HN.out, ok_short hA]; rfl
        subst hf
        clear HB
        go_wp2_with fail
        clear c1 c2 c3 c4
        refine RG.begin_ [(0, true), (1, true), (2, true), (3, true), (4, true), (5, true), (6, true), (7, true), (8, true), (9, true), (10, true), (11, true), (12, true), (13, false), (14, true), (15, true), (16, true), (17, true), (18, true), (19, false), (20, true), (21, true), (22, true), (23, true), (24, true), (25, false), (26, true), (27, true), (28, true), (29, true), (30, true), (31, true), (32, true), (33, true), (34, true), (35, true), (36, true), (37, true), (38, true), (39, true), (40, true), (41, true), (42, true)] (by kernel_rfl) (by kernel_rfl) rfl (by kernel_rfl) (fun _ _ d _ _ h => by cases d <;> exact h) ?_
        simp only [RG.ordered, List.map_cons, List.map_nil, List.getElem?_toArray, List.getElem?_cons_succ, List.getElem?_cons_zero]
        rw [HWX.out, HWD.out]
        have f1 := fun W (hW : RG.Grew wd W) => (hW.cell (p := ⟨wr.heap.size, 0, none⟩) HQL.out).trans HF.out.c0
        have f2 := fun W (hW : RG.Grew wd W) => (hW.cell (p := ⟨wr.heap.size, 1, none⟩) HQL.out).trans HF.out.c1
        have f3 := fun W (hW : RG.Grew wd W) => (hW.cell (p := ⟨wr.heap.size, 2, none⟩) HQL.out).trans HF.out.c2
        have f4 := fun W (hW : RG.Grew wd W) => (hW.cell (p := ⟨wr.heap.size, 3, none⟩) HQL.out).trans HF.out.c3
        repeat ((first | (refine RG.take (by rfl) (by intro W hW; go_simp; with_reducible rfl) ?_) | (refine RG.skip (by rfl) ?_) | (refine RG.alone_skip (by rfl) ?_)); simp only [Act.put, List.setIfInBounds_toArray, List.set_cons_zero, List.set_cons_succ])
        refine RG.done ?_
        clear f1 f2 f3 f4
        go_wp2_with fail
        go_ret
        exact ⟨rfl, HBD.out⟩
      · have q5 : decide ((X.1.length : Int) < 1) = false := by rw [decide_eq_false_iff_not]; omega
        have q6 : decide (X.1.length < 1) = false := decide_eq_false hA
        by_cases hB : 65 < X.1.length
        · have q7 : decide ((X.1.length : Int) > 65) = true := by rw [decide_eq_true_eq]; omega
          have q8 : decide (65 < X.1.length) = true := decide_eq_true hB
          have hf : RES = false := by rw [← HN.out, ok_long hB]; rfl
          subst hf
          clear HB
          go_wp2_with fail
          clear c1 c2 c3 c4
          refine RG.begin_ [(0, true), (1, true), (2, true), (3, true), (4, true), (5, true), (6, true), (7, true), (8, true), (9, true), (10, true), (11, true), (12, true), (13, false), (14, true), (15, true), (16, true), (17, true), (18, true), (19, false), (20, true), (21, true), (22, true), (23, true), (24, true), (25, false), (26, true), (27, true), (28, true), (29, true), (30, true), (31, true), (32, true), (33, true), (34, true), (35, true), (36, true), (37, true), (38, true), (39, true), (40, true), (41, true), (42, true)] (by kernel_rfl) (by kernel_rfl) rfl (by kernel_rfl) (fun _ _ d _ _ h => by cases d <;> exact h) ?_
          simp only [RG.ordered, List.map_cons, List.map_nil, List.getElem?_toArray, List.getElem?_cons_succ, List.getElem?_cons_zero]
          rw [HWX.out, HWD.out]
          have f1 := fun W (hW : RG.Grew wd W) => (hW.cell (p := ⟨wr.heap.size, 0, none⟩) HQL.out).trans HF.out.c0
          have f2 := fun W (hW : RG.Grew wd W) => (hW.cell (p := ⟨wr.heap.size, 1, none⟩) HQL.out).trans HF.out.c1
          have f3 := fun W (hW : RG.Grew wd W) => (hW.cell (p := ⟨wr.heap.size, 2, none⟩) HQL.out).trans HF.out.c2
          have f4 := fun W (hW : RG.Grew wd W) => (hW.cell (p := ⟨wr.heap.size, 3, none⟩) HQL.out).trans HF.out.c3
          repeat ((first | (refine RG.take (by rfl) (by intro W hW; go_simp; with_reducible rfl) ?_) | (refine RG.skip (by rfl) ?_) | (refine RG.alone_skip (by rfl) ?_)); simp only [Act.put, List.setIfInBounds_toArray, List.set_cons_zero, List.set_cons_succ])
          refine RG.done ?_
          clear f1 f2 f3 f4
          go_wp2_with fail
          go_ret
          exact ⟨rfl, HBD.out⟩
        · have q7 : decide ((X.1.length : Int) > 65) = false := by rw [decide_eq_false_iff_not]; omega
          have q8 : decide (65 < X.1.length) = false := decide_eq_false hB
          have hok := ok_mid hA hB
          rcases Bool.eq_false_or_eq_true (placeOk X.2.1) with p1 | p1
          rotate_left
          · skip
            have hf : RES = false := by rw [← HN.out, hok, p1]; simp
            subst hf
            clear HB
            go_wp2_with fail
            clear c1 c2 c3 c4
            refine RG.begin_ [(0, true), (1, true), (2, true), (3, true), (4, true), (5, true), (6, true), (7, true), (8, true), (9, true), (10, true), (11, true), (12, true), (13, false), (14, true), (15, true), (16, true), (17, true), (18, true), (19, false), (20, true), (21, true), (22, true), (23, true), (24, true), (25, false), (26, true), (27, true), (28, true), (29, true), (30, true), (31, true), (32, true), (33, true), (34, true), (35, true), (36, true), (37, true), (38, true), (39, true), (40, true), (41, true), (42, true)] (by kernel_rfl) (by kernel_rfl) rfl (by kernel_rfl) (fun _ _ d _ _ h => by cases d <;> exact h) ?_
            simp only [RG.ordered, List.map_cons, List.map_nil, List.getElem?_toArray, List.getElem?_cons_succ, List.getElem?_cons_zero]
            rw [HWX.out, HWD.out]
            have f1 := fun W (hW : RG.Grew wd W) => (hW.cell (p := ⟨wr.heap.size, 0, none⟩) HQL.out).trans HF.out.c0
            have f2 := fun W (hW : RG.Grew wd W) => (hW.cell (p := ⟨wr.heap.size, 1, none⟩) HQL.out).trans HF.out.c1
            have f3 := fun W (hW : RG.Grew wd W) => (hW.cell (p := ⟨wr.heap.size, 2, none⟩) HQL.out).trans HF.out.c2
            have f4 := fun W (hW : RG.Grew wd W) => (hW.cell (p := ⟨wr.heap.size, 3, none⟩) HQL.out).trans HF.out.c3
            repeat ((first | (refine RG.take (by rfl) (by intro W hW; go_simp; with_reducible rfl) ?_) | (refine RG.skip (by rfl) ?_) | (refine RG.alone_skip (by rfl) ?_)); simp only [Act.put, List.setIfInBounds_toArray, List.set_cons_zero, List.set_cons_succ])
            refine RG.alone (by rfl) (fun K hK => ?_)
            go_simp
            refine (rplace_any X.2.1 _).mono ?_
            rintro e w3 ⟨rfl, rfl⟩
            rw [p1]
            go_simp
            refine hK.out _ _ (Below.refl _ _) ?_
            clear hK K
            repeat ((first | (refine RG.take (by rfl) (by intro W hW; go_simp; with_reducible rfl) ?_) | (refine RG.skip (by rfl) ?_) | (refine RG.alone_skip (by rfl) ?_)); simp only [Act.put, List.setIfInBounds_toArray, List.set_cons_zero, List.set_cons_succ])
            refine RG.done ?_
            clear f1 f2 f3 f4
            go_wp2_with fail
            go_ret
            exact ⟨rfl, HBD.out⟩
          · skip
            rcases Bool.eq_false_or_eq_true (placeOk X.2.2.1) with p2 | p2
            rotate_left
            · skip
              have hf : RES = false := by rw [← HN.out, hok, p2]; simp
              subst hf
              clear HB
              go_wp2_with fail
              clear c1 c2 c3 c4
              refine RG.begin_ [(0, true), (1, true), (2, true), (3, true), (4, true), (5, true), (6, true), (7, true), (8, true), (9, true), (10, true), (11, true), (12, true), (13, false), (14, true), (15, true), (16, true), (17, true), (18, true), (19, false), (20, true), (21, true), (22, true), (23, true), (24, true), (25, false), (26, true), (27, true), (28, true), (29, true), (30, true), (31, true), (32, true), (33, true), (34, true), (35, true), (36, true), (37, true), (38, true), (39, true), (40, true), (41, true), (42, true)] (by kernel_rfl) (by kernel_rfl) rfl (by kernel_rfl) (fun _ _ d _ _ h => by cases d <;> exact h) ?_
              simp only [RG.ordered, List.map_cons, List.map_nil, List.getElem?_toArray, List.getElem?_cons_succ, List.getElem?_cons_zero]
              rw [HWX.out, HWD.out]
              have f1 := fun W (hW : RG.Grew wd W) => (hW.cell (p := ⟨wr.heap.size, 0, none⟩) HQL.out).trans HF.out.c0
              have f2 := fun W (hW : RG.Grew wd W) => (hW.cell (p := ⟨wr.heap.size, 1, none⟩) HQL.out).trans HF.out.c1
              have f3 := fun W (hW : RG.Grew wd W) => (hW.cell (p := ⟨wr.heap.size, 2, none⟩) HQL.out).trans HF.out.c2
              have f4 := fun W (hW : RG.Grew wd W) => (hW.cell (p := ⟨wr.heap.size, 3, none⟩) HQL.out).trans HF.out.c3
              repeat ((first | (refine RG.take (by rfl) (by intro W hW; go_simp; with_reducible rfl) ?_) | (refine RG.skip (by rfl) ?_) | (refine RG.alone_skip (by rfl) ?_)); simp only [Act.put, List.setIfInBounds_toArray, List.set_cons_zero, List.set_cons_succ])
              refine RG.alone (by rfl) (fun K hK => ?_)
              go_simp
              refine (rplace_any X.2.1 _).mono ?_
              rintro e w3 ⟨rfl, rfl⟩
              rw [p1]
              go_simp
              refine hK.out _ _ (Below.refl _ _) ?_
              clear hK K
              repeat ((first | (refine RG.take (by rfl) (by intro W hW; go_simp; with_reducible rfl) ?_) | (refine RG.skip (by rfl) ?_) | (refine RG.alone_skip (by rfl) ?_)); simp only [Act.put, List.setIfInBounds_toArray, List.set_cons_zero, List.set_cons_succ])
              refine RG.alone (by rfl) (fun K hK => ?_)
              go_simp
              refine (rplace_any X.2.2.1 _).mono ?_
              rintro e w3 ⟨rfl, rfl⟩
              rw [p2]
              go_simp
              refine hK.out _ _ (Below.refl _ _) ?_
              clear hK K
              repeat ((first | (refine RG.take (by rfl) (by intro W hW; go_simp; with_reducible rfl) ?_) | (refine RG.skip (by rfl) ?_) | (refine RG.alone_skip (by rfl) ?_)); simp only [Act.put, List.setIfInBounds_toArray, List.set_cons_zero, List.set_cons_succ])
              refine RG.done ?_
              clear f1 f2 f3 f4
              go_wp2_with fail
              go_ret
              exact ⟨rfl, HBD.out⟩
            · skip
              rcases Bool.eq_false_or_eq_true (placeOk X.2.2.2) with p3 | p3
              rotate_left
              · skip
                have hf : RES = false := by rw [← HN.out, hok, p3]; simp
                subst hf
                clear HB
                go_wp2_with fail
                clear c1 c2 c3 c4
                refine RG.begin_ [(0, true), (1, true), (2, true), (3, true), (4, true), (5, true), (6, true), (7, true), (8, true), (9, true), (10, true), (11, true), (12, true), (13, false), (14, true), (15, true), (16, true), (17, true), (18, true), (19, false), (20, true), (21, true), (22, true), (23, true), (24, true), (25, false), (26, true), (27, true), (28, true), (29, true), (30, true), (31, true), (32, true), (33, true), (34, true), (35, true), (36, true), (37, true), (38, true), (39, true), (40, true), (41, true), (42, true)] (by kernel_rfl) (by kernel_rfl) rfl (by kernel_rfl) (fun _ _ d _ _ h => by cases d <;> exact h) ?_
                simp only [RG.ordered, List.map_cons, List.map_nil, List.getElem?_toArray, List.getElem?_cons_succ, List.getElem?_cons_zero]
                rw [HWX.out, HWD.out]
                have f1 := fun W (hW : RG.Grew wd W) => (hW.cell (p := ⟨wr.heap.size, 0, none⟩) HQL.out).trans HF.out.c0
                have f2 := fun W (hW : RG.Grew wd W) => (hW.cell (p := ⟨wr.heap.size, 1, none⟩) HQL.out).trans HF.out.c1
                have f3 := fun W (hW : RG.Grew wd W) => (hW.cell (p := ⟨wr.heap.size, 2, none⟩) HQL.out).trans HF.out.c2
                have f4 := fun W (hW : RG.Grew wd W) => (hW.cell (p := ⟨wr.heap.size, 3, none⟩) HQL.out).trans HF.out.c3
                repeat ((first | (refine RG.take (by rfl) (by intro W hW; go_simp; with_reducible rfl) ?_) | (refine RG.skip (by rfl) ?_) | (refine RG.alone_skip (by rfl) ?_)); simp only [Act.put, List.setIfInBounds_toArray, List.set_cons_zero, List.set_cons_succ])
                refine RG.alone (by rfl) (fun K hK => ?_)
                go_simp
                refine (rplace_any X.2.1 _).mono ?_
                rintro e w3 ⟨rfl, rfl⟩
                rw [p1]
                go_simp
                refine hK.out _ _ (Below.refl _ _) ?_
                clear hK K
                repeat ((first | (refine RG.take (by rfl) (by intro W hW; go_simp; with_reducible rfl) ?_) | (refine RG.skip (by rfl) ?_) | (refine RG.alone_skip (by rfl) ?_)); simp only [Act.put, List.setIfInBounds_toArray, List.set_cons_zero, List.set_cons_succ])
                refine RG.alone (by rfl) (fun K hK => ?_)
                go_simp
                refine (rplace_any X.2.2.1 _).mono ?_
                rintro e w3 ⟨rfl, rfl⟩
                rw [p2]
                go_simp
                refine hK.out _ _ (Below.refl _ _) ?_
                clear hK K
                repeat ((first | (refine RG.take (by rfl) (by intro W hW; go_simp; with_reducible rfl) ?_) | (refine RG.skip (by rfl) ?_) | (refine RG.alone_skip (by rfl) ?_)); simp only [Act.put, List.setIfInBounds_toArray, List.set_cons_zero, List.set_cons_succ])
                refine RG.alone (by rfl) (fun K hK => ?_)
                go_simp
                refine (rplace_any X.2.2.2 _).mono ?_
                rintro e w3 ⟨rfl, rfl⟩
                rw [p3]
                go_simp
                refine hK.out _ _ (Below.refl _ _) ?_
                clear hK K
                repeat ((first | (refine RG.take (by rfl) (by intro W hW; go_simp; with_reducible rfl) ?_) | (refine RG.skip (by rfl) ?_) | (refine RG.alone_skip (by rfl) ?_)); simp only [Act.put, List.setIfInBounds_toArray, List.set_cons_zero, List.set_cons_succ])
                refine RG.done ?_
                clear f1 f2 f3 f4
                go_wp2_with fail
                go_ret
                exact ⟨rfl, HBD.out⟩
              · skip
                rw [p1, p2, p3] at hok
                rcases Nat.eq_zero_or_pos i with h0 | h0
                · have q9 : decide ((i : Int) > 0) = false := by rw [decide_eq_false_iff_not]; omega
                  have q10 : decide (0 < i) = false := by rw [decide_eq_false_iff_not]; omega
                  have hf : areR (prevT l (i + 1)) (l.drop (i + 1)) = RES := by rw [← HN.out, hok, h0]; rfl
                  have HN2 := Lib.hid hf
                  clear hf h0
                  clear HB
                  go_wp2_with fail
                  clear c1 c2 c3 c4
                  refine RG.begin_ [(0, true), (1, true), (2, true), (3, true), (4, true), (5, true), (6, true), (7, true), (8, true), (9, true), (10, true), (11, true), (12, true), (13, false), (14, true), (15, true), (16, true), (17, true), (18, true), (19, false), (20, true), (21, true), (22, true), (23, true), (24, true), (25, false), (26, true), (27, true), (28, true), (29, true), (30, true), (31, true), (32, true), (33, true), (34, true), (35, true), (36, true), (37, true), (38, true), (39, true), (40, true), (41, true), (42, true)] (by kernel_rfl) (by kernel_rfl) rfl (by kernel_rfl) (fun _ _ d _ _ h => by cases d <;> exact h) ?_
                  simp only [RG.ordered, List.map_cons, List.map_nil, List.getElem?_toArray, List.getElem?_cons_succ, List.getElem?_cons_zero]
                  rw [HWX.out, HWD.out]
                  have f1 := fun W (hW : RG.Grew wd W) => (hW.cell (p := ⟨wr.heap.size, 0, none⟩) HQL.out).trans HF.out.c0
                  have f2 := fun W (hW : RG.Grew wd W) => (hW.cell (p := ⟨wr.heap.size, 1, none⟩) HQL.out).trans HF.out.c1
                  have f3 := fun W (hW : RG.Grew wd W) => (hW.cell (p := ⟨wr.heap.size, 2, none⟩) HQL.out).trans HF.out.c2
                  have f4 := fun W (hW : RG.Grew wd W) => (hW.cell (p := ⟨wr.heap.size, 3, none⟩) HQL.out).trans HF.out.c3
                  repeat ((first | (refine RG.take (by rfl) (by intro W hW; go_simp; with_reducible rfl) ?_) | (refine RG.skip (by rfl) ?_) | (refine RG.alone_skip (by rfl) ?_)); simp only [Act.put, List.setIfInBounds_toArray, List.set_cons_zero, List.set_cons_succ])
                  refine RG.alone (by rfl) (fun K hK => ?_)
                  go_simp
                  refine (rplace_any X.2.1 _).mono ?_
                  rintro e w3 ⟨rfl, rfl⟩
                  rw [p1]
                  go_simp
                  refine hK.out _ _ (Below.refl _ _) ?_
                  clear hK K
                  repeat ((first | (refine RG.take (by rfl) (by intro W hW; go_simp; with_reducible rfl) ?_) | (refine RG.skip (by rfl) ?_) | (refine RG.alone_skip (by rfl) ?_)); simp only [Act.put, List.setIfInBounds_toArray, List.set_cons_zero, List.set_cons_succ])
                  refine RG.alone (by rfl) (fun K hK => ?_)
                  go_simp
                  refine (rplace_any X.2.2.1 _).mono ?_
                  rintro e w3 ⟨rfl, rfl⟩
                  rw [p2]
                  go_simp
                  refine hK.out _ _ (Below.refl _ _) ?_
                  clear hK K
                  repeat ((first | (refine RG.take (by rfl) (by intro W hW; go_simp; with_reducible rfl) ?_) | (refine RG.skip (by rfl) ?_) | (refine RG.alone_skip (by rfl) ?_)); simp only [Act.put, List.setIfInBounds_toArray, List.set_cons_zero, List.set_cons_succ])
                  refine RG.alone (by rfl) (fun K hK => ?_)
                  go_simp
                  refine (rplace_any X.2.2.2 _).mono ?_
                  rintro e w3 ⟨rfl, rfl⟩
                  rw [p3]
                  go_simp
                  refine hK.out _ _ (Below.refl _ _) ?_
                  clear hK K
                  repeat ((first | (refine RG.take (by rfl) (by intro W hW; go_simp; with_reducible rfl) ?_) | (refine RG.skip (by rfl) ?_) | (refine RG.alone_skip (by rfl) ?_)); simp only [Act.put, List.setIfInBounds_toArray, List.set_cons_zero, List.set_cons_succ])
                  refine RG.done ?_
                  clear f1 f2 f3 f4
                  go_wp2_with fail
                  go_roundw
                  case rel => exact ⟨i + 1, by omega, by go_num, HN2, HBD⟩
                  case measure => simp [intOf]; omega
                · obtain ⟨j, rfl⟩ : ∃ j, i = j + 1 := ⟨i - 1, by omega⟩
                  have hP : prevT l (j + 1) = some (l[j]'(by omega)).1 := by unfold prevT; simp [show j < l.length by omega]
                  obtain ⟨b', off', hbo, hbl', _, e1, _, _, _⟩ := ent_at HVW.out (show j < l.length by omega)
                  obtain ⟨rfl, rfl⟩ : b = b' ∧ off = off' := by simpa using hbo
                  generalize l[j]'(by omega) = P at *
                  have HPC := Lib.hid ((HBX.out.cell (p := ⟨b, off + j * 4, none⟩) hbl').trans e1)
                  have HPL := Lib.hid (show b < wd.heap.size by have := HBX.out.size; omega)
                  have hlb := less_bytes P.1 X.1
                  have q9 : decide (((j : Int) + 1) > 0) = true := by rw [decide_eq_true_eq]; omega
                  have q10 : (j : Int) < (l.length : Int) := by omega
                  have q11 : IntKind.i64.wrap (j : Int) = (j : Int) := by rw [IntKind.wrap_i64]; omega
                  have HOK := Lib.hid hok
                  have HPP := Lib.hid hP
                  clear hok hP e1 hbl'
                  rcases Bool.eq_false_or_eq_true (lessL P.1 X.1) with hq | hq
                  rotate_left
                  · rw [hq] at hlb
                    have hf : RES = false := by rw [← HN.out, HOK.out, HPP.out]; simp [riseO, hq]
                    subst hf
                    clear HB
                    go_wp2_with fail
                    clear c1 c2 c3 c4
                    refine RG.begin_ [(0, true), (1, true), (2, true), (3, true), (4, true), (5, true), (6, true), (7, true), (8, true), (9, true), (10, true), (11, true), (12, true), (13, false), (14, true), (15, true), (16, true), (17, true), (18, true), (19, false), (20, true), (21, true), (22, true), (23, true), (24, true), (25, false), (26, true), (27, true), (28, true), (29, true), (30, true), (31, true), (32, true), (33, true), (34, true), (35, true), (36, true), (37, true), (38, true), (39, true), (40, true), (41, true), (42, true)] (by kernel_rfl) (by kernel_rfl) rfl (by kernel_rfl) (fun _ _ d _ _ h => by cases d <;> exact h) ?_
                    simp only [RG.ordered, List.map_cons, List.map_nil, List.getElem?_toArray, List.getElem?_cons_succ, List.getElem?_cons_zero]
                    rw [HWX.out, HWD.out]
                    have f1 := fun W (hW : RG.Grew wd W) => (hW.cell (p := ⟨wr.heap.size, 0, none⟩) HQL.out).trans HF.out.c0
                    have f2 := fun W (hW : RG.Grew wd W) => (hW.cell (p := ⟨wr.heap.size, 1, none⟩) HQL.out).trans HF.out.c1
                    have f3 := fun W (hW : RG.Grew wd W) => (hW.cell (p := ⟨wr.heap.size, 2, none⟩) HQL.out).trans HF.out.c2
                    have f4 := fun W (hW : RG.Grew wd W) => (hW.cell (p := ⟨wr.heap.size, 3, none⟩) HQL.out).trans HF.out.c3
                    have f5 := fun W (hW : RG.Grew wd W) => (hW.cell (p := ⟨b, off + j * 4, none⟩) HPL.out).trans HPC.out
                    repeat ((first | (refine RG.take (by rfl) (by intro W hW; go_simp; with_reducible rfl) ?_) | (refine RG.skip (by rfl) ?_) | (refine RG.alone_skip (by rfl) ?_)); simp only [Act.put, List.setIfInBounds_toArray, List.set_cons_zero, List.set_cons_succ])
                    refine RG.alone (by rfl) (fun K hK => ?_)
                    go_simp
                    refine (rplace_any X.2.1 _).mono ?_
                    rintro e w3 ⟨rfl, rfl⟩
                    rw [p1]
                    go_simp
                    refine hK.out _ _ (Below.refl _ _) ?_
                    clear hK K
                    repeat ((first | (refine RG.take (by rfl) (by intro W hW; go_simp; with_reducible rfl) ?_) | (refine RG.skip (by rfl) ?_) | (refine RG.alone_skip (by rfl) ?_)); simp only [Act.put, List.setIfInBounds_toArray, List.set_cons_zero, List.set_cons_succ])
                    refine RG.alone (by rfl) (fun K hK => ?_)
                    go_simp
                    refine (rplace_any X.2.2.1 _).mono ?_
                    rintro e w3 ⟨rfl, rfl⟩
                    rw [p2]
                    go_simp
                    refine hK.out _ _ (Below.refl _ _) ?_
                    clear hK K
                    repeat ((first | (refine RG.take (by rfl) (by intro W hW; go_simp; with_reducible rfl) ?_) | (refine RG.skip (by rfl) ?_) | (refine RG.alone_skip (by rfl) ?_)); simp only [Act.put, List.setIfInBounds_toArray, List.set_cons_zero, List.set_cons_succ])
                    refine RG.alone (by rfl) (fun K hK => ?_)
                    go_simp
                    refine (rplace_any X.2.2.2 _).mono ?_
                    rintro e w3 ⟨rfl, rfl⟩
                    rw [p3]
                    go_simp
                    refine hK.out _ _ (Below.refl _ _) ?_
                    clear hK K
                    repeat ((first | (refine RG.take (by rfl) (by intro W hW; go_simp; with_reducible rfl) ?_) | (refine RG.skip (by rfl) ?_) | (refine RG.alone_skip (by rfl) ?_)); simp only [Act.put, List.setIfInBounds_toArray, List.set_cons_zero, List.set_cons_succ])
                    refine RG.done ?_
                    clear f1 f2 f3 f4 f5
                    go_wp2_with fail
                    go_ret
                    exact ⟨rfl, HBD.out⟩
                  · rw [hq] at hlb
                    have hf : areR (prevT l (j + 1 + 1)) (l.drop (j + 1 + 1)) = RES := by rw [← HN.out, HOK.out, HPP.out]; simp [riseO, hq]
                    have HN2 := Lib.hid hf
                    clear hf
                    clear HB
                    go_wp2_with fail
                    clear c1 c2 c3 c4
                    refine RG.begin_ [(0, true), (1, true), (2, true), (3, true), (4, true), (5, true), (6, true), (7, true), (8, true), (9, true), (10, true), (11, true), (12, true), (13, false), (14, true), (15, true), (16, true), (17, true), (18, true), (19, false), (20, true), (21, true), (22, true), (23, true), (24, true), (25, false), (26, true), (27, true), (28, true), (29, true), (30, true), (31, true), (32, true), (33, true), (34, true), (35, true), (36, true), (37, true), (38, true), (39, true), (40, true), (41, true), (42, true)] (by kernel_rfl) (by kernel_rfl) rfl (by kernel_rfl) (fun _ _ d _ _ h => by cases d <;> exact h) ?_
                    simp only [RG.ordered, List.map_cons, List.map_nil, List.getElem?_toArray, List.getElem?_cons_succ, List.getElem?_cons_zero]
                    rw [HWX.out, HWD.out]
                    have f1 := fun W (hW : RG.Grew wd W) => (hW.cell (p := ⟨wr.heap.size, 0, none⟩) HQL.out).trans HF.out.c0
                    have f2 := fun W (hW : RG.Grew wd W) => (hW.cell (p := ⟨wr.heap.size, 1, none⟩) HQL.out).trans HF.out.c1
                    have f3 := fun W (hW : RG.Grew wd W) => (hW.cell (p := ⟨wr.heap.size, 2, none⟩) HQL.out).trans HF.out.c2
                    have f4 := fun W (hW : RG.Grew wd W) => (hW.cell (p := ⟨wr.heap.size, 3, none⟩) HQL.out).trans HF.out.c3
                    have f5 := fun W (hW : RG.Grew wd W) => (hW.cell (p := ⟨b, off + j * 4, none⟩) HPL.out).trans HPC.out
                    repeat ((first | (refine RG.take (by rfl) (by intro W hW; go_simp; with_reducible rfl) ?_) | (refine RG.skip (by rfl) ?_) | (refine RG.alone_skip (by rfl) ?_)); simp only [Act.put, List.setIfInBounds_toArray, List.set_cons_zero, List.set_cons_succ])
                    refine RG.alone (by rfl) (fun K hK => ?_)
                    go_simp
                    refine (rplace_any X.2.1 _).mono ?_
                    rintro e w3 ⟨rfl, rfl⟩
                    rw [p1]
                    go_simp
                    refine hK.out _ _ (Below.refl _ _) ?_
                    clear hK K
                    repeat ((first | (refine RG.take (by rfl) (by intro W hW; go_simp; with_reducible rfl) ?_) | (refine RG.skip (by rfl) ?_) | (refine RG.alone_skip (by rfl) ?_)); simp only [Act.put, List.setIfInBounds_toArray, List.set_cons_zero, List.set_cons_succ])
                    refine RG.alone (by rfl) (fun K hK => ?_)
                    go_simp
                    refine (rplace_any X.2.2.1 _).mono ?_
                    rintro e w3 ⟨rfl, rfl⟩
                    rw [p2]
                    go_simp
                    refine hK.out _ _ (Below.refl _ _) ?_
                    clear hK K
                    repeat ((first | (refine RG.take (by rfl) (by intro W hW; go_simp; with_reducible rfl) ?_) | (refine RG.skip (by rfl) ?_) | (refine RG.alone_skip (by rfl) ?_)); simp only [Act.put, List.setIfInBounds_toArray, List.set_cons_zero, List.set_cons_succ])
                    refine RG.alone (by rfl) (fun K hK => ?_)
                    go_simp
                    refine (rplace_any X.2.2.2 _).mono ?_
                    rintro e w3 ⟨rfl, rfl⟩
                    rw [p3]
                    go_simp
                    refine hK.out _ _ (Below.refl _ _) ?_
                    clear hK K
                    repeat ((first | (refine RG.take (by rfl) (by intro W hW; go_simp; with_reducible rfl) ?_) | (refine RG.skip (by rfl) ?_) | (refine RG.alone_skip (by rfl) ?_)); simp only [Act.put, List.setIfInBounds_toArray, List.set_cons_zero, List.set_cons_succ])
                    refine RG.done ?_
                    clear f1 f2 f3 f4 f5
                    go_wp2_with fail
                    go_roundw
                    case rel => exact ⟨j + 1 + 1, by omega, by go_num, HN2, HBD⟩
                    case measure => simp [intOf]; omega
    · obtain rfl : i = l.length := by omega
      have q1 : decide ((l.length : Int) < (l.length : Int)) = false := by simp
      have q2 : decide (l.length < l.length) = false := by simp
      have hf := HI.out
      rw [areR_stop] at hf
      subst hf
      clear HI hlt
      go_wp2_with fail
      go_ret
      exact ⟨rfl, HB.out⟩
  · have t1 : decide ((l.length : Int) > 262144) = true := by rw [decide_eq_true_eq]; omega
    have t2 : decide (l.length > 262144) = true := by rw [decide_eq_true_eq]; omega
    rw [decide_eq_false hn, Bool.false_and]
    clear hn hv
    go_enter Try.func30, Try.ntmps30
    go_wp2_with fail
    go_ret
    exact ⟨rfl, Below.refl _ _⟩
end Go.Proofs.Ytklngjnjnkocmaa.DT
