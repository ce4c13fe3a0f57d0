/-
  The law DiskNobody: disks that nobody made. Condition: the op is data.
-/
import Derived.Test.YtkpbgpnpheaegaaDskShort
import Derived.Test.YtkpbgpnpheaegaaDskNob
import Derived.Test.YtkpbgpnpheaegaaRegK
set_option linter.unusedVariables false
namespace Go.Proofs.Ytkpbgpnpheaegaa.DK
open Go.RowKit Go.Proofs.Ytkpbgpnpheaegaa.MM Go.Maps

theorem op_seven {w : World} {g : Nat} {c0 c1 c2 c3 c4 c5 c6 : Value} (h : w.heap[g]? = some (.cells #[c0, c1, c2, c3, c4, c5, c6] 39 (0, 0))) (u0 u1 u2 u3 u4 u5 u6 : Value) :
    (((((((w.setCell ⟨g, 0, none⟩ u0).setCell ⟨g, 1, none⟩ u1).setCell ⟨g, 2, none⟩ u2).setCell ⟨g, 3, none⟩ u3).setCell ⟨g, 4, none⟩ u4).setCell ⟨g, 5, none⟩ u5).setCell ⟨g, 6, none⟩ u6).heap[g]? = some (.cells #[u0, u1, u2, u3, u4, u5, u6] 39 (0, 0)) := by
  have h1 := heap_setCell_same w g 0 _ _ u0 h
  simp only [List.setIfInBounds_toArray, List.set_cons_zero, List.set_cons_succ] at h1
  have h2 := heap_setCell_same _ g 1 _ _ u1 h1
  simp only [List.setIfInBounds_toArray, List.set_cons_zero, List.set_cons_succ] at h2
  have h3 := heap_setCell_same _ g 2 _ _ u2 h2
  simp only [List.setIfInBounds_toArray, List.set_cons_zero, List.set_cons_succ] at h3
  have h4 := heap_setCell_same _ g 3 _ _ u3 h3
  simp only [List.setIfInBounds_toArray, List.set_cons_zero, List.set_cons_succ] at h4
  have h5 := heap_setCell_same _ g 4 _ _ u4 h4
  simp only [List.setIfInBounds_toArray, List.set_cons_zero, List.set_cons_succ] at h5
  have h6 := heap_setCell_same _ g 5 _ _ u5 h5
  simp only [List.setIfInBounds_toArray, List.set_cons_zero, List.set_cons_succ] at h6
  have h7 := heap_setCell_same _ g 6 _ _ u6 h6
  simp only [List.setIfInBounds_toArray, List.set_cons_zero, List.set_cons_succ] at h7
  exact h7
theorem below_seven {w w' : World} {g B : Nat} (h : Below B w w') (hg : B ≤ g) (u0 u1 u2 u3 u4 u5 u6 : Value) :
    Below B w (((((((w'.setCell ⟨g, 0, none⟩ u0).setCell ⟨g, 1, none⟩ u1).setCell ⟨g, 2, none⟩ u2).setCell ⟨g, 3, none⟩ u3).setCell ⟨g, 4, none⟩ u4).setCell ⟨g, 5, none⟩ u5).setCell ⟨g, 6, none⟩ u6) :=
  ((((((h.setCell (p := ⟨g, 0, none⟩) hg u0).setCell (p := ⟨g, 1, none⟩) hg u1).setCell (p := ⟨g, 2, none⟩) hg u2).setCell (p := ⟨g, 3, none⟩) hg u3).setCell (p := ⟨g, 4, none⟩) hg u4).setCell (p := ⟨g, 5, none⟩) hg u5).setCell (p := ⟨g, 6, none⟩) hg u6
set_option maxRecDepth 100000 in
set_option maxHeartbeats 4000000 in
theorem nobody_walk (B : Nat) (v : Value) (o : OpD) (w : World) (h : OpIn B w v o) (hB : B ≤ w.heap.size) : Calls Try.prog 7 #[v] w fun e w' => e = .returned (.bool true) ∧ Below w.heap.size w w' := by
  obtain ⟨vb, vk, rfl, hb, hk⟩ := h.val
  obtain ⟨pb, cb, rfl, _, _⟩ := hb.shape
  obtain ⟨pk, ck, rfl, _, _, _⟩ := id hk
  obtain ⟨V, hV⟩ : ∃ V, Value.agg (opCells o (.slice pb o.b.length cb) (.slice pk (o.keep.map (Value.int .i64)).length ck)) = V := ⟨_, rfl⟩
  have hba : ∀ (W : World) o, Below W.heap.size W (W.alloc o) := fun W o => (Below.refl _ _).alloc (Nat.le_refl _) _
  have HBA := Lib.hid hba
  have HS := Lib.hid (fun x => short_any B _ o (w.alloc x) (⟨⟨_, _, rfl, hb.below ((hba w x).mono hB), hk.below ((hba w x).mono hB)⟩, h.d, h.a0, h.a1, h.n0, h.n1, h.k, h.nl, h.tl⟩ : OpIn B (w.alloc x) (Value.agg (opCells o (.slice pb o.b.length cb) (.slice pk (o.keep.map (Value.int .i64)).length ck))) o) (Nat.le_trans hB (by simp)))
  unfold opCells at HS ⊢
  rw [List.length_map] at HS ⊢
  obtain ⟨s1, hs1⟩ : ∃ s : ByteArray, (⟨o.name.toArray⟩ : ByteArray) = s := ⟨_, rfl⟩
  obtain ⟨s2, hs2⟩ : ∃ s : ByteArray, (⟨o.to_.toArray⟩ : ByteArray) = s := ⟨_, rfl⟩
  rw [hs1, hs2] at HS
  rw [hs1, hs2]
  generalize o.b.length = lb at *
  generalize o.keep.length = lk at *
  clear h hb hk hba hV hs1 hs2
  go_enter Try.func7, Try.ntmps7
  go_wp2_with fail
  refine (HS.out _).mono ?_
  rintro e w1 ⟨v1, rfl, ho1, hb1⟩
  obtain ⟨vb1, vk1, rfl, hbb, hkk⟩ := ho1.val
  obtain ⟨pb1, cb1, rfl, _, _⟩ := hbb.shape
  obtain ⟨pk1, ck1, rfl, _, _, _⟩ := id hkk
  have hn1 : (shortD o).name.length ≤ 70 := by unfold shortD; simp only [List.length_take]; omega
  unfold opCells
  obtain ⟨r1, hr1⟩ : ∃ s : ByteArray, (⟨(shortD o).name.toArray⟩ : ByteArray) = s := ⟨_, rfl⟩
  obtain ⟨r2, hr2⟩ : ∃ s : ByteArray, (⟨(shortD o).to_.toArray⟩ : ByteArray) = s := ⟨_, rfl⟩
  have hsz : r1.size ≤ maxLen := by rw [← hr1, Lib.size_eq]; show (shortD o).name.length ≤ _; unfold maxLen; omega
  rw [hr1, hr2]
  generalize (shortD o).b.length = lb1 at *
  generalize ((shortD o).keep.map (Value.int .i64)).length = lk1 at *
  generalize (shortD o).a = oa at *
  generalize (shortD o).n = on at *
  generalize ((shortD o).do_ : Int) = od at *
  have hop := (hb1.block w.heap.size (by simp)).trans (heap_alloc_new w _)
  have hsw : w.heap.size < w1.heap.size := by have := hb1.size; simp at this; omega
  have hbw := (HBA.out w _).trans (hb1.mono (by simp))
  have HOP := Lib.hid (fun o1 o2 => ((HBA.out _ o1).trans ((HBA.out _ o2).mono (HBA.out _ o1).size)).block w.heap.size (by simp; omega) |>.trans (op_seven hop (.int .u8 od) (.string r1) (.string r2) (.slice pb1 lb1 cb1) (.int .i64 oa) (.int .i64 on) (.slice pk1 lk1 ck1)))
  have HBW := Lib.hid (fun o1 o2 => ((below_seven hbw (Nat.le_refl _) (.int .u8 od) (.string r1) (.string r2) (.slice pb1 lb1 cb1) (.int .i64 oa) (.int .i64 on) (.slice pk1 lk1 ck1)).alloc (by simp; omega) o1).alloc (by simp; omega) o2)
  have k0 : w1.cell? ⟨w.heap.size, 0, none⟩ = some (.int .u8 (o.do_ : Int)) := by rw [cell_of_row w1 w.heap.size 0 _ _ _ hop]; rfl
  have k1 : w1.cell? ⟨w.heap.size, 1, none⟩ = some (.string s1) := by rw [cell_of_row w1 w.heap.size 1 _ _ _ hop]; rfl
  have k2 : w1.cell? ⟨w.heap.size, 2, none⟩ = some (.string s2) := by rw [cell_of_row w1 w.heap.size 2 _ _ _ hop]; rfl
  have k3 : w1.cell? ⟨w.heap.size, 3, none⟩ = some (.slice pb lb cb) := by rw [cell_of_row w1 w.heap.size 3 _ _ _ hop]; rfl
  have k4 : w1.cell? ⟨w.heap.size, 4, none⟩ = some (.int .i64 o.a) := by rw [cell_of_row w1 w.heap.size 4 _ _ _ hop]; rfl
  have k5 : w1.cell? ⟨w.heap.size, 5, none⟩ = some (.int .i64 o.n) := by rw [cell_of_row w1 w.heap.size 5 _ _ _ hop]; rfl
  have k6 : w1.cell? ⟨w.heap.size, 6, none⟩ = some (.slice pk lk ck) := by rw [cell_of_row w1 w.heap.size 6 _ _ _ hop]; rfl
  have kf := fun k => frozen_of_row w1 w.heap.size k _ _ hop
  clear hop ho1 hb1 hbb hkk hr1 hr2 hn1 hbw HS
  go_wp2_with fail
  have hl : ∀ X : World, X.heap.size = w1.heap.size → ((X.alloc (.cells #[.map none, .int .i64 0, .int .i64 0, .bool false] 63)).alloc (.cells #[.pointer none, .pointer (some ⟨w1.heap.size, 0, none⟩)] 23)).heap[w1.heap.size + 1]? = some (.cells #[.pointer none, .pointer (some ⟨w1.heap.size, 0, none⟩)] 23) ∧ ((X.alloc (.cells #[.map none, .int .i64 0, .int .i64 0, .bool false] 63)).alloc (.cells #[.pointer none, .pointer (some ⟨w1.heap.size, 0, none⟩)] 23)).heap[w1.heap.size]? = some (.cells #[.map none, .int .i64 0, .int .i64 0, .bool false] 63) := fun X hX => by
    have a1 := heap_alloc_new (X.alloc (.cells #[.map none, .int .i64 0, .int .i64 0, .bool false] 63)) (.cells #[.pointer none, .pointer (some ⟨w1.heap.size, 0, none⟩)] 23)
    rw [show (X.alloc (.cells #[.map none, .int .i64 0, .int .i64 0, .bool false] 63)).heap.size = w1.heap.size + 1 by simp [hX]] at a1
    have a2 := heap_alloc_new X (.cells #[.map none, .int .i64 0, .int .i64 0, .bool false] 63)
    have a3 := (HBA.out (X.alloc (.cells #[.map none, .int .i64 0, .int .i64 0, .bool false] 63)) (.cells #[.pointer none, .pointer (some ⟨w1.heap.size, 0, none⟩)] 23)).block X.heap.size (by simp)
    rw [hX] at a2 a3
    exact ⟨a1, a3.trans a2⟩
  have HL := Lib.hid hl
  clear hl k0 k1 k2 k3 k4 k5 k6 kf
  go_loopw [5] (fun iv wr => ∃ i : Nat, i ≤ 2 ∧ iv = .int .i64 (i : Int) ∧ Hid (wr.heap[w.heap.size]? = some (.cells #[.int .u8 od, .string r1, .string r2, .slice pb1 lb1 cb1, .int .i64 oa, .int .i64 on, .slice pk1 lk1 ck1] 39 (0, 0))) ∧
    Hid (wr.heap[w1.heap.size + 1]? = some (.cells #[.pointer none, .pointer (some ⟨w1.heap.size, 0, none⟩)] 23)) ∧ Hid (wr.heap[w1.heap.size]? = some (.cells #[.map none, .int .i64 0, .int .i64 0, .bool false] 63)) ∧ Hid (Below w.heap.size w wr)) (fun iv _ => 2 - (intOf iv).toNat)
  case atStart => exact ⟨0, by omega, rfl, Lib.hid (HOP.out _ _), Lib.hid (HL.out _ (by simp)).1, Lib.hid (HL.out _ (by simp)).2, Lib.hid (HBW.out _ _)⟩
  case round =>
    obtain ⟨i, hi, rfl, HO, HLB, HZB, HB⟩ := hrel
    clear HOP HL HBW
    by_cases hlt : i < 2
    · have q1 : decide ((i : Int) < 2) = true := by rw [decide_eq_true_eq]; omega
      have q2 : decide (i < 2) = true := by rw [decide_eq_true_eq]; omega
      obtain ⟨pv, hcell, hnob⟩ : ∃ pv, wr.cell? ⟨w1.heap.size + 1, i, none⟩ = some (.pointer pv) ∧ Nob wr (.pointer pv) := by
        rcases (by omega : i = 0 ∨ i = 1) with rfl | rfl
        · exact ⟨none, by rw [cell_of_row wr _ 0 _ _ _ HLB.out]; rfl, .inl rfl⟩
        · exact ⟨some ⟨w1.heap.size, 0, none⟩, by rw [cell_of_row wr _ 1 _ _ _ HLB.out]; rfl, .inr ⟨_, rfl, HZB.out⟩⟩
      have HNB := Lib.hid (fun W (hW : Below wr.heap.size wr W) => hnob.below hW)
      have HB0 := Lib.hid (Below.refl wr.heap.size wr)
      have hx : ∀ W (hW : Below wr.heap.size wr W), W.cell? ⟨w.heap.size, 1, none⟩ = some (.string r1) ∧ W.cell? ⟨w.heap.size, 2, none⟩ = some (.string r2) ∧ W.cell? ⟨w.heap.size, 3, none⟩ = some (.slice pb1 lb1 cb1) ∧ W.cell? ⟨w.heap.size, 4, none⟩ = some (.int .i64 oa) ∧ W.cell? ⟨w.heap.size, 6, none⟩ = some (.slice pk1 lk1 ck1) := fun W hW => by
        have ho := (hW.block w.heap.size (Array.getElem?_eq_some_iff.1 HO.out).1).trans HO.out
        exact ⟨by rw [cell_of_row W _ 1 _ _ _ ho]; rfl, by rw [cell_of_row W _ 2 _ _ _ ho]; rfl, by rw [cell_of_row W _ 3 _ _ _ ho]; rfl, by rw [cell_of_row W _ 4 _ _ _ ho]; rfl, by rw [cell_of_row W _ 6 _ _ _ ho]; rfl⟩
      have HX := Lib.hid hx
      obtain ⟨f1, f2, f3, f4, f6⟩ := hx wr (Below.refl _ _)
      have HLT := Lib.hid hlt
      have j1 : (i : Int) < 2 := by omega
      clear hx hnob hlt
      go_wp2_with fail
      refine (nob_arm _ _ (HNB.out _ HB0.out) _).mono ?_
      rintro e W1 ⟨rfl, hb⟩
      have HB1 := Lib.hid (HB0.out.trans (hb.mono HB0.out.size))
      clear hb f1 f2 f3 f4 f6
      obtain ⟨f1, f2, f3, f4, f6⟩ := HX.out _ HB1.out
      go_wp2_with fail
      refine (nob_restart _ _ (HNB.out _ HB1.out) _ _ _).mono ?_
      rintro e W2 ⟨rfl, hb⟩
      have HB2 := Lib.hid (HB1.out.trans (hb.mono HB1.out.size))
      clear hb f1 f2 f3 f4 f6
      obtain ⟨f1, f2, f3, f4, f6⟩ := HX.out _ HB2.out
      go_wp2_with fail
      refine (nob_size _ _ (HNB.out _ HB2.out) _).mono ?_
      rintro e W3 ⟨rfl, hb⟩
      have HB3 := Lib.hid (HB2.out.trans (hb.mono HB2.out.size))
      clear hb f1 f2 f3 f4 f6
      obtain ⟨f1, f2, f3, f4, f6⟩ := HX.out _ HB3.out
      go_wp2_with fail
      refine (nob_read _ _ (HNB.out _ HB3.out) _ _ _).mono ?_
      rintro e W4 ⟨rfl, hb⟩
      have HB4 := Lib.hid (HB3.out.trans (hb.mono HB3.out.size))
      clear hb f1 f2 f3 f4 f6
      obtain ⟨f1, f2, f3, f4, f6⟩ := HX.out _ HB4.out
      go_wp2_with fail
      refine RK.begin_ (T := fun _ => True) [(0, true), (1, true), (2, true), (3, true), (4, true), (5, false), (6, true), (7, true), (8, true), (9, true), (10, true), (11, false), (12, true), (13, true), (14, true), (15, true), (16, true), (17, true), (18, true), (19, true), (20, false), (21, true), (22, true), (23, true), (24, true), (25, true), (26, true), (27, false), (28, true), (29, true), (30, true), (31, true), (32, true), (33, true), (34, false), (35, true), (36, true), (37, true), (38, true), (39, true), (40, true), (41, true), (42, true), (43, true), (44, true), (45, true), (46, true), (50, true), (53, true), (54, true), (55, true), (47, false), (48, true), (49, true), (51, false), (52, true), (56, false), (57, true), (58, true), (59, true), (60, true), (61, true), (62, true), (63, true), (64, true), (65, false), (66, true), (67, true), (68, true), (69, false), (70, true), (71, true)] (by kernel_rfl) (by kernel_rfl) rfl (by kernel_rfl) (fun _ _ d _ _ h => by cases d <;> exact h) ?_
      simp only [RK.ordered, List.map_cons, List.map_nil, List.getElem?_toArray, List.getElem?_cons_succ, List.getElem?_cons_zero]
      obtain ⟨W5, hwd⟩ : ∃ wd, W4.drew = wd := ⟨_, rfl⟩
      have HB5 := Lib.hid (show Below wr.heap.size wr W5 by rw [← hwd]; exact HB4.out.drew)
      rw [hwd]
      clear hwd f1 f2 f3 f4 f6
      have f1 := fun W (hW : Kep (fun _ => True) W5 W) => (HX.out W (HB5.out.trans (hW.below HB5.out.size (fun _ _ => trivial)))).1
      have f2 := fun W (hW : Kep (fun _ => True) W5 W) => (HX.out W (HB5.out.trans (hW.below HB5.out.size (fun _ _ => trivial)))).2.1
      have f3 := fun W (hW : Kep (fun _ => True) W5 W) => (HX.out W (HB5.out.trans (hW.below HB5.out.size (fun _ _ => trivial)))).2.2.1
      have f4 := fun W (hW : Kep (fun _ => True) W5 W) => (HX.out W (HB5.out.trans (hW.below HB5.out.size (fun _ _ => trivial)))).2.2.2.1
      repeat ((first | (refine RK.take (by rfl) (by intro W hW; go_simp; with_reducible rfl) ?_) | (refine RK.skip (by rfl) ?_) | (refine RK.alone_skip (by rfl) ?_)); simp only [Act.put, List.setIfInBounds_toArray, List.set_cons_zero, List.set_cons_succ])
      refine RK.alone (by rfl) (fun K hK => ?_)
      go_simp
      refine (nob_append _ _ _ _ _ (HNB.out _ HB5.out) _).mono ?_
      rintro e W6 ⟨rfl, hb⟩
      go_simp
      refine hK.out _ _ (kep_below _ hb) ?_
      have HB6 := Lib.hid (HB5.out.trans (hb.mono HB5.out.size))
      clear hK K hb f1 f2 f3 f4
      have f1 := fun W (hW : Kep (fun _ => True) W6 W) => (HX.out W (HB6.out.trans (hW.below HB6.out.size (fun _ _ => trivial)))).1
      have f2 := fun W (hW : Kep (fun _ => True) W6 W) => (HX.out W (HB6.out.trans (hW.below HB6.out.size (fun _ _ => trivial)))).2.1
      have f3 := fun W (hW : Kep (fun _ => True) W6 W) => (HX.out W (HB6.out.trans (hW.below HB6.out.size (fun _ _ => trivial)))).2.2.1
      have f4 := fun W (hW : Kep (fun _ => True) W6 W) => (HX.out W (HB6.out.trans (hW.below HB6.out.size (fun _ _ => trivial)))).2.2.2.1
      repeat ((first | (refine RK.take (by rfl) (by intro W hW; go_simp; with_reducible rfl) ?_) | (refine RK.skip (by rfl) ?_) | (refine RK.alone_skip (by rfl) ?_)); simp only [Act.put, List.setIfInBounds_toArray, List.set_cons_zero, List.set_cons_succ])
      refine RK.alone (by rfl) (fun K hK => ?_)
      go_simp
      refine (nob_sync _ _ (HNB.out _ HB6.out) _).mono ?_
      rintro e W7 ⟨rfl, hb⟩
      go_simp
      refine hK.out _ _ (kep_below _ hb) ?_
      have HB7 := Lib.hid (HB6.out.trans (hb.mono HB6.out.size))
      clear hK K hb f1 f2 f3 f4
      have f1 := fun W (hW : Kep (fun _ => True) W7 W) => (HX.out W (HB7.out.trans (hW.below HB7.out.size (fun _ _ => trivial)))).1
      have f2 := fun W (hW : Kep (fun _ => True) W7 W) => (HX.out W (HB7.out.trans (hW.below HB7.out.size (fun _ _ => trivial)))).2.1
      have f3 := fun W (hW : Kep (fun _ => True) W7 W) => (HX.out W (HB7.out.trans (hW.below HB7.out.size (fun _ _ => trivial)))).2.2.1
      have f4 := fun W (hW : Kep (fun _ => True) W7 W) => (HX.out W (HB7.out.trans (hW.below HB7.out.size (fun _ _ => trivial)))).2.2.2.1
      repeat ((first | (refine RK.take (by rfl) (by intro W hW; go_simp; with_reducible rfl) ?_) | (refine RK.skip (by rfl) ?_) | (refine RK.alone_skip (by rfl) ?_)); simp only [Act.put, List.setIfInBounds_toArray, List.set_cons_zero, List.set_cons_succ])
      refine RK.alone (by rfl) (fun K hK => ?_)
      go_simp
      refine (nob_rename _ _ (HNB.out _ HB7.out) _ _).mono ?_
      rintro e W8 ⟨rfl, hb⟩
      go_simp
      refine hK.out _ _ (kep_below _ hb) ?_
      have HB8 := Lib.hid (HB7.out.trans (hb.mono HB7.out.size))
      clear hK K hb f1 f2 f3 f4
      have f1 := fun W (hW : Kep (fun _ => True) W8 W) => (HX.out W (HB8.out.trans (hW.below HB8.out.size (fun _ _ => trivial)))).1
      have f2 := fun W (hW : Kep (fun _ => True) W8 W) => (HX.out W (HB8.out.trans (hW.below HB8.out.size (fun _ _ => trivial)))).2.1
      have f3 := fun W (hW : Kep (fun _ => True) W8 W) => (HX.out W (HB8.out.trans (hW.below HB8.out.size (fun _ _ => trivial)))).2.2.1
      have f4 := fun W (hW : Kep (fun _ => True) W8 W) => (HX.out W (HB8.out.trans (hW.below HB8.out.size (fun _ _ => trivial)))).2.2.2.1
      repeat ((first | (refine RK.take (by rfl) (by intro W hW; go_simp; with_reducible rfl) ?_) | (refine RK.skip (by rfl) ?_) | (refine RK.alone_skip (by rfl) ?_)); simp only [Act.put, List.setIfInBounds_toArray, List.set_cons_zero, List.set_cons_succ])
      refine RK.alone (by rfl) (fun K hK => ?_)
      go_simp
      refine (nob_remove _ _ (HNB.out _ HB8.out) _).mono ?_
      rintro e W9 ⟨rfl, hb⟩
      go_simp
      refine hK.out _ _ (kep_below _ hb) ?_
      have HB9 := Lib.hid (HB8.out.trans (hb.mono HB8.out.size))
      clear hK K hb f1 f2 f3 f4
      have f1 := fun W (hW : Kep (fun _ => True) W9 W) => (HX.out W (HB9.out.trans (hW.below HB9.out.size (fun _ _ => trivial)))).1
      have f2 := fun W (hW : Kep (fun _ => True) W9 W) => (HX.out W (HB9.out.trans (hW.below HB9.out.size (fun _ _ => trivial)))).2.1
      have f3 := fun W (hW : Kep (fun _ => True) W9 W) => (HX.out W (HB9.out.trans (hW.below HB9.out.size (fun _ _ => trivial)))).2.2.1
      have f4 := fun W (hW : Kep (fun _ => True) W9 W) => (HX.out W (HB9.out.trans (hW.below HB9.out.size (fun _ _ => trivial)))).2.2.2.1
      repeat ((first | (refine RK.take (by rfl) (by intro W hW; go_simp; with_reducible rfl) ?_) | (refine RK.skip (by rfl) ?_) | (refine RK.alone_skip (by rfl) ?_)); simp only [Act.put, List.setIfInBounds_toArray, List.set_cons_zero, List.set_cons_succ])
      refine RK.alone (by rfl) (fun K hK => ?_)
      go_simp
      refine (nob_quota _ _ (HNB.out _ HB9.out) _).mono ?_
      rintro e W10 ⟨rfl, hb⟩
      go_simp
      refine hK.out _ _ (kep_below _ hb) ?_
      have HB10 := Lib.hid (HB9.out.trans (hb.mono HB9.out.size))
      clear hK K hb f1 f2 f3 f4
      have f1 := fun W (hW : Kep (fun _ => True) W10 W) => (HX.out W (HB10.out.trans (hW.below HB10.out.size (fun _ _ => trivial)))).1
      have f2 := fun W (hW : Kep (fun _ => True) W10 W) => (HX.out W (HB10.out.trans (hW.below HB10.out.size (fun _ _ => trivial)))).2.1
      have f3 := fun W (hW : Kep (fun _ => True) W10 W) => (HX.out W (HB10.out.trans (hW.below HB10.out.size (fun _ _ => trivial)))).2.2.1
      have f4 := fun W (hW : Kep (fun _ => True) W10 W) => (HX.out W (HB10.out.trans (hW.below HB10.out.size (fun _ _ => trivial)))).2.2.2.1
      repeat ((first | (refine RK.take (by rfl) (by intro W hW; go_simp; with_reducible rfl) ?_) | (refine RK.skip (by rfl) ?_) | (refine RK.alone_skip (by rfl) ?_)); simp only [Act.put, List.setIfInBounds_toArray, List.set_cons_zero, List.set_cons_succ])
      refine RK.alone (by rfl) (fun K hK => ?_)
      go_simp
      refine (nob_list _ _ (HNB.out _ HB10.out)).mono ?_
      rintro e W11 ⟨rfl, hb⟩
      go_simp
      refine hK.out _ _ (kep_below _ hb) ?_
      have HB11 := Lib.hid (HB10.out.trans (hb.mono HB10.out.size))
      clear hK K hb f1 f2 f3 f4
      have f1 := fun W (hW : Kep (fun _ => True) W11 W) => (HX.out W (HB11.out.trans (hW.below HB11.out.size (fun _ _ => trivial)))).1
      have f2 := fun W (hW : Kep (fun _ => True) W11 W) => (HX.out W (HB11.out.trans (hW.below HB11.out.size (fun _ _ => trivial)))).2.1
      have f3 := fun W (hW : Kep (fun _ => True) W11 W) => (HX.out W (HB11.out.trans (hW.below HB11.out.size (fun _ _ => trivial)))).2.2.1
      have f4 := fun W (hW : Kep (fun _ => True) W11 W) => (HX.out W (HB11.out.trans (hW.below HB11.out.size (fun _ _ => trivial)))).2.2.2.1
      repeat ((first | (refine RK.take (by rfl) (by intro W hW; go_simp; with_reducible rfl) ?_) | (refine RK.skip (by rfl) ?_) | (refine RK.alone_skip (by rfl) ?_)); simp only [Act.put, List.setIfInBounds_toArray, List.set_cons_zero, List.set_cons_succ])
      refine RK.alone (by rfl) (fun K hK => ?_)
      go_simp
      refine (nob_used _ _ (HNB.out _ HB11.out)).mono ?_
      rintro e W12 ⟨rfl, hb⟩
      go_simp
      refine hK.out _ _ (kep_below _ hb) ?_
      have HB12 := Lib.hid (HB11.out.trans (hb.mono HB11.out.size))
      clear hK K hb f1 f2 f3 f4
      have f1 := fun W (hW : Kep (fun _ => True) W12 W) => (HX.out W (HB12.out.trans (hW.below HB12.out.size (fun _ _ => trivial)))).1
      have f2 := fun W (hW : Kep (fun _ => True) W12 W) => (HX.out W (HB12.out.trans (hW.below HB12.out.size (fun _ _ => trivial)))).2.1
      have f3 := fun W (hW : Kep (fun _ => True) W12 W) => (HX.out W (HB12.out.trans (hW.below HB12.out.size (fun _ _ => trivial)))).2.2.1
      have f4 := fun W (hW : Kep (fun _ => True) W12 W) => (HX.out W (HB12.out.trans (hW.below HB12.out.size (fun _ _ => trivial)))).2.2.2.1
      repeat ((first | (refine RK.take (by rfl) (by intro W hW; go_simp; with_reducible rfl) ?_) | (refine RK.skip (by rfl) ?_) | (refine RK.alone_skip (by rfl) ?_)); simp only [Act.put, List.setIfInBounds_toArray, List.set_cons_zero, List.set_cons_succ])
      refine RK.alone (by rfl) (fun K hK => ?_)
      go_simp
      refine (nob_durable _ _ (HNB.out _ HB12.out) _ hsz).mono ?_
      rintro e W13 ⟨rfl, hb⟩
      go_simp
      refine hK.out _ _ (kep_below _ hb) ?_
      have HB13 := Lib.hid (HB12.out.trans (hb.mono HB12.out.size))
      clear hK K hb f1 f2 f3 f4
      have f1 := fun W (hW : Kep (fun _ => True) W13 W) => (HX.out W (HB13.out.trans (hW.below HB13.out.size (fun _ _ => trivial)))).1
      have f2 := fun W (hW : Kep (fun _ => True) W13 W) => (HX.out W (HB13.out.trans (hW.below HB13.out.size (fun _ _ => trivial)))).2.1
      have f3 := fun W (hW : Kep (fun _ => True) W13 W) => (HX.out W (HB13.out.trans (hW.below HB13.out.size (fun _ _ => trivial)))).2.2.1
      have f4 := fun W (hW : Kep (fun _ => True) W13 W) => (HX.out W (HB13.out.trans (hW.below HB13.out.size (fun _ _ => trivial)))).2.2.2.1
      repeat ((first | (refine RK.take (by rfl) (by intro W hW; go_simp; with_reducible rfl) ?_) | (refine RK.skip (by rfl) ?_) | (refine RK.alone_skip (by rfl) ?_)); simp only [Act.put, List.setIfInBounds_toArray, List.set_cons_zero, List.set_cons_succ])
      refine RK.alone (by rfl) (fun K hK => ?_)
      go_simp
      refine (nob_stopped _ _ (HNB.out _ HB13.out)).mono ?_
      rintro e W14 ⟨rfl, hb⟩
      go_simp
      refine hK.out _ _ (kep_below _ hb) ?_
      have HB14 := Lib.hid (HB13.out.trans (hb.mono HB13.out.size))
      clear hK K hb f1 f2 f3 f4
      have f1 := fun W (hW : Kep (fun _ => True) W14 W) => (HX.out W (HB14.out.trans (hW.below HB14.out.size (fun _ _ => trivial)))).1
      have f2 := fun W (hW : Kep (fun _ => True) W14 W) => (HX.out W (HB14.out.trans (hW.below HB14.out.size (fun _ _ => trivial)))).2.1
      have f3 := fun W (hW : Kep (fun _ => True) W14 W) => (HX.out W (HB14.out.trans (hW.below HB14.out.size (fun _ _ => trivial)))).2.2.1
      have f4 := fun W (hW : Kep (fun _ => True) W14 W) => (HX.out W (HB14.out.trans (hW.below HB14.out.size (fun _ _ => trivial)))).2.2.2.1
      repeat ((first | (refine RK.take (by rfl) (by intro W hW; go_simp; with_reducible rfl) ?_) | (refine RK.skip (by rfl) ?_) | (refine RK.alone_skip (by rfl) ?_)); simp only [Act.put, List.setIfInBounds_toArray, List.set_cons_zero, List.set_cons_succ])
      refine RK.alone (by rfl) (fun K hK => ?_)
      go_simp
      refine (nob_fork _ _ (HNB.out _ HB14.out)).mono ?_
      rintro e W15 ⟨rfl, hb⟩
      go_simp
      refine hK.out _ _ (kep_below _ hb) ?_
      have HB15 := Lib.hid (HB14.out.trans (hb.mono HB14.out.size))
      clear hK K hb f1 f2 f3 f4
      repeat ((first | (refine RK.take (by rfl) (by intro W hW; go_simp; with_reducible rfl) ?_) | (refine RK.skip (by rfl) ?_) | (refine RK.alone_skip (by rfl) ?_)); simp only [Act.put, List.setIfInBounds_toArray, List.set_cons_zero, List.set_cons_succ])
      refine RK.done ?_
      go_wp2_with fail
      have hlt := HLT.out
      have o1 := (HB15.out.block w.heap.size (Array.getElem?_eq_some_iff.1 HO.out).1).trans HO.out
      have o2 := (HB15.out.block _ (Array.getElem?_eq_some_iff.1 HLB.out).1).trans HLB.out
      have o3 := (HB15.out.block _ (Array.getElem?_eq_some_iff.1 HZB.out).1).trans HZB.out
      go_roundw
      case rel => exact ⟨i + 1, by omega, by go_num, Lib.hid o1, Lib.hid o2, Lib.hid o3, Lib.hid (HB.out.trans (HB15.out.mono HB.out.size))⟩
      case measure => simp [intOf]; omega
    · obtain rfl : i = 2 := by omega
      go_wp2_with fail
      refine (awake_any _).mono ?_
      rintro e w9 ⟨rfl, hb9⟩
      have HE := Lib.hid (HB.out.trans (hb9.mono HB.out.size))
      clear hb9
      go_wp2_with fail
      go_ret
      exact ⟨rfl, HE.out⟩
end Go.Proofs.Ytkpbgpnpheaegaa.DK
