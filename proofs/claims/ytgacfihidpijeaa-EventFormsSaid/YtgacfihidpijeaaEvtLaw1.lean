/-
  EventForms, walked. No condition.
-/
import Derived.Test.YtgacfihidpijeaaEvtAwake
import Derived.Test.YtgacfihidpijeaaEvtSize
import Derived.Test.YtgacfihidpijeaaEvtSame
import Derived.Test.YtgacfihidpijeaaReg
import Derived.Test.YtgacfihidpijeaaFrameEv
set_option linter.unusedVariables false
namespace Go.Proofs.Ytgacfihidpijeaa.EV
open Go Go.RowKit Go.Proofs.Ytgacfihidpijeaa.MM Go.Proofs.Ytgacfihidpijeaa.EM
open Go.Proofs.Ytgacfihidpijeaa.TK (TruthLeft)

set_option maxRecDepth 100000 in
set_option maxHeartbeats 4000000 in
theorem forms_walk (z1 z2 : Int) (u v : Value) (xs ys : List Fld) (s : List UInt8) (w : World) (hu : RAny fldC w u xs) (hv : RAny fldC w v ys) :
    Calls Try.prog 3 #[.agg #[.int .i64 z1, u], .agg #[.int .i64 z2, v], .string ⟨s.toArray⟩] w fun e w' => e = .returned (.bool true) ∧ Below w.heap.size w w' := by
  have hmx : Try.prog.follows .mixedOrders = true := by kernel_rfl
  obtain ⟨p1, cap1, rfl, _⟩ := hu.shape
  obtain ⟨p2, cap2, rfl, _⟩ := hv.shape
  have hbb := two_boxes w z1 z2 (.slice p1 xs.length cap1) (.slice p2 ys.length cap2)
  have HA0 := Lib.hid (hu.below hbb)
  have HE0 := Lib.hid (hv.below hbb)
  have HW := Lib.hid hbb
  have hbx := fun W (h : Below (evBox (evBox w z1 (.slice p1 xs.length cap1)) z2 (.slice p2 ys.length cap2)).heap.size (evBox (evBox w z1 (.slice p1 xs.length cap1)) z2 (.slice p2 ys.length cap2)) W) => boxes_in h
  have HBX0 := Lib.hid hbx
  clear hu hv hbb hbx
  go_enter Try.func3, Try.ntmps3
  go_wp2_with fail
  refine RG.begin_ [(0, true), (2, true), (1, false), (3, false), (4, true), (5, true), (6, true), (8, true), (7, false), (9, false), (10, true), (11, true), (12, true), (13, true), (14, true), (16, true), (17, true), (15, false), (18, false), (19, true), (20, true), (21, true), (22, true), (23, true), (24, false), (25, true), (26, true), (27, true), (29, true), (28, false), (30, false), (31, true), (32, true), (33, true), (34, false), (35, true), (36, true)] (by kernel_rfl) (by kernel_rfl) rfl (by kernel_rfl) (fun _ _ d _ _ h => by cases d <;> exact h) ?_
  simp only [RG.ordered, List.map_cons, List.map_nil, List.getElem?_toArray, List.getElem?_cons_succ, List.getElem?_cons_zero]
  obtain ⟨wd, hwd⟩ : ∃ wd, (evBox (evBox w z1 (.slice p1 xs.length cap1)) z2 (.slice p2 ys.length cap2)).drew = wd := ⟨_, rfl⟩
  have hbd : Below (evBox (evBox w z1 (.slice p1 xs.length cap1)) z2 (.slice p2 ys.length cap2)).heap.size (evBox (evBox w z1 (.slice p1 xs.length cap1)) z2 (.slice p2 ys.length cap2)) wd := by rw [← hwd]; exact (Below.refl _ _).drew
  have HA := Lib.hid (fun W (h : Below wd.heap.size wd W) => HA0.out.below (grow hbd h))
  have HE := Lib.hid (fun W (h : Below wd.heap.size wd W) => HE0.out.below (grow hbd h))
  have HBX := Lib.hid (fun W (h : Below wd.heap.size wd W) => (show W.cell? ⟨w.heap.size, 0, none⟩ = some (.int .i64 z1) ∧ W.cell? ⟨w.heap.size, 1, none⟩ = some (.slice p1 xs.length cap1) ∧ W.cell? ⟨w.heap.size + 1, 0, none⟩ = some (.int .i64 z2) ∧ W.cell? ⟨w.heap.size + 1, 1, none⟩ = some (.slice p2 ys.length cap2) from ⟨(HBX0.out W (grow hbd h)).1, (HBX0.out W (grow hbd h)).2.1, (HBX0.out W (grow hbd h)).2.2.1, (HBX0.out W (grow hbd h)).2.2.2.1⟩))
  have HWD := Lib.hid (grow HW.out hbd)
  have HB0 := Lib.hid (Below.refl wd.heap.size wd)
  change RG.walk _ _ _ _ _ ((evBox (evBox w z1 (.slice p1 xs.length cap1)) z2 (.slice p2 ys.length cap2)).drew)
  rw [hwd]
  clear hwd hbd HA0 HE0 HBX0 HW
  repeat (refine RG.take (by rfl) (by intro W hW; obtain ⟨f1, f2, f3, f4⟩ := HBX.out W (grow HB0.out hW); go_simp; with_reducible rfl) ?_; simp only [Act.put, List.setIfInBounds_toArray, List.set_cons_zero, List.set_cons_succ])
  refine RG.alone (by rfl) (fun K hK => ?_)
  go_simp
  refine (check_any z1 _ xs _ (HA.out _ HB0.out)).mono ?_
  rintro e w1 ⟨rfl, b1⟩
  go_simp
  refine hK.out _ _ b1 ?_
  clear hK K
  have HB1 := Lib.hid (grow HB0.out b1)
  clear b1
  refine RG.alone (by rfl) (fun K hK => ?_)
  go_simp
  refine (rcheck_any z1 _ xs _ (HA.out _ HB1.out)).mono ?_
  rintro e w2 ⟨rfl, b2⟩
  go_simp
  refine hK.out _ _ b2 ?_
  clear hK K
  have HB2 := Lib.hid (grow HB1.out b2)
  clear b2
  repeat (refine RG.take (by rfl) (by intro W hW; obtain ⟨f1, f2, f3, f4⟩ := HBX.out W (grow HB2.out hW); go_simp; with_reducible rfl) ?_; simp only [Act.put, List.setIfInBounds_toArray, List.set_cons_zero, List.set_cons_succ])
  refine RG.alone (by rfl) (fun K hK => ?_)
  go_simp
  refine (size_any z1 _ xs _ (HA.out _ HB2.out)).mono ?_
  rintro e w3 ⟨rfl, b3⟩
  go_simp
  refine hK.out _ _ b3 ?_
  clear hK K
  have HB3 := Lib.hid (grow HB2.out b3)
  clear b3
  refine RG.alone (by rfl) (fun K hK => ?_)
  go_simp
  refine (rsize_any z1 _ xs _ (HA.out _ HB3.out)).mono ?_
  rintro e w4 ⟨rfl, b4⟩
  go_simp
  refine hK.out _ _ b4 ?_
  clear hK K
  have HB4 := Lib.hid (grow HB3.out b4)
  clear b4
  repeat (refine RG.take (by rfl) (by intro W hW; obtain ⟨f1, f2, f3, f4⟩ := HBX.out W (grow HB4.out hW); go_simp; with_reducible rfl) ?_; simp only [Act.put, List.setIfInBounds_toArray, List.set_cons_zero, List.set_cons_succ])
  refine RG.alone (by rfl) (fun K hK => ?_)
  go_simp
  refine (same_any z1 z2 _ _ xs ys _ (HA.out _ HB4.out) (HE.out _ HB4.out)).mono ?_
  rintro e w5 ⟨rfl, b5⟩
  go_simp
  refine hK.out _ _ b5 ?_
  clear hK K
  have HB5 := Lib.hid (grow HB4.out b5)
  clear b5
  refine RG.alone (by rfl) (fun K hK => ?_)
  go_simp
  refine (rsame_any z1 z2 _ _ xs ys _ (HA.out _ HB5.out) (HE.out _ HB5.out)).mono ?_
  rintro e w6 ⟨rfl, b6⟩
  go_simp
  refine hK.out _ _ b6 ?_
  clear hK K
  have HB6 := Lib.hid (grow HB5.out b6)
  clear b6
  repeat (refine RG.take (by rfl) (by intro W hW; obtain ⟨f1, f2, f3, f4⟩ := HBX.out W (grow HB6.out hW); go_simp; with_reducible rfl) ?_; simp only [Act.put, List.setIfInBounds_toArray, List.set_cons_zero, List.set_cons_succ])
  refine RG.alone (by rfl) (fun K hK => ?_)
  go_simp
  refine (same_any z1 z1 _ _ xs xs _ (HA.out _ HB6.out) (HA.out _ HB6.out)).mono ?_
  rintro e w7 ⟨rfl, b7⟩
  go_simp
  refine hK.out _ _ b7 ?_
  clear hK K
  have HB7 := Lib.hid (grow HB6.out b7)
  clear b7
  repeat (refine RG.take (by rfl) (by intro W hW; obtain ⟨f1, f2, f3, f4⟩ := HBX.out W (grow HB7.out hW); go_simp; with_reducible rfl) ?_; simp only [Act.put, List.setIfInBounds_toArray, List.set_cons_zero, List.set_cons_succ])
  refine RG.alone (by rfl) (fun K hK => ?_)
  go_simp
  refine (name_any s _).mono ?_
  rintro e w8 ⟨rfl, b8⟩
  go_simp
  refine hK.out _ _ b8 ?_
  clear hK K
  have HB8 := Lib.hid (grow HB7.out b8)
  clear b8
  refine RG.alone (by rfl) (fun K hK => ?_)
  go_simp
  refine (rname_any s _).mono ?_
  rintro e w9 ⟨rfl, b9⟩
  go_simp
  refine hK.out _ _ b9 ?_
  clear hK K
  have HB9 := Lib.hid (grow HB8.out b9)
  clear b9
  repeat (refine RG.take (by rfl) (by intro W hW; obtain ⟨f1, f2, f3, f4⟩ := HBX.out W (grow HB9.out hW); go_simp; with_reducible rfl) ?_; simp only [Act.put, List.setIfInBounds_toArray, List.set_cons_zero, List.set_cons_succ])
  refine RG.alone (by rfl) (fun K hK => ?_)
  go_simp
  refine (awake_any _).mono ?_
  rintro e w10 ⟨rfl, b10⟩
  go_simp
  refine hK.out _ _ b10 ?_
  clear hK K
  have HB10 := Lib.hid (grow HB9.out b10)
  clear b10
  repeat (refine RG.take (by rfl) (by intro W hW; obtain ⟨f1, f2, f3, f4⟩ := HBX.out W (grow HB10.out hW); go_simp; with_reducible rfl) ?_; simp only [Act.put, List.setIfInBounds_toArray, List.set_cons_zero, List.set_cons_succ])
  refine RG.done ?_
  have HEND := Lib.hid (grow HWD.out HB10.out)
  clear HBX HA HE
  go_wp2_with fail
  go_ret
  exact ⟨rfl, HEND.out⟩
theorem forms_call (cs0 cs1 : Array Value) (e0 e1 : Ev) (s : ByteArray) (W : World) (h0 : evC.on (fun _ => True) W cs0.toList e0) (h1 : evC.on (fun _ => True) W cs1.toList e1) :
    Calls Try.prog 3 #[.agg cs0, .agg cs1, .string s] W fun e W' => e = .returned (.bool true) ∧ Below W.heap.size W W' := by
  obtain ⟨u, rfl, hu⟩ := ev_cells h0
  obtain ⟨v, rfl, hv⟩ := ev_cells h1
  rw [str_back s]
  exact forms_walk e0.1 e1.1 u v e0.2 e1.2 s.data.toList W hu hv
end Go.Proofs.Ytgacfihidpijeaa.EV
