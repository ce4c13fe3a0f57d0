/-
  EventBatches, walked. No condition.
-/
import Derived.Test.YtgacfihidpijeaaEvtAwake
import Derived.Test.YtgacfihidpijeaaEvtSameDocs
import Derived.Test.YtgacfihidpijeaaReg
set_option linter.unusedVariables false
namespace Go.Proofs.Ytgacfihidpijeaa.EV
open Go Go.RowKit Go.Proofs.Ytgacfihidpijeaa.MM Go.Proofs.Ytgacfihidpijeaa.EM

set_option maxRecDepth 100000 in
set_option maxHeartbeats 4000000 in
theorem batches_walk (z : Int) (u : Value) (xs : List Ev) (w : World) (hu : RAny evC w u xs) :
    Calls Try.prog 4 #[.agg #[.int .i64 z, u]] w fun e w' => e = .returned (.bool true) ∧ Below w.heap.size w w' := by
  have hmx : Try.prog.follows .mixedOrders = true := by kernel_rfl
  obtain ⟨p1, cap1, rfl, _⟩ := hu.shape
  have hbb := btbox_below w z (.slice p1 xs.length cap1)
  have HA0 := Lib.hid (hu.below hbb)
  have HW := Lib.hid hbb
  have hbx := fun W (h : Below (btBox w z (.slice p1 xs.length cap1)).heap.size (btBox w z (.slice p1 xs.length cap1)) W) => btbox_in h
  have HBX0 := Lib.hid hbx
  clear hu hbb hbx
  go_enter Try.func4, Try.ntmps4
  go_wp2_with fail
  refine RG.begin_ [(0, true), (2, true), (1, false), (3, false), (4, true), (5, true), (6, true), (8, true), (7, false), (9, false), (10, false), (11, true), (12, true), (13, false), (14, true), (15, true)] (by kernel_rfl) (by kernel_rfl) rfl (by kernel_rfl) (fun _ _ d _ _ h => by cases d <;> exact h) ?_
  simp only [RG.ordered, List.map_cons, List.map_nil, List.getElem?_toArray, List.getElem?_cons_succ, List.getElem?_cons_zero]
  obtain ⟨wd, hwd⟩ : ∃ wd, (btBox w z (.slice p1 xs.length cap1)).drew = wd := ⟨_, rfl⟩
  have hbd : Below (btBox w z (.slice p1 xs.length cap1)).heap.size (btBox w z (.slice p1 xs.length cap1)) wd := by rw [← hwd]; exact (Below.refl _ _).drew
  have HA := Lib.hid (fun W (h : Below wd.heap.size wd W) => HA0.out.below (grow hbd h))
  have HBX := Lib.hid (fun W (h : Below wd.heap.size wd W) => (show W.cell? ⟨w.heap.size, 0, none⟩ = some (.int .i64 z) ∧ W.cell? ⟨w.heap.size, 1, none⟩ = some (.slice p1 xs.length cap1) from ⟨(HBX0.out W (grow hbd h)).1, (HBX0.out W (grow hbd h)).2.1⟩))
  have HWD := Lib.hid (grow HW.out hbd)
  have HB0 := Lib.hid (Below.refl wd.heap.size wd)
  change RG.walk _ _ _ _ _ ((btBox w z (.slice p1 xs.length cap1)).drew)
  rw [hwd]
  clear hwd hbd HA0 HBX0 HW
  repeat (refine RG.take (by rfl) (by intro W hW; obtain ⟨f1, f2⟩ := HBX.out W (grow HB0.out hW); go_simp; with_reducible rfl) ?_; simp only [Act.put, List.setIfInBounds_toArray, List.set_cons_zero, List.set_cons_succ])
  refine RG.alone (by rfl) (fun K hK => ?_)
  go_simp
  refine (cbatch_any z _ xs _ (HA.out _ HB0.out)).mono ?_
  rintro e w1 ⟨rfl, b1⟩
  go_simp
  refine hK.out _ _ b1 ?_
  clear hK K
  have HB1 := Lib.hid (grow HB0.out b1)
  clear b1
  refine RG.alone (by rfl) (fun K hK => ?_)
  go_simp
  refine (rcbatch_any z _ xs _ (HA.out _ HB1.out)).mono ?_
  rintro e w2 ⟨rfl, b2⟩
  go_simp
  refine hK.out _ _ b2 ?_
  clear hK K
  have HB2 := Lib.hid (grow HB1.out b2)
  clear b2
  repeat (refine RG.take (by rfl) (by intro W hW; obtain ⟨f1, f2⟩ := HBX.out W (grow HB2.out hW); go_simp; with_reducible rfl) ?_; simp only [Act.put, List.setIfInBounds_toArray, List.set_cons_zero, List.set_cons_succ])
  refine RG.alone (by rfl) (fun K hK => ?_)
  go_simp
  refine (docs_any z _ xs _ (HA.out _ HB2.out)).mono ?_
  rintro e w3 ⟨d1, rfl, rd1, b3⟩
  go_simp
  refine hK.out _ _ b3 ?_
  clear hK K
  have HB3 := Lib.hid (grow HB2.out b3)
  have Hd1 := Lib.hid rd1
  clear b3 rd1
  refine RG.alone (by rfl) (fun K hK => ?_)
  go_simp
  refine (rdocs_any z _ xs _ (HA.out _ HB3.out)).mono ?_
  rintro e w4 ⟨d2, rfl, rd2, b4⟩
  go_simp
  refine hK.out _ _ b4 ?_
  clear hK K
  have HB4 := Lib.hid (grow HB3.out b4)
  have Hd2 := Lib.hid rd2
  have Hd1b := Lib.hid (RAny.below Hd1.out b4)
  clear b4 rd2
  refine RG.alone (by rfl) (fun K hK => ?_)
  go_simp
  refine (samedocs_any _ _ _ _ _ Hd1b.out Hd2.out).mono ?_
  rintro e w5 ⟨rfl, b5⟩
  go_simp
  refine hK.out _ _ b5 ?_
  clear hK K
  have HB5 := Lib.hid (grow HB4.out b5)
  clear b5
  repeat (refine RG.take (by rfl) (by intro W hW; obtain ⟨f1, f2⟩ := HBX.out W (grow HB5.out hW); go_simp; with_reducible rfl) ?_; simp only [Act.put, List.setIfInBounds_toArray, List.set_cons_zero, List.set_cons_succ])
  refine RG.alone (by rfl) (fun K hK => ?_)
  go_simp
  refine (awake_any _).mono ?_
  rintro e w6 ⟨rfl, b6⟩
  go_simp
  refine hK.out _ _ b6 ?_
  clear hK K
  have HB6 := Lib.hid (grow HB5.out b6)
  clear b6
  repeat (refine RG.take (by rfl) (by intro W hW; obtain ⟨f1, f2⟩ := HBX.out W (grow HB6.out hW); go_simp; with_reducible rfl) ?_; simp only [Act.put, List.setIfInBounds_toArray, List.set_cons_zero, List.set_cons_succ])
  refine RG.done ?_
  have HEND := Lib.hid (grow HWD.out HB6.out)
  clear HBX HA
  go_wp2_with fail
  go_ret
  exact ⟨rfl, HEND.out⟩

set_option maxRecDepth 100000 in
/-- The law's call, the batch as its cells. -/
theorem batches_call (cs : Array Value) (b : Bat) (w : World) (h : batC.on (fun _ => True) w cs.toList b) : Calls Try.prog 4 #[.agg cs] w fun e w' => e = .returned (.bool true) ∧ Below w.heap.size w w' := by
  obtain ⟨v, hv, hr⟩ := bat_on.1 h
  obtain rfl : cs = #[.int .i64 b.1, v] := by apply Array.toList_inj.1; rw [hv]
  exact batches_walk b.1 v b.2 w hr.any
end Go.Proofs.Ytgacfihidpijeaa.EV
