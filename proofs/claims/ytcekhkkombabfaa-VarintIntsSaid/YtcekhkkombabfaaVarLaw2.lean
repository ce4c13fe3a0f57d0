/-
  The law VarintInts returns true. Condition: the arguments read as data.
-/
import Derived.Test.YtcekhkkombabfaaVarAwake
import Derived.Test.YtcekhkkombabfaaReg
set_option linter.unusedVariables false
namespace Go.Proofs.Ytcekhkkombabfaa.VG
open Go.RowKit Go.Proofs.Ytcekhkkombabfaa.MM Go.Proofs.Ytcekhkkombabfaa.VM Go.Proofs.Ytcekhkkombabfaa.VP

set_option maxRecDepth 100000 in
set_option maxHeartbeats 4000000 in
theorem ints_walk (v : Value) (l : List UInt8) (n : Int) (w : World) (hr : BRow w v l) (h0 : -9223372036854775808 ≤ n) (h1 : n ≤ 9223372036854775807) :
    Calls Try.prog 4 #[v, .int .i64 n] w fun e w' => e = .returned (.bool true) ∧ Below w.heap.size w w' := by
  have k1 := cut_any v l w hr
  obtain ⟨c, hc⟩ : ∃ c, l.take 60 = c := ⟨_, rfl⟩
  have hcl : c.length ≤ 60 := by rw [← hc, List.length_take]; omega
  unfold CutLeft at k1
  rw [hc] at k1
  have k2 := fun u W (h : BRow W u c) => getint_any u c W h
  have k3 := fun u W (h : BRow W u c) => rgetint_any u c W h
  generalize (getI c).1 = N at *
  generalize (getI c).2.2 = E at *
  generalize restL c = R at *
  have k4 := fun u W (h : BRow W u c) => putint_any u c n W h0 h1 h (by omega)
  have k5 := fun W => rint_any n W h0 h1
  have hbl : (intL n).length ≤ 10 := (bytesL_length (zig n)).2
  generalize intL n = b at *
  have hcat : ¬ 9223372036854775807 < c.length + b.length := by omega
  have hcc := bytes_cat c b
  have K1 := Lib.hid k1
  have K2 := Lib.hid k2
  have K3 := Lib.hid k3
  have K4 := Lib.hid k4
  have K5 := Lib.hid k5
  have HCC := Lib.hid hcc
  clear k1 k2 k3 k4 k5 hr hc hcl hcc hbl
  go_enter Try.func4, Try.ntmps4
  go_wp2_with fail
  refine K1.out.mono ?_
  rintro e w0 ⟨u, rfl, hu, rfl⟩
  have HU := Lib.hid hu
  clear hu
  go_wp2_with fail
  refine (K2.out _ _ HU.out).mono ?_
  rintro e w1 ⟨r1, rfl, hr1, b1⟩
  have HU1 := Lib.hid (HU.out.below b1)
  have HR1 := Lib.hid hr1
  clear hr1
  go_wp2_with fail
  refine (K3.out _ _ HU1.out).mono ?_
  rintro e w2 ⟨r2, rfl, hr2, b2⟩
  have c2 := grow b1 b2
  have hu2 := HU1.out.below b2
  have hr12 := HR1.out.below b2
  clear b1 b2
  go_wp2_with fail
  refine RG.begin_ [(0, true), (1, true), (4, true), (5, true), (6, true), (2, false), (3, true), (7, false), (8, true), (9, true), (10, true), (11, true), (12, true), (13, true), (14, true), (15, true), (16, true), (17, true), (18, true), (19, true), (20, true), (21, true), (22, true), (23, true), (24, true), (25, true), (26, true), (27, true), (28, true), (29, false), (30, true), (31, true)] (by kernel_rfl) (by kernel_rfl) rfl (by kernel_rfl) (fun _ _ d _ _ h => by cases d <;> exact h) ?_
  simp only [RG.ordered, List.map_cons, List.map_nil, List.getElem?_toArray, List.getElem?_cons_succ, List.getElem?_cons_zero]
  obtain ⟨wd, hwd⟩ : ∃ wd, w2.drew = wd := ⟨_, rfl⟩
  have hud : BRow wd u c := by rw [← hwd]; exact hu2
  have hrd1 : BRow wd r1 R := by rw [← hwd]; exact hr12
  have hrd2 : BRow wd r2 R := by rw [← hwd]; exact hr2
  have cd : Below w.heap.size w wd := by rw [← hwd]; exact c2.drew
  rw [hwd]
  clear hwd hu2 hr12 hr2 c2
  have HUd := Lib.hid hud
  have HR1d := Lib.hid hrd1
  have HR2d := Lib.hid hrd2
  clear hud hrd1 hrd2
  have hconv := fun W (hW : RG.Grew wd W) => (BRow.below HUd.out hW).conv
  repeat (refine RG.take (by rfl) (by intro W hW; go_simp; with_reducible rfl) ?_; simp only [Act.put, List.setIfInBounds_toArray, List.set_cons_zero, List.set_cons_succ])
  refine RG.alone (by rfl) (fun K hK => ?_)
  go_simp
  refine (K4.out _ _ HUd.out).mono ?_
  rintro e w3 ⟨v3, rfl, hown3, b3⟩
  go_simp
  refine hK.out _ _ b3 ?_
  clear hK K hconv
  have hconv := fun W (hW : RG.Grew w3 W) => (BRow.below hown3.brow hW).conv
  repeat (refine RG.take (by rfl) (by intro W hW; go_simp; with_reducible rfl) ?_; simp only [Act.put, List.setIfInBounds_toArray, List.set_cons_zero, List.set_cons_succ])
  refine RG.alone (by rfl) (fun K hK => ?_)
  go_simp
  refine (K5.out _).mono ?_
  rintro e w4 ⟨v4, rfl, hown4, b4⟩
  go_simp
  refine hK.out _ _ b4 ?_
  clear hK K hconv
  have hconv := fun W (hW : RG.Grew w4 W) => (BRow.below hown4.brow hW).conv
  have hcc := HCC.out
  have cc4 := grow (grow cd b3) b4
  have hc2 := fun W (hW : RG.Grew w4 W) => (BRow.below (HR1d.out.below (grow b3 b4)) hW).conv
  have hc3 := fun W (hW : RG.Grew w4 W) => (BRow.below (HR2d.out.below (grow b3 b4)) hW).conv
  repeat (refine RG.take (by rfl) (by intro W hW; go_simp; with_reducible rfl) ?_; simp only [Act.put, List.setIfInBounds_toArray, List.set_cons_zero, List.set_cons_succ])
  clear hconv hcc hc2 hc3
  refine RG.alone (by rfl) (fun K hK => ?_)
  go_simp
  refine (awake_any _).mono ?_
  rintro e w6 ⟨rfl, b6⟩
  go_simp
  refine hK.out _ _ b6 ?_
  clear hK K
  repeat (refine RG.take (by rfl) (by intro W hW; go_simp; with_reducible rfl) ?_; simp only [Act.put, List.setIfInBounds_toArray, List.set_cons_zero, List.set_cons_succ])
  refine RG.done ?_
  go_wp2_with fail
  go_ret
  exact ⟨rfl, grow cc4 b6⟩
end Go.Proofs.Ytcekhkkombabfaa.VG
