/-
  The law VarintRows returns true. Condition: the arguments read as data.
-/
import Derived.Test.YtcekhkkombabfaaVarAwake
import Derived.Test.YtcekhkkombabfaaVarAll2
import Derived.Test.YtcekhkkombabfaaReg
set_option linter.unusedVariables false
namespace Go.Proofs.Ytcekhkkombabfaa.VG
open Go.RowKit Go.Proofs.Ytcekhkkombabfaa.MM Go.Proofs.Ytcekhkkombabfaa.VM Go.Proofs.Ytcekhkkombabfaa.VP

theorem rows_core (v : Value) (l : List UInt8) (zs : List Int) (n : Int) (h1 : n ≤ 9223372036854775807) (hz : Fits zs) (hs : zs.length ≤ 20) :
    ∃ (c : List UInt8) (X : List Int) (E : Int) (R b : List UInt8), c.length ≤ 60 ∧ b.length ≤ 200 ∧ (∀ W, BRow W v l → Calls Try.prog 8 #[v] W (fun e w' => ∃ v', e = .returned v' ∧ BRow W v' c ∧ W = w')) ∧
      (∀ u W, BRow W u c → Calls Try.prog 23 #[u, .int .i64 n] W (fun e w' => ∃ va vr, e = .returned (.tuple #[va, vr, .int .i64 E]) ∧ IRow w' va X ∧ BRow w' vr R ∧ Below W.heap.size W w')) ∧
      (∀ u W, BRow W u c → Calls Try.prog 24 #[u, .int .i64 n] W (fun e w' => ∃ va vr, e = .returned (.tuple #[va, vr, .int .i64 E]) ∧ IRow w' va X ∧ BRow w' vr R ∧ Below W.heap.size W w')) ∧
      (∀ u x W, BRow W u c → IRow W x zs → Calls Try.prog 25 #[u, x] W (PutLeft W.heap.size (c ++ b) W)) ∧ (∀ x W, IRow W x zs → Calls Try.prog 26 #[x] W (PutLeft W.heap.size b W)) := by
  have hcl : (l.take 60).length ≤ 60 := by rw [List.length_take]; omega
  have hal := allL_length zs
  refine ⟨l.take 60, (gaL n (l.take 60)).1, (gaL n (l.take 60)).2.2, (gaL n (l.take 60)).2.1, allL zs, hcl, by omega, fun W h => cut_any v l W h,
    fun u W h => (getall_in W.heap.size u _ n W h (Nat.le_refl _) (by omega) h1).mono ?_, fun u W h => (rgetall_in W.heap.size u _ n W h (Nat.le_refl _) (by omega) h1).mono ?_,
    fun u x W h hx => putall_any u x _ zs W h hx hz (by omega) (by omega), fun x W hx => rall_any x zs W hx hz (by omega)⟩
  · rintro e w' ⟨va, vr, he, h1, h2, h3⟩
    exact ⟨va, vr, he, h1, h2.row h3.size, h3⟩
  · rintro e w' ⟨va, vr, he, h1, h2, h3⟩
    exact ⟨va, vr, he, h1, h2.row h3.size, h3⟩

set_option maxRecDepth 100000 in
set_option maxHeartbeats 4000000 in
theorem rows_walk (v : Value) (l : List UInt8) (p : Option Addr) (len cap : Nat) (zs zs0 : List Int) (n : Int) (w : World) (hr : BRow w v l) (hz0 : IRow w (.slice p len cap) zs0) (hfit : Fits zs0) (hl0 : zs0.length = len) (hlc : len ≤ cap) (hcm : cap ≤ maxLen) (h1 : n ≤ 9223372036854775807)
    (hs : (20 < len ∧ zs = zs0.take 20) ∨ (¬ 20 < len ∧ zs0 = zs)) :
    Calls Try.prog 6 #[v, .slice p len cap, .int .i64 n] w fun e w' => e = .returned (.bool true) ∧ Below w.heap.size w w' := by
  have hsl : zs.length ≤ 20 := by
    rcases hs with ⟨h, rfl⟩ | ⟨h, rfl⟩
    · rw [List.length_take]; omega
    · omega
  have hfz : Fits zs := by
    rcases hs with ⟨h, rfl⟩ | ⟨h, rfl⟩
    · intro k hk
      have hk20 : k < 20 := by rw [List.length_take] at hk; omega
      have hk2 : k < zs0.length := by omega
      have := hfit k hk2
      have e : (zs0.take 20).getD k 0 = zs0.getD k 0 := by simp [List.getD, hk20]
      rw [e]
      exact this
    · exact hfit
  have hzr : IRow w (.slice p zs.length cap) zs := by
    rcases hs with ⟨h, rfl⟩ | ⟨h, rfl⟩
    · have := hz0.take 20 (by omega)
      rw [List.length_take, show min 20 zs0.length = 20 by omega]
      exact this
    · rw [hl0]; exact hz0
  obtain ⟨c, X, E, R, b, hcl, hbl, k1, k2, k3, k4, k5⟩ := rows_core v l zs n h1 hfz hsl
  have hcat : ¬ 9223372036854775807 < c.length + b.length := by omega
  have hcc := bytes_cat c b
  have k1' := k1 w hr
  have K1 := Lib.hid k1'
  have K2 := Lib.hid k2
  have K3 := Lib.hid k3
  have K4 := Lib.hid k4
  have K5 := Lib.hid k5
  have HCC := Lib.hid hcc
  have HZ := Lib.hid hzr
  unfold maxLen at hcm
  have hlen2 : (20 < len ∧ zs.length = 20) ∨ (¬ 20 < len ∧ zs.length = len) := by
    rcases hs with ⟨h, rfl⟩ | ⟨h, rfl⟩
    · exact .inl ⟨h, by rw [List.length_take]; omega⟩
    · exact .inr ⟨h, hl0⟩
  clear k1 k1' k2 k3 k4 k5 hr hcl hcc hbl h1 hsl hzr hfz hz0 hfit hs hl0
  rcases hlen2 with ⟨hlong, hlz⟩ | ⟨hshort, hlz⟩
  all_goals
    rw [hlz] at HZ
    clear hlz
    go_enter Try.func6, Try.ntmps6
    go_wp2_with fail
    refine K1.out.mono ?_
    rintro e w0 ⟨u, rfl, hu, rfl⟩
    have HU := Lib.hid hu
    clear hu
    go_wp2_with fail
    refine (K2.out _ _ HU.out).mono ?_
    rintro e w1 ⟨x1, r1, rfl, hx1, hr1, b1⟩
    have HU1 := Lib.hid (HU.out.below b1)
    have HR1 := Lib.hid hr1
    have HX1 := Lib.hid hx1
    clear hr1 hx1
    go_wp2_with fail
    refine (K3.out _ _ HU1.out).mono ?_
    rintro e w2 ⟨x2, r2, rfl, hx2, hr2, b2⟩
    have c2 := grow b1 b2
    have hu2 := HU1.out.below b2
    have hr12 := HR1.out.below b2
    have hx12 := HX1.out.below b2
    have hz2 := HZ.out.below c2
    clear b1 b2
    go_wp2_with fail
    refine RG.begin_ [(0, true), (1, true), (4, true), (5, true), (6, true), (2, false), (3, true), (7, false), (8, true), (9, true), (10, true), (11, true), (12, true), (13, true), (14, false), (15, true), (16, true), (17, true), (18, true), (19, true), (20, true), (21, true), (22, true), (23, true), (24, true), (25, true), (26, true), (27, true), (28, true), (29, false), (30, true), (31, true)] (by kernel_rfl) (by kernel_rfl) rfl (by kernel_rfl) (fun _ _ d _ _ h => by cases d <;> exact h) ?_
    simp only [RG.ordered, List.map_cons, List.map_nil, List.getElem?_toArray, List.getElem?_cons_succ, List.getElem?_cons_zero]
    obtain ⟨wd, hwd⟩ : ∃ wd, w2.drew = wd := ⟨_, rfl⟩
    have hud : BRow wd u c := by rw [← hwd]; exact hu2
    have hrd1 : BRow wd r1 R := by rw [← hwd]; exact hr12
    have hrd2 : BRow wd r2 R := by rw [← hwd]; exact hr2
    have hxd1 : IRow wd x1 X := by rw [← hwd]; exact hx12
    have hxd2 : IRow wd x2 X := by rw [← hwd]; exact hx2
    have hzd := (show IRow w2.drew _ zs from hz2)
    rw [hwd] at hzd
    have cd : Below w.heap.size w wd := by rw [← hwd]; exact c2.drew
    rw [hwd]
    clear hwd hu2 hr12 hr2 c2 hx12 hx2 hz2
    have HUd := Lib.hid hud
    have HR1d := Lib.hid hrd1
    have HR2d := Lib.hid hrd2
    have HX1d := Lib.hid hxd1
    have HX2d := Lib.hid hxd2
    have HZd := Lib.hid hzd
    clear hud hrd1 hrd2 hxd1 hxd2 hzd
    have hconv := fun W (hW : RG.Grew wd W) => (BRow.below HUd.out hW).conv
    repeat (refine RG.take (by rfl) (by intro W hW; go_simp; with_reducible rfl) ?_; simp only [Act.put, List.setIfInBounds_toArray, List.set_cons_zero, List.set_cons_succ])
    refine RG.alone (by rfl) (fun K hK => ?_)
    go_simp
    refine (K4.out _ _ _ HUd.out HZd.out).mono ?_
    rintro e w3 ⟨v3, rfl, hown3, b3⟩
    go_simp
    refine hK.out _ _ b3 ?_
    clear hK K hconv
    have hconv := fun W (hW : RG.Grew w3 W) => (BRow.below hown3.brow hW).conv
    repeat (refine RG.take (by rfl) (by intro W hW; go_simp; with_reducible rfl) ?_; simp only [Act.put, List.setIfInBounds_toArray, List.set_cons_zero, List.set_cons_succ])
    refine RG.alone (by rfl) (fun K hK => ?_)
    go_simp
    refine (K5.out _ _ (HZd.out.below b3)).mono ?_
    rintro e w4 ⟨v4, rfl, hown4, b4⟩
    go_simp
    refine hK.out _ _ b4 ?_
    clear hK K hconv
    have hconv := fun W (hW : RG.Grew w4 W) => (BRow.below hown4.brow hW).conv
    have hcc := HCC.out
    have cc4 := grow (grow cd b3) b4
    repeat (refine RG.take (by rfl) (by intro W hW; go_simp; with_reducible rfl) ?_; simp only [Act.put, List.setIfInBounds_toArray, List.set_cons_zero, List.set_cons_succ])
    clear hconv hcc
    refine RG.alone (by rfl) (fun K hK => ?_)
    go_simp
    refine (same_any _ _ X _ (HX1d.out.below (grow b3 b4)) (HX2d.out.below (grow b3 b4))).mono ?_
    rintro e w5 ⟨rfl, b5⟩
    go_simp
    refine hK.out _ _ b5 ?_
    clear hK K
    have cc5 := grow cc4 b5
    have hc2 := fun W (hW : RG.Grew w5 W) => (BRow.below (HR1d.out.below (grow (grow b3 b4) b5)) hW).conv
    have hc3 := fun W (hW : RG.Grew w5 W) => (BRow.below (HR2d.out.below (grow (grow b3 b4) b5)) hW).conv
    repeat (refine RG.take (by rfl) (by intro W hW; go_simp; with_reducible rfl) ?_; simp only [Act.put, List.setIfInBounds_toArray, List.set_cons_zero, List.set_cons_succ])
    clear hc2 hc3
    refine RG.alone (by rfl) (fun K hK => ?_)
    go_simp
    refine (awake_any _).mono ?_
    rintro e w6 ⟨rfl, b6⟩
    go_simp
    refine hK.out _ _ b6 ?_
    clear hK K
    repeat (refine RG.take (by rfl) (by intro W hW; go_simp; with_reducible rfl) ?_; simp only [Act.put, List.setIfInBounds_toArray, List.set_cons_zero, List.set_cons_succ])
    refine RG.done ?_
    go_wp2_with fail
    go_ret
    exact ⟨rfl, grow cc5 b6⟩
end Go.Proofs.Ytcekhkkombabfaa.VG
