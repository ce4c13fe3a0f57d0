/-
  The law VarintTexts returns true. Condition: the arguments read as data.
-/
import Derived.Test.YtcekhkkombabfaaVarAwake
import Derived.Test.YtcekhkkombabfaaReg
set_option linter.unusedVariables false
namespace Go.Proofs.Ytcekhkkombabfaa.VG
open Go.RowKit Go.Proofs.Ytcekhkkombabfaa.MM Go.Proofs.Ytcekhkkombabfaa.VM Go.Proofs.Ytcekhkkombabfaa.VP

theorem texts_core (v : Value) (l : List UInt8) (s : ByteArray) (most : Int) (h0 : -9223372036854775808 ≤ most) (h1 : most ≤ 9223372036854775807) (hs : s.size ≤ 300) :
    ∃ (c : List UInt8) (T : ByteArray) (E : Int) (R b : List UInt8), c.length ≤ 60 ∧ b.length ≤ 310 ∧ (∀ W, BRow W v l → Calls Try.prog 8 #[v] W (fun e w' => ∃ v', e = .returned v' ∧ BRow W v' c ∧ W = w')) ∧
      (∀ u W, BRow W u c → Calls Try.prog 19 #[u, .int .i64 most] W (Got (.string T) E R W)) ∧ (∀ u W, BRow W u c → Calls Try.prog 20 #[u, .int .i64 most] W (Got (.string T) E R W)) ∧
      (∀ u W, BRow W u c → Calls Try.prog 21 #[u, .string s] W (PutLeft W.heap.size (c ++ b) W)) ∧ (∀ W, Calls Try.prog 22 #[.string s] W (PutLeft W.heap.size b W)) := by
  have hcl : (l.take 60).length ≤ 60 := by rw [List.length_take]; omega
  refine ⟨l.take 60, ⟨(getT (l.take 60) most).1.toArray⟩, (getT (l.take 60) most).2.2, restT (l.take 60) most, textL s.data.toList, hcl, ?_, fun W h => cut_any v l W h,
    fun u W h => gettext_any u _ most W h0 h1 h, fun u W h => rgettext_any u _ most W h0 h1 h, fun u W h => puttext_any u _ s W h (by omega), fun W => rtext_any s W (by omega)⟩
  have := (bytesL_length s.data.toList.length).2
  have hz : s.data.toList.length = s.size := (Lib.size_eq s).symm
  unfold textL
  rw [List.length_append]
  omega

set_option maxRecDepth 100000 in
set_option maxHeartbeats 4000000 in
theorem texts_small (v : Value) (l : List UInt8) (s s0 : ByteArray) (most : Int) (w : World) (hr : BRow w v l) (h0 : -9223372036854775808 ≤ most) (h1 : most ≤ 9223372036854775807) (hs0 : s0.size ≤ maxLen)
    (hs : (300 < s0.size ∧ s = s0.extract 0 300) ∨ (¬ 300 < s0.size ∧ s0 = s)) :
    Calls Try.prog 5 #[v, .string s0, .int .i64 most] w fun e w' => e = .returned (.bool true) ∧ Below w.heap.size w w' := by
  have hsl : s.size ≤ 300 := by
    rcases hs with ⟨h, rfl⟩ | ⟨h, rfl⟩
    · simp; omega
    · omega
  obtain ⟨c, N, E, R, b, hcl, hbl, k1, k2, k3, k4, k5⟩ := texts_core v l s most h0 h1 hsl
  have hcat : ¬ 9223372036854775807 < c.length + b.length := by omega
  have hcc := bytes_cat c b
  have k1' := k1 w hr
  have K1 := Lib.hid k1'
  have K2 := Lib.hid k2
  have K3 := Lib.hid k3
  have K4 := Lib.hid k4
  have K5 := Lib.hid k5
  have HCC := Lib.hid hcc
  unfold maxLen at hs0
  clear k1 k1' k2 k3 k4 k5 hr hcl hcc hbl h0 h1 hsl
  rcases hs with ⟨hlong, rfl⟩ | ⟨hshort, rfl⟩
  all_goals
    go_enter Try.func5, Try.ntmps5
    go_wp2_with fail
    refine K1.out.mono ?_
    rintro e w0 ⟨u, rfl, hu, rfl⟩
    have HU := Lib.hid hu
    clear hu
    go_wp2_with fail
    refine (K2.out _ _ HU.out).mono ?_
    rintro e w1 ⟨r1, rfl, hr1, b1⟩
    have HU1 := Lib.hid (HU.out.below b1)
    have HR1 := Lib.hid hr1
    clear hr1
    go_wp2_with fail
    refine (K3.out _ _ HU1.out).mono ?_
    rintro e w2 ⟨r2, rfl, hr2, b2⟩
    have c2 := grow b1 b2
    have hu2 := HU1.out.below b2
    have hr12 := HR1.out.below b2
    clear b1 b2
    go_wp2_with fail
    refine RG.begin_ [(0, true), (1, true), (4, true), (5, true), (6, true), (2, false), (3, true), (7, false), (8, true), (9, true), (10, true), (11, true), (12, true), (13, true), (14, true), (15, true), (16, true), (17, true), (18, true), (19, true), (20, true), (21, true), (22, true), (23, true), (24, true), (25, true), (26, true), (27, true), (28, true), (29, false), (30, true), (31, true)] (by kernel_rfl) (by kernel_rfl) rfl (by kernel_rfl) (fun _ _ d _ _ h => by cases d <;> exact h) ?_
    simp only [RG.ordered, List.map_cons, List.map_nil, List.getElem?_toArray, List.getElem?_cons_succ, List.getElem?_cons_zero]
    obtain ⟨wd, hwd⟩ : ∃ wd, w2.drew = wd := ⟨_, rfl⟩
    have hud : BRow wd u c := by rw [← hwd]; exact hu2
    have hrd1 : BRow wd r1 R := by rw [← hwd]; exact hr12
    have hrd2 : BRow wd r2 R := by rw [← hwd]; exact hr2
    have cd : Below w.heap.size w wd := by rw [← hwd]; exact c2.drew
    rw [hwd]
    clear hwd hu2 hr12 hr2 c2
    have HUd := Lib.hid hud
    have HR1d := Lib.hid hrd1
    have HR2d := Lib.hid hrd2
    clear hud hrd1 hrd2
    have hconv := fun W (hW : RG.Grew wd W) => (BRow.below HUd.out hW).conv
    repeat (refine RG.take (by rfl) (by intro W hW; go_simp; with_reducible rfl) ?_; simp only [Act.put, List.setIfInBounds_toArray, List.set_cons_zero, List.set_cons_succ])
    refine RG.alone (by rfl) (fun K hK => ?_)
    go_simp
    refine (K4.out _ _ HUd.out).mono ?_
    rintro e w3 ⟨v3, rfl, hown3, b3⟩
    go_simp
    refine hK.out _ _ b3 ?_
    clear hK K hconv
    have hconv := fun W (hW : RG.Grew w3 W) => (BRow.below hown3.brow hW).conv
    repeat (refine RG.take (by rfl) (by intro W hW; go_simp; with_reducible rfl) ?_; simp only [Act.put, List.setIfInBounds_toArray, List.set_cons_zero, List.set_cons_succ])
    refine RG.alone (by rfl) (fun K hK => ?_)
    go_simp
    refine (K5.out _).mono ?_
    rintro e w4 ⟨v4, rfl, hown4, b4⟩
    go_simp
    refine hK.out _ _ b4 ?_
    clear hK K hconv
    have hconv := fun W (hW : RG.Grew w4 W) => (BRow.below hown4.brow hW).conv
    have hcc := HCC.out
    have cc4 := grow (grow cd b3) b4
    have hc2 := fun W (hW : RG.Grew w4 W) => (BRow.below (HR1d.out.below (grow b3 b4)) hW).conv
    have hc3 := fun W (hW : RG.Grew w4 W) => (BRow.below (HR2d.out.below (grow b3 b4)) hW).conv
    repeat (refine RG.take (by rfl) (by intro W hW; go_simp; with_reducible rfl) ?_; simp only [Act.put, List.setIfInBounds_toArray, List.set_cons_zero, List.set_cons_succ])
    clear hconv hcc hc2 hc3
    refine RG.alone (by rfl) (fun K hK => ?_)
    go_simp
    refine (awake_any _).mono ?_
    rintro e w6 ⟨rfl, b6⟩
    go_simp
    refine hK.out _ _ b6 ?_
    clear hK K
    repeat (refine RG.take (by rfl) (by intro W hW; go_simp; with_reducible rfl) ?_; simp only [Act.put, List.setIfInBounds_toArray, List.set_cons_zero, List.set_cons_succ])
    refine RG.done ?_
    go_wp2_with fail
    go_ret
    exact ⟨rfl, grow cc4 b6⟩
end Go.Proofs.Ytcekhkkombabfaa.VG
