/-
  The code's room. Condition: sums that memory bears.
-/
import Derived.Test.YtljfpolcgegkpaaDskUsed
import Derived.Test.YtljfpolcgegkpaaRegK
set_option linter.unusedVariables false
namespace Go.Proofs.Ytljfpolcgegkpaa.DK
open Go.RowKit Go.Proofs.Ytljfpolcgegkpaa.MM Go.Maps

/-- Why there is no room for m bytes more in a file; 0: there is. -/
def roomE (d : DiskD) (n : List UInt8) (m : Nat) : Int :=
  if (findL d.L n).isSome = false ∧ 1024 ≤ d.L.length then 3 else if 67108864 < (curB d n).length + m then 2 else if 0 < d.quota ∧ m ≠ 0 ∧ d.quota < (usedL d.L : Int) + m then 62 else 0
set_option maxRecDepth 100000 in
set_option maxHeartbeats 2000000 in
theorem room_any (S : Nat → Prop) (g mb : Nat) (V : List UInt8 → Value) (c : Int) (d : DiskD) (n : List UInt8) (m : Nat) (w : World) (h : CObj S w g mb V c d) (hF : Fits d) (hu : usedL d.L ≤ 1000000000000000) (hn : n.length ≤ 1000000000000) (hm : m ≤ 1000000000000) :
    Calls Try.prog 50 #[.pointer (some ⟨g, 0, none⟩), .string ⟨n.toArray⟩, .int .i64 (m : Int)] w fun e w' => e = .returned (.int .i64 (roomE d n m)) ∧ Below w.heap.size w w' := by
  obtain ⟨p, cap, hv, _, _⟩ := own_slice (cur_own h.tab n)
  have hlook := h.look_ok n hn
  have hba : ∀ o, Below w.heap.size w (w.alloc o) := fun o => (Below.refl _ _).alloc (Nat.le_refl _) _
  have hlen := fun o ty => (h.tab.map.below (hba o)).len ty
  have h0 := h.g0
  have hU := fun W (hW : Below w.heap.size w W) => cused_any S g mb V c d W (h.below hW) hF hu
  have hlb : (curB d n).length ≤ 67108864 := by
    unfold curB
    cases hf : findL d.L n with
    | none => simp
    | some f => exact hF.bytes f (find_mem hf).1
  obtain ⟨R, hR⟩ : ∃ R, roomE d n m = R := ⟨_, rfl⟩
  rw [hR]
  unfold roomE at hR
  have HR := Lib.hid hR
  clear hR
  have hglt := h.glt
  have hq1 := hF.q1
  have hq0 := hF.q0
  have HG := Lib.hid (fun W (hW : Below w.heap.size w W) => (h.below hW).g1)
  have HU := Lib.hid hU
  have HBA := Lib.hid hba
  have hl2 := hF.len
  obtain ⟨x, hx⟩ : ∃ x : ByteArray, (⟨n.toArray⟩ : ByteArray) = x := ⟨_, rfl⟩
  rw [hv, hx] at hlook
  rw [hx]
  generalize (findL d.L n).isSome = there at *
  generalize (curB d n).length = ln at *
  generalize (curS d n : Int) = sn at *
  obtain ⟨us, hus⟩ : ∃ us, usedL d.L = us := ⟨_, rfl⟩
  rw [hus] at HU HR hu
  obtain ⟨Ln, hLn⟩ : ∃ x, d.L.length = x := ⟨_, rfl⟩
  rw [hLn] at HR hlen hl2
  obtain ⟨q, hq⟩ : ∃ x, d.quota = x := ⟨_, rfl⟩
  rw [hq] at HR HG hq0 hq1
  clear hv hF h hU hba hus hLn hq hn hx
  have hsw : IntKind.i64.wrap (67108864 - (ln : Int)) = 67108864 - (ln : Int) := by rw [IntKind.wrap_i64]; omega
  have hqw : IntKind.i64.wrap (q - (us : Int)) = q - (us : Int) := by rw [IntKind.wrap_i64]; omega
  by_cases h1 : there = false ∧ 1024 ≤ Ln
  · obtain ⟨rfl, h1⟩ := h1
    have hr := HR.out
    rw [if_pos ⟨rfl, h1⟩] at hr
    subst hr
    have t1 : decide ((Ln : Int) ≥ 1024) = true := by rw [decide_eq_true_eq]; omega
    have HB := Lib.hid HBA.out
    clear HR
    go_enter Try.func50, Try.ntmps50
    go_wp2_with fail
    go_ret
    exact ⟨rfl, HB.out _⟩
  · have g1 : (!there && decide ((Ln : Int) ≥ 1024)) = false := by
      cases there
      · simp only [Bool.not_false, Bool.true_and]
        rw [decide_eq_false_iff_not]
        intro k
        exact h1 ⟨rfl, by omega⟩
      · rfl
    have hr := HR.out
    rw [if_neg h1] at hr
    have HR2 := Lib.hid hr
    clear HR hr
    by_cases h2 : 67108864 < ln + m
    · have hr := HR2.out
      rw [if_pos h2] at hr
      subst hr
      have t2 : decide ((m : Int) > 67108864 - (ln : Int)) = true := by rw [decide_eq_true_eq]; omega
      clear HR2 h2
      obtain rfl | hth : there = true ∨ there = false := by cases there <;> simp
      case' inl => clear h1
      case' inr =>
        subst hth
        have t1 : decide ((Ln : Int) ≥ 1024) = false := by simpa using g1
        clear h1
      all_goals (
        go_enter Try.func50, Try.ntmps50
        go_wp2_with fail
        refine (size_any _ _ _ _).mono ?_
        rintro e w' ⟨rfl, rfl⟩
        go_wp2_with fail
        go_ret
        exact ⟨rfl, HBA.out _⟩)
    · have hr := HR2.out
      rw [if_neg h2] at hr
      have HR3 := Lib.hid hr
      have t2 : decide ((m : Int) > 67108864 - (ln : Int)) = false := by rw [decide_eq_false_iff_not]; omega
      clear hr HR2
      obtain rfl | hth : there = true ∨ there = false := by cases there <;> simp
      case' inl => clear h1
      case' inr =>
        subst hth
        have t1 : decide ((Ln : Int) ≥ 1024) = false := by simpa using g1
        clear h1
      all_goals (
        go_enter Try.func50, Try.ntmps50
        go_wp2_with fail
        refine (size_any _ _ _ _).mono ?_
        rintro e w' ⟨rfl, rfl⟩
        go_wp2_with fail
        obtain ⟨W2, hW2⟩ : ∃ W, w.alloc (.cells #[.slice p ln cap, .int .i64 sn] 82) = W := ⟨_, rfl⟩
        rw [hW2]
        refine RK.begin_ (T := fun _ => True) [(0, true), (1, true), (2, true), (3, true), (4, true), (5, true), (6, true), (7, true), (8, true), (9, true), (10, true), (11, true), (12, true), (13, true), (14, true), (15, true), (16, false), (17, true), (18, true), (19, true), (20, true)] (by kernel_rfl) (by kernel_rfl) rfl (by kernel_rfl) (fun _ _ d _ _ h => by cases d <;> exact h) ?_
        simp only [RK.ordered, List.map_cons, List.map_nil, List.getElem?_toArray, List.getElem?_cons_succ, List.getElem?_cons_zero]
        obtain ⟨wd, hwd⟩ : ∃ wd, W2.drew = wd := ⟨_, rfl⟩
        have hbd : Below w.heap.size w wd := by rw [← hwd, ← hW2]; exact (HBA.out _).drew
        have HBD := Lib.hid hbd
        rw [hwd]
        clear hwd hbd hW2
        have k1 := fun W (hW : Kep (fun _ => True) wd W) => HG.out W (HBD.out.trans (hW.below HBD.out.size (fun _ _ => trivial)))
        by_cases hm0 : m = 0
        · have hr := HR3.out
          rw [if_neg (fun h => h.2.1 hm0)] at hr
          subst hr
          have r1 : decide ((m : Int) > 0) = false := by rw [decide_eq_false_iff_not]; omega
          have r11 : decide (0 < m) = false := by rw [decide_eq_false_iff_not]; omega
          clear HR3
          repeat ((first | (refine RK.take (by rfl) (by intro W hW; go_simp; with_reducible rfl) ?_) | (refine RK.skip (by rfl) ?_) | (refine RK.alone_skip (by rfl) ?_)); simp only [Act.put, List.setIfInBounds_toArray, List.set_cons_zero, List.set_cons_succ])
          refine RK.done ?_
          go_wp2_with fail
          go_ret
          exact ⟨rfl, HBD.out⟩
        · have r1 : decide ((m : Int) > 0) = true := by rw [decide_eq_true_eq]; omega
          have r11 : decide (0 < m) = true := by rw [decide_eq_true_eq]; omega
          by_cases hqz : 0 < q
          · have r2 : decide (q > 0) = true := by rw [decide_eq_true_eq]; omega
            repeat ((first | (refine RK.take (by rfl) (by intro W hW; go_simp; with_reducible rfl) ?_) | (refine RK.skip (by rfl) ?_) | (refine RK.alone_skip (by rfl) ?_)); simp only [Act.put, List.setIfInBounds_toArray, List.set_cons_zero, List.set_cons_succ])
            refine RK.alone (by rfl) (fun K hK => ?_)
            go_simp
            refine (HU.out wd HBD.out).mono ?_
            rintro e V2 ⟨rfl, b6⟩
            go_simp
            refine hK.out _ _ (kep_below _ b6) ?_
            clear hK K k1
            have HBV := Lib.hid (HBD.out.trans (b6.mono HBD.out.size))
            clear b6
            by_cases hfull : q < (us : Int) + m
            · have hr := HR3.out
              rw [if_pos ⟨hqz, hm0, hfull⟩] at hr
              subst hr
              have r3 : decide ((m : Int) > q - (us : Int)) = true := by rw [decide_eq_true_eq]; omega
              clear HR3
              repeat ((first | (refine RK.take (by rfl) (by intro W hW; go_simp; with_reducible rfl) ?_) | (refine RK.skip (by rfl) ?_) | (refine RK.alone_skip (by rfl) ?_)); simp only [Act.put, List.setIfInBounds_toArray, List.set_cons_zero, List.set_cons_succ])
              refine RK.done ?_
              go_wp2_with fail
              go_ret
              exact ⟨rfl, HBV.out⟩
            · have hr := HR3.out
              rw [if_neg (fun h => hfull h.2.2)] at hr
              subst hr
              have r3 : decide ((m : Int) > q - (us : Int)) = false := by rw [decide_eq_false_iff_not]; omega
              clear HR3
              repeat ((first | (refine RK.take (by rfl) (by intro W hW; go_simp; with_reducible rfl) ?_) | (refine RK.skip (by rfl) ?_) | (refine RK.alone_skip (by rfl) ?_)); simp only [Act.put, List.setIfInBounds_toArray, List.set_cons_zero, List.set_cons_succ])
              refine RK.done ?_
              go_wp2_with fail
              go_ret
              exact ⟨rfl, HBV.out⟩
          · have hr := HR3.out
            rw [if_neg (fun h => hqz h.1)] at hr
            subst hr
            have r2 : decide (q > 0) = false := by rw [decide_eq_false_iff_not]; omega
            clear HR3
            repeat ((first | (refine RK.take (by rfl) (by intro W hW; go_simp; with_reducible rfl) ?_) | (refine RK.skip (by rfl) ?_) | (refine RK.alone_skip (by rfl) ?_)); simp only [Act.put, List.setIfInBounds_toArray, List.set_cons_zero, List.set_cons_succ])
            refine RK.done ?_
            go_wp2_with fail
            go_ret
            exact ⟨rfl, HBD.out⟩)
end Go.Proofs.Ytljfpolcgegkpaa.DK
