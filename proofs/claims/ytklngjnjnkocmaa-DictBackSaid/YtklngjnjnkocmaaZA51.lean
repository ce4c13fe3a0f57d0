/-
  The law DictAsks returns true: what a dictionary has, by places, terms and beginnings; what was handed in may be turned behind. No condition.
-/
import Derived.Test.YtklngjnjnkocmaaZA47
import Derived.Test.YtklngjnjnkocmaaZA12
import Derived.Test.YtklngjnjnkocmaaZA48
import Derived.Test.YtklngjnjnkocmaaZA2
set_option linter.unusedVariables false
namespace Go.Proofs.Ytklngjnjnkocmaa.DT
open Go Go.RowKit Go.Proofs.Ytklngjnjnkocmaa.MM Go.Proofs.Ytklngjnjnkocmaa.DM
open Go.Proofs.Ytklngjnjnkocmaa.EM (lessL)

theorem opened_kep {S : Nat → Prop} {w w' : World} {g : Nat} {l : List Ent} {B : Nat} (h : DictAt (fun b => B ≤ b) w g l) (hk : Kep S w w') (hS : ∀ b, B ≤ b → S b) : DictP (fun _ => True) w' (some ⟨g, 0, none⟩) l :=
  .inr ⟨g, rfl, (h.keep (T := S) (Kep.refl _ _) fun b _ hb => hS b hb).keep hk fun _ _ _ => trivial⟩

set_option maxRecDepth 100000 in
set_option maxHeartbeats 2000000 in
theorem asks_walk (v u : Value) (i : Int) (l : List Ent) (ss : List (List UInt8)) (w : World) (hv : RAny entC w v l) (hu : TRow w u ss) (h0 : -9223372036854775808 ≤ i) (h1 : i ≤ 9223372036854775807) : Calls Try.prog 4 #[v, u, .int .i64 i] w fun e w' => e = .returned (.bool true) ∧ Below w.heap.size w w' := by
  have hmx : Try.prog.follows .mixedOrders = true := by kernel_rfl
  have HF := Lib.hid (few_any (fun b => b < w.heap.size) v l w (RAny.bel hv))
  obtain ⟨L, hL⟩ : ∃ L, l.take 80 = L := ⟨_, rfl⟩
  have hLl : L.length ≤ 80 := by rw [← hL, List.length_take]; exact Nat.min_le_left _ _
  rw [hL] at HF
  have HW := Lib.hid (fun W (hW : Below w.heap.size w W) => awake_any W)
  obtain ⟨p, cap, rfl, _⟩ := hv.shape
  obtain ⟨q, qc, rfl, hq1, hq2⟩ := TIn.shape hu
  unfold maxLen at hq2
  have HU := Lib.hid (show TIn w.heap.size w (.slice q ss.length qc) ss from hu)
  clear hv hu hL
  go_enter Try.func4, Try.ntmps4
  go_wp2_with fail
  refine HF.out.mono ?_
  rintro e w0 ⟨v1, rfl, hv1, rfl⟩
  have HV := Lib.hid (show RBel entC w.heap.size w v1 L from hv1)
  have HE := Lib.hid (renc_any v1 L w (ROn.any hv1))
  obtain ⟨pv, cv, rfl, hv2, hv3, _⟩ := hv1.shape
  clear hv1 HF
  by_cases hA : areD L = true
  · rw [hA, if_pos rfl, if_pos rfl] at HE
    obtain ⟨X, hX⟩ : ∃ X, encD L = X := ⟨_, rfl⟩
    have hXl : X.length ≤ 1000000000 := by
      rw [← hX]
      exact encD_len (l := L) hA
    have hX0 : X.length ≠ 0 := by
      rw [← hX]
      unfold encD
      rw [List.length_append]
      have := (VM.bytesL_length L.length).1
      omega
    have hdec : decD X = some L := by rw [← hX]; exact decD_put hA
    rw [hX] at HE
    have HAA := Lib.hid hA
    clear hA hX
    go_wp2_with fail
    refine HE.out.mono ?_
    rintro e w2 ⟨y, rfl, ho2, hb2⟩
    have hop := open_any y X w2 (OwnB.brow ho2) (by omega)
    rw [hdec] at hop
    obtain ⟨gy, cy, rfl, hgy, hXc, hcm⟩ := ho2.shape hX0
    unfold maxLen at hcm
    have hgy2 : gy < w2.heap.size := (World.ownsRow.lt ho2 gy rfl).2
    have HOP := Lib.hid hop
    have HB2 := Lib.hid hb2
    have HO2 := Lib.hid ho2
    clear ho2 hb2 HE hop hdec
    go_wp2_with fail
    refine HOP.out.mono ?_
    rintro e w3 ⟨p3, rfl, _, hs3, hb3⟩
    obtain ⟨g3, rfl, hda⟩ := hs3 L rfl
    have hB3 := grow2 HB2.out hb3
    have HDA : Hid (DictAt (fun b => w2.heap.size ≤ b) w3 g3 L) := Lib.hid hda
    have HB3 := Lib.hid hB3
    have HO3 := Lib.hid (HO2.out.keep hb3)
    dsimp only [Option.isSome_some, if_true]
    have hsw : w.heap.size ≤ w3.heap.size := hB3.size
    clear hs3 hda hb3 hB3 HOP HB2 HO2
    obtain ⟨NE, hNE⟩ : ∃ k, X.length = k := ⟨_, rfl⟩
    rw [hNE] at hXl hX0 hXc ⊢
    have HOW : Hid (OwnB w.heap.size w3 (.slice (some ⟨gy, 0, none⟩) NE cy) X ∧ X.length = NE) := Lib.hid ⟨by have := HO3.out; rw [hNE] at this; exact this, hNE⟩
    clear HO3
    go_wp2_with fail
    go_loopw [11] (fun iv wr => ∃ (k : Nat) (Z : List UInt8), iv = .int .i64 (k : Int) ∧ k ≤ NE ∧ Hid (OwnB w.heap.size wr (.slice (some ⟨gy, 0, none⟩) NE cy) Z ∧ Z.length = NE) ∧ Hid (Kep (fun b => b ≠ gy) w3 wr)) (fun iv _ => NE - (intOf iv).toNat)
    case atStart => exact ⟨0, X, rfl, Nat.zero_le _, HOW, Lib.hid (Kep.refl _ _)⟩
    case round =>
      obtain ⟨k, Z, rfl, hk, HZ, HK⟩ := hrel
      by_cases hlt : k < NE
      · have q1 : decide ((k : Int) < (NE : Int)) = true := by rw [decide_eq_true_eq]; omega
        have q2 : decide (k < NE) = true := by rw [decide_eq_true_eq]; omega
        have q3 : (k : Int) < (NE : Int) := by omega
        obtain ⟨c, hc⟩ : ∃ c, Z[k]? = some c := ⟨_, List.getElem?_eq_getElem (show k < Z.length by rw [HZ.out.2]; exact hlt)⟩
        have cz := HZ.out.1.cell (j := k) hc
        clear hc
        have fz := HZ.out.1.free k
        have HZ2 : Hid (OwnB w.heap.size (wr.setCell ⟨gy, k, none⟩ (.int .u8 0)) (.slice (some ⟨gy, 0, none⟩) NE cy) (Z.set k 0) ∧ (Z.set k 0).length = NE) := Lib.hid ⟨HZ.out.1.set (j := k) 0, by rw [List.length_set]; exact HZ.out.2⟩
        have HK2 : Hid (Kep (fun b => b ≠ gy) w3 (wr.setCell ⟨gy, k, none⟩ (.int .u8 0))) := Lib.hid (HK.out.trans (kep_set (fun h => h rfl) _))
        clear HZ HK
        go_wp2_with fail
        go_roundw
        case rel => exact ⟨k + 1, Z.set k 0, by go_num, by omega, HZ2, HK2⟩
        case measure => simp [intOf]; omega
      · obtain rfl : k = NE := by omega
        have q1 : decide ((k : Int) < (k : Int)) = false := by simp
        have q2 : decide (k < k) = false := by simp
        generalize wr = W4 at *
        have hB4 : Below w.heap.size w W4 := HB3.out.trans (HK.out.below hsw (fun b hb e => by omega))
        have hDP : DictP (fun _ => True) W4 (some ⟨g3, 0, none⟩) L := opened_kep HDA.out HK.out (fun b hb e => by omega)
        have HB4 := Lib.hid hB4
        have HDP := Lib.hid hDP
        have HV4 : Hid (RAny entC W4 (.slice pv L.length cv) L) := Lib.hid (ROn.any (RBel.below HV.out hB4))
        have HU4 : Hid (TIn w.heap.size W4 (.slice q ss.length qc) ss) := Lib.hid (HU.out.below hB4)
        have hs4 := hB4.size
        have HXL : Hid (∀ x ∈ L, x.1.length ≤ 1000000000000) := Lib.hid (fun x hx => by have := ((good_all HAA.out).1 x hx).1; omega)
        clear hB4 hDP HZ HK HDA HB3 HV HU HOW hlt
        go_wp2_with fail
        go_loopw [12] (fun kv wr => ∃ k : Nat, kv = .int .i64 (k : Int) ∧ k ≤ 30 ∧ k ≤ ss.length ∧ Hid (Below W4.heap.size W4 wr)) (fun kv _ => 30 - (intOf kv).toNat)
        case atStart => exact ⟨0, rfl, by omega, by omega, Lib.hid (Below.refl _ _)⟩
        case round =>
          obtain ⟨j, rfl, hj30, hjs, HBW⟩ := hrel
          by_cases hlt : j < ss.length ∧ j < 30
          · obtain ⟨hl1, hl2⟩ := hlt
            have q1 : decide ((j : Int) < (ss.length : Int)) = true := by rw [decide_eq_true_eq]; omega
            have q2 : decide (j < ss.length) = true := by rw [decide_eq_true_eq]; omega
            have q3 : (j : Int) < (ss.length : Int) := by omega
            have q4 : decide ((j : Int) < 30) = true := by rw [decide_eq_true_eq]; omega
            have q5 : decide (j < 30) = true := by rw [decide_eq_true_eq]; omega
            obtain ⟨bq, oq, rfl, hbq, cq⟩ := (HU4.out.below (HBW.out.mono hs4)).at_ hl1
            obtain ⟨T, hT⟩ : ∃ T, ss[j] = T := ⟨_, rfl⟩
            rw [hT] at cq
            clear hT
            obtain ⟨m, hm⟩ : ∃ m, min T.length 100 = m := ⟨_, rfl⟩
            have hmin1 : min (T.length : Int) 100 = (m : Int) := by omega
            have hmin2 : (if (100 : Int) < (T.length : Int) then (100 : Int) else (T.length : Int)) = (m : Int) := by split <;> omega
            have hTz := str_sz T
            have hhead := text_head T m
            have hmT : (m : Int) ≤ (T.length : Int) := by omega
            have hsl : (T.take m).length ≤ 100 := by rw [List.length_take]; omega
            obtain ⟨s, hs⟩ : ∃ s, T.take m = s := ⟨_, rfl⟩
            rw [hs] at hhead hsl
            have HLT := Lib.hid (And.intro hl1 hl2)
            clear hs hm hl1 hl2
            go_wp2_with fail
            go_quiet (fail)
            go_wp2_with fail
            obtain ⟨w5, hw5⟩ : ∃ W, wr.drewN nq = W := ⟨_, rfl⟩
            have hB5 : Below W4.heap.size W4 w5 := by rw [← hw5]; exact MM.below_drewN HBW.out nq
            rw [hw5]
            have hfind := get_any (some ⟨g3, 0, none⟩) L s w5 (HDP.out.below hB5) HAA.out
            obtain ⟨O, hO⟩ : ∃ O, findD L s = O := ⟨_, rfl⟩
            have HRF := Lib.hid (fun W (hW : Below W4.heap.size W4 W) => rfind_any _ L s W (RAny.below HV4.out hW))
            rw [hO] at hfind HRF
            unfold Found at hfind HRF
            obtain ⟨ok, hok⟩ : ∃ b, O.isSome = b := ⟨_, rfl⟩
            obtain ⟨Y, hY⟩ : ∃ x, O.getD nilX = x := ⟨_, rfl⟩
            rw [hok, hY] at hfind HRF
            have heqY := eq_ent Y Y
            simp only [decide_true] at heqY
            obtain ⟨Y1, y2, y3, y4⟩ := Y
            unfold entV at hfind HRF
            dsimp only at hfind HRF heqY
            have HFD := Lib.hid hfind
            have HB5 := Lib.hid hB5
            clear hw5 hB5 hfind hO hok hY HBW cq
            refine HFD.out.mono ?_
            rintro e w6 ⟨rfl, hb6⟩
            have hB6 := grow2 HB5.out hb6
            obtain ⟨q6, hq6⟩ : ∃ q, w6.heap.size = q := ⟨_, rfl⟩
            obtain ⟨w7, hw7⟩ : ∃ W, w6.alloc (.cells #[.string ⟨Y1.toArray⟩, .int .i64 y2, .int .i64 y3, .int .i64 y4] 42) = W := ⟨_, rfl⟩
            have hb7 : Below w6.heap.size w6 w7 := by rw [← hw7]; exact (Below.refl _ _).alloc (Nat.le_refl _) _
            have F7 : Four w7 q6 42 (.string ⟨Y1.toArray⟩) (.int .i64 y2) (.int .i64 y3) (.int .i64 y4) := by rw [← hw7, ← hq6]; exact four_new w6 42 _ _ _ _
            have hB7 := grow2 hB6 hb7
            have HRF7 := Lib.hid (HRF.out w7 hB7)
            have HF7 := Lib.hid F7
            have HB7 := Lib.hid hB7
            have HW7 := Lib.hid hw7
            clear hb6 hB6 hw7 hb7 F7 hB7 HFD HRF HB5
            go_wp2_with fail
            rw [HW7.out]
            refine HRF7.out.mono ?_
            rintro e w8 ⟨rfl, hb8⟩
            have hB8 := grow2 HB7.out hb8
            obtain ⟨q8, hq8⟩ : ∃ q, w8.heap.size = q := ⟨_, rfl⟩
            have F8 := HF7.out.below hb8 HF7.out.lt
            have hb9 : Below w8.heap.size w8 (w8.alloc (.cells #[.string ⟨Y1.toArray⟩, .int .i64 y2, .int .i64 y3, .int .i64 y4] 42)) := (Below.refl _ _).alloc (Nat.le_refl _) _
            have F9 := F8.below hb9 F8.lt
            have G9 : Four (w8.alloc (.cells #[.string ⟨Y1.toArray⟩, .int .i64 y2, .int .i64 y3, .int .i64 y4] 42)) q8 42 (.string ⟨Y1.toArray⟩) (.int .i64 y2) (.int .i64 y3) (.int .i64 y4) := by rw [← hq8]; exact four_new w8 42 _ _ _ _
            obtain ⟨n0, n1, n2, n3⟩ := F9.cells
            obtain ⟨m0, m1, m2, m3⟩ := G9.cells
            have hB9 := grow2 hB8 hb9
            have heq9 := heqY (w8.alloc (.cells #[.string ⟨Y1.toArray⟩, .int .i64 y2, .int .i64 y3, .int .i64 y4] 42))
            have hoo : (ok != ok) = false := by simp
            have HPR := Lib.hid (prefix_any (some ⟨g3, 0, none⟩) L s _ (HDP.out.below hB9) HAA.out)
            have HB9 := Lib.hid hB9
            clear hb8 hB8 F8 hb9 F9 G9 hB9 heqY HRF7 HF7 HB7 HW7
            go_wp2_with fail
            refine HPR.out.mono ?_
            rintro e w10 ⟨v10, rfl, ho10, hb10⟩
            have hB10 := grow2 HB9.out hb10
            have HRP := Lib.hid (rprefix_any _ L s w10 (RAny.below HV4.out hB10) (by omega) (by omega) HXL.out)
            have HV10 : Hid (RAny entC w10 v10 (prefD L s)) := Lib.hid ho10.any
            have HB10 := Lib.hid hB10
            clear ho10 hb10 hB10 HPR HB9 n0 n1 n2 n3 m0 m1 m2 m3 heq9
            go_wp2_with fail
            refine HRP.out.mono ?_
            rintro e w11 ⟨v11, rfl, ho11, hb11⟩
            have hB11 := grow2 HB10.out hb11
            have hsm := rsame_any v10 v11 _ _ w11 (RAny.below HV10.out hb11) ho11.any
            rw [decide_eq_true rfl] at hsm
            have HSM := Lib.hid hsm
            have HB11 := Lib.hid hB11
            clear ho11 hb11 hB11 hsm HRP HV10 HB10
            go_wp2_with fail
            refine HSM.out.mono ?_
            rintro e w12 ⟨rfl, hb12⟩
            have hB12 := grow2 HB11.out hb12
            have HFL := Lib.hid (floor_any (some ⟨g3, 0, none⟩) L s w12 (HDP.out.below hB12) HAA.out)
            have HB12 := Lib.hid hB12
            have HRL := Lib.hid (fun W (hW : Below W4.heap.size W4 W) => rfloor_any _ L s W (RAny.below HV4.out hW))
            obtain ⟨fl, hfl⟩ : ∃ k, floorD L s = k := ⟨_, rfl⟩
            rw [hfl] at HFL HRL
            clear hb12 hB12 HSM HB11 hfl
            go_wp2_with fail
            refine HFL.out.mono ?_
            rintro e w13 ⟨rfl, _, hb13⟩
            have hB13 := grow2 HB12.out hb13
            have HRL13 := Lib.hid (HRL.out w13 hB13)
            have HB13 := Lib.hid hB13
            have hff : ((fl : Int) != (fl : Int)) = false := by simp
            clear hb13 hB13 HFL HB12 HRL
            go_wp2_with fail
            refine HRL13.out.mono ?_
            rintro e w14 ⟨rfl, rfl⟩
            go_wp2_with fail
            have hlt := HLT.out
            go_roundw
            case rel => exact ⟨j + 1, by go_num, by omega, by omega, HB13⟩
            case measure => simp [intOf]; omega
          · have hat := at_any (some ⟨g3, 0, none⟩) L i wr (HDP.out.below HBW.out) (good_all HAA.out).1 (by omega) h0 h1
            have HVW : Hid (RAny entC wr (.slice pv L.length cv) L) := Lib.hid (RAny.below HV4.out HBW.out)
            have HLEN := Lib.hid (fun W (hW : Below W4.heap.size W4 W) => len_any (some ⟨g3, 0, none⟩) L W (HDP.out.below hW))
            have HWK := Lib.hid (fun W (hW : Below W4.heap.size W4 W) => awake_any W)
            have HAT := Lib.hid hat
            have hx : (j < ss.length ∧ ¬ j < 30) ∨ ¬ j < ss.length := by omega
            clear hat HXL HU4 HW hlt
            rcases hx with hx | hx
            case' inl =>
              have q1 : decide ((j : Int) < (ss.length : Int)) = true := by rw [decide_eq_true_eq]; omega
              have q2 : decide (j < ss.length) = true := by rw [decide_eq_true_eq]; omega
              have q4 : decide ((j : Int) < 30) = false := by rw [decide_eq_false_iff_not]; omega
              have q5 : decide (j < 30) = false := by rw [decide_eq_false_iff_not]; omega
              clear hx
              go_wp2_with fail
            case' inr =>
              have q1 : decide ((j : Int) < (ss.length : Int)) = false := by rw [decide_eq_false_iff_not]; omega
              have q2 : decide (j < ss.length) = false := by rw [decide_eq_false_iff_not]; omega
              clear hx
              go_wp2_with fail
            all_goals
              refine HAT.out.mono ?_
              rintro e w6 ⟨rfl, hb6⟩
              have hB6 := grow2 HBW.out hb6
              obtain ⟨q6, hq6⟩ : ∃ q, w6.heap.size = q := ⟨_, rfl⟩
              by_cases hin : 0 ≤ i ∧ i < (L.length : Int)
              · obtain ⟨k2, rfl⟩ := Int.eq_ofNat_of_zero_le hin.1
                have hk2 : k2 < L.length := by omega
                have hof : atD L (k2 : Int) = some L[k2] := by unfold atD; rw [if_pos hin, Int.toNat_natCast, List.getElem?_eq_getElem hk2]
                rw [hof]
                dsimp only [Option.getD_some, Option.isSome_some]
                have z1 : decide ((k2 : Int) ≥ 0) = true := by rw [decide_eq_true_eq]; omega
                have z2 : decide ((k2 : Int) < (L.length : Int)) = true := by rw [decide_eq_true_eq]; omega
                have z3 : decide (k2 < L.length) = true := by rw [decide_eq_true_eq]; omega
                have z4 : (k2 : Int) < (L.length : Int) := by omega
                obtain ⟨bv, ov, rfl, hbv, _, d0, d1, d2, d3⟩ := ent_at (RAny.below HVW.out hb6) hk2
                obtain ⟨Y, hY⟩ : ∃ Y, L[k2] = Y := ⟨_, rfl⟩
                rw [hY] at d0 d1 d2 d3 ⊢
                have heqY := eq_ent Y Y
                simp only [decide_true] at heqY
                obtain ⟨Y1, y2, y3, y4⟩ := Y
                unfold entV
                dsimp only at heqY d0 d1 d2 d3 ⊢
                obtain ⟨w7, hw7⟩ : ∃ W, w6.alloc (.cells #[.string ⟨Y1.toArray⟩, .int .i64 y2, .int .i64 y3, .int .i64 y4] 42) = W := ⟨_, rfl⟩
                obtain ⟨wd, hwd⟩ : ∃ W, w7.drew = W := ⟨_, rfl⟩
                have hb7 : Below w6.heap.size w6 w7 := by rw [← hw7]; exact (Below.refl _ _).alloc (Nat.le_refl _) _
                have hb7d : Below w7.heap.size w7 wd := by rw [← hwd]; exact (Below.refl _ _).drew
                have hb6d := grow2 hb7 hb7d
                have F7 : Four w7 q6 42 (.string ⟨Y1.toArray⟩) (.int .i64 y2) (.int .i64 y3) (.int .i64 y4) := by rw [← hw7, ← hq6]; exact four_new w6 42 _ _ _ _
                have Fd := F7.below hb7d F7.lt
                have hBd := grow2 hB6 hb6d
                have hsd := hb6d.size
                have f0 := fun W (hW : Kep (fun _ => True) wd W) => (Fd.keep hW trivial).c0
                have f1 := fun W (hW : Kep (fun _ => True) wd W) => (Fd.keep hW trivial).c1
                have f2 := fun W (hW : Kep (fun _ => True) wd W) => (Fd.keep hW trivial).c2
                have f3 := fun W (hW : Kep (fun _ => True) wd W) => (Fd.keep hW trivial).c3
                have g0 := fun W (hW : Kep (fun _ => True) wd W) => (hW.cell (by omega) trivial _).trans ((hb6d.cell (p := ⟨bv, _, none⟩) hbv).trans d0)
                have g1 := fun W (hW : Kep (fun _ => True) wd W) => (hW.cell (by omega) trivial _).trans ((hb6d.cell (p := ⟨bv, _, none⟩) hbv).trans d1)
                have g2 := fun W (hW : Kep (fun _ => True) wd W) => (hW.cell (by omega) trivial _).trans ((hb6d.cell (p := ⟨bv, _, none⟩) hbv).trans d2)
                have g3' := fun W (hW : Kep (fun _ => True) wd W) => (hW.cell (by omega) trivial _).trans ((hb6d.cell (p := ⟨bv, _, none⟩) hbv).trans d3)
                have HFG := Lib.hid (And.intro f0 (And.intro f1 (And.intro f2 (And.intro f3 (And.intro g0 (And.intro g1 (And.intro g2 g3')))))))
                have HW7 := Lib.hid hw7
                have HWD := Lib.hid hwd
                have HBd := Lib.hid hBd
                have HEQ := Lib.hid heqY
                have HL7 := Lib.hid (HLEN.out wd hBd)
                clear hw7 hwd hb7 hb7d hb6d F7 Fd hBd f0 f1 f2 f3 g0 g1 g2 g3' d0 d1 d2 d3 hb6 hB6 hof hY heqY HAT HBW HVW HLEN hk2 hin
                go_wp2_with fail
                refine RK.begin_ (T := fun _ => True) [(0, true), (1, true), (2, true), (3, true), (4, true), (5, true), (6, true), (7, true), (8, true), (9, true), (10, true), (12, true), (13, true), (11, false), (14, true), (15, true), (16, true), (17, false), (18, true), (19, true)] (by kernel_rfl) (by kernel_rfl) rfl (by kernel_rfl) (fun _ _ d _ _ h => by cases d <;> exact h) ?_
                simp only [RK.ordered, List.map_cons, List.map_nil, List.getElem?_toArray, List.getElem?_cons_succ, List.getElem?_cons_zero]
                rw [HW7.out, HWD.out]
                obtain ⟨f0, f1, f2, f3, g0, g1, g2, g3'⟩ := HFG.out
                have heqY := HEQ.out
                repeat ((first | (refine RK.take (by rfl) (by intro W hW; go_simp; with_reducible rfl) ?_)); simp only [Act.put, List.setIfInBounds_toArray, List.set_cons_zero, List.set_cons_succ])
                refine RK.alone (by rfl) (fun K hK => ?_)
                go_simp
                refine HL7.out.mono ?_
                rintro e w8 ⟨rfl, rfl⟩
                go_simp
                refine hK.out _ _ (Kep.refl _ _) ?_
                clear hK K
                have hLL : ((L.length : Int) == (L.length : Int)) = true := by simp
                repeat ((first | (refine RK.take (by rfl) (by intro W hW; go_simp; with_reducible rfl) ?_)); simp only [Act.put, List.setIfInBounds_toArray, List.set_cons_zero, List.set_cons_succ])
                refine RK.alone (by rfl) (fun K hK => ?_)
                go_simp
                refine (HWK.out _ HBd.out).mono ?_
                rintro e w9 ⟨rfl, hb9⟩
                go_simp
                refine hK.out _ _ (kep_below _ hb9) ?_
                clear hK K
                have HB9 := Lib.hid (grow2 HB4.out (grow2 HBd.out hb9))
                clear hb9
                repeat ((first | (refine RK.take (by rfl) (by intro W hW; go_simp; with_reducible rfl) ?_)); simp only [Act.put, List.setIfInBounds_toArray, List.set_cons_zero, List.set_cons_succ])
                refine RK.done ?_
                clear f0 f1 f2 f3 g0 g1 g2 g3' heqY
                go_wp2_with fail
                go_ret
                exact ⟨rfl, HB9.out⟩
              · have hof : atD L i = none := by unfold atD; rw [if_neg hin]
                rw [hof]
                dsimp only [Option.getD_none, Option.isSome_none]
                have heqY := eq_ent nilX nilX
                simp only [decide_true] at heqY
                unfold nilX at heqY
                unfold entV nilX
                dsimp only at heqY ⊢
                have hb7 : Below w6.heap.size w6 (w6.alloc (.cells #[.string ⟨#[]⟩, .int .i64 0, .int .i64 0, .int .i64 0] 42)) := (Below.refl _ _).alloc (Nat.le_refl _) _
                have F7 : Four (w6.alloc (.cells #[.string ⟨#[]⟩, .int .i64 0, .int .i64 0, .int .i64 0] 42)) q6 42 (.string ⟨#[]⟩) (.int .i64 0) (.int .i64 0) (.int .i64 0) := by rw [← hq6]; exact four_new w6 42 _ _ _ _
                obtain ⟨n0, n1, n2, n3⟩ := F7.cells
                have hB7 := grow2 hB6 hb7
                have heq7 := heqY (w6.alloc (.cells #[.string ⟨#[]⟩, .int .i64 0, .int .i64 0, .int .i64 0] 42))
                have HL7 := Lib.hid (HLEN.out _ hB7)
                have HK7 := Lib.hid (HWK.out _ hB7)
                have HB7 := Lib.hid (grow2 HB4.out hB7)
                have hLL : ((L.length : Int) == (L.length : Int)) = true := by simp
                have hz : (i < 0) ∨ (0 ≤ i ∧ (L.length : Int) ≤ i) := by omega
                clear hb7 F7 hB7 heqY hb6 hB6 hof HAT HBW HVW HLEN hin HWK
                rcases hz with hz | hz
                case' inl =>
                  have z1 : decide (i ≥ 0) = false := by rw [decide_eq_false_iff_not]; omega
                  have z2 : decide (0 ≤ i) = false := by rw [decide_eq_false_iff_not]; omega
                  clear hz
                  go_wp2_with fail
                case' inr =>
                  have z1 : decide (i ≥ 0) = true := by rw [decide_eq_true_eq]; omega
                  have z2 : decide (0 ≤ i) = true := by rw [decide_eq_true_eq]; omega
                  have z3 : decide (i < (L.length : Int)) = false := by rw [decide_eq_false_iff_not]; omega
                  clear hz
                  go_wp2_with fail
                all_goals
                  refine HL7.out.mono ?_
                  rintro e w8 ⟨rfl, rfl⟩
                  go_wp2_with fail
                  refine HK7.out.mono ?_
                  rintro e w9 ⟨rfl, hb9⟩
                  have HB9 := Lib.hid (grow2 HB7.out hb9)
                  clear hb9 HL7 HK7 HB7
                  go_wp2_with fail
                  go_ret
                  exact ⟨rfl, HB9.out⟩
  · rw [if_neg hA, if_neg hA] at HE
    clear hA
    go_wp2_with fail
    refine HE.out.mono ?_
    rintro e w2 ⟨y, rfl, ho2, hb2⟩
    have HB2 := Lib.hid hb2
    have HW2 := Lib.hid (HW.out w2 hb2)
    clear ho2 hb2 HE HW
    go_wp2_with fail
    refine HW2.out.mono ?_
    rintro e w5 ⟨rfl, hb5⟩
    have HB5 := Lib.hid (grow2 HB2.out hb5)
    clear hb5 HW2 HB2
    go_wp2_with fail
    go_ret
    exact ⟨rfl, HB5.out⟩
end Go.Proofs.Ytklngjnjnkocmaa.DT
