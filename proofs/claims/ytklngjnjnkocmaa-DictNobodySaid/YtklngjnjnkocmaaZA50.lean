/-
  The law DictBytes returns true: what is encoded, and what is decoded, the code tells as the reference does. No condition. The law DictBack returns true: there and back. No condition.
-/
import Derived.Test.YtklngjnjnkocmaaZA47
import Derived.Test.YtklngjnjnkocmaaZA12
import Derived.Test.YtklngjnjnkocmaaZA48
import Derived.Test.YtklngjnjnkocmaaZA49
set_option linter.unusedVariables false
namespace Go.Proofs.Ytklngjnjnkocmaa.DT
open Go Go.RowKit Go.Proofs.Ytklngjnjnkocmaa.MM Go.Proofs.Ytklngjnjnkocmaa.DM
open Go.Proofs.Ytklngjnjnkocmaa.EM (lessL)

set_option maxRecDepth 100000 in
set_option maxHeartbeats 1000000 in
theorem bytes_walk (v u : Value) (l : List Ent) (b : List UInt8) (w : World) (hv : RAny entC w v l) (hu : BRow w u b) : Calls Try.prog 3 #[v, u] w fun e w' => e = .returned (.bool true) ∧ Below w.heap.size w w' := by
  have HF := Lib.hid (few_any (fun _ => True) v l w hv)
  have HC := Lib.hid (lcut_any w.heap.size u b w hu)
  obtain ⟨L, hL⟩ : ∃ L, l.take 80 = L := ⟨_, rfl⟩
  obtain ⟨bs, hbs⟩ : ∃ x, b.take 4000 = x := ⟨_, rfl⟩
  have hbl : bs.length ≤ 4000 := by rw [← hbs, List.length_take]; exact Nat.min_le_left _ _
  rw [hL] at HF
  rw [hbs] at HC
  have HW := Lib.hid (fun W (hW : Below w.heap.size w W) => awake_any W)
  obtain ⟨p, cap, rfl, _⟩ := hv.shape
  obtain ⟨q, qc, rfl, _⟩ := BIn.shape hu
  clear hv hu hL hbs
  go_enter Try.func3, Try.ntmps3
  go_wp2_with fail
  refine HF.out.mono ?_
  rintro e w0 ⟨v1, rfl, hv1, rfl⟩
  have HV := Lib.hid (show RAny entC w v1 L from hv1)
  clear hv1 HF
  go_wp2_with fail
  refine HC.out.mono ?_
  rintro e w0 ⟨u1, rfl, hu1, rfl⟩
  have HU := Lib.hid hu1
  clear hu1 HC
  obtain ⟨EB, hEB⟩ : ∃ x, (if areD L then encD L else []) = x := ⟨_, rfl⟩
  obtain ⟨EC, hEC⟩ : ∃ x : Int, (if areD L then 0 else 110) = x := ⟨_, rfl⟩
  have HE := Lib.hid (enc_any v1 L w HV.out)
  have HR := Lib.hid (fun W (hW : Below w.heap.size w W) => renc_any v1 L W (HV.out.below hW))
  rw [hEB, hEC] at HE HR
  have HO := Lib.hid (fun W (hW : Below w.heap.size w W) => open_any u1 bs W (BIn.mono (HU.out.below hW) hW.size) (by omega))
  have HD := Lib.hid (fun W (hW : Below w.heap.size w W) => rdec_any u1 bs W (BIn.mono (HU.out.below hW) hW.size))
  obtain ⟨D, hD⟩ : ∃ D, decD bs = D := ⟨_, rfl⟩
  rw [hD] at HO HD
  have HG := Lib.hid (fun l2 (h : D = some l2) => (decD_back (hD.trans h)).1)
  clear hEB hEC hD
  go_wp2_with fail
  refine HE.out.mono ?_
  rintro e w1 ⟨x1, rfl, ho1, hb1⟩
  have HR1 := Lib.hid (HR.out w1 hb1)
  have HX1 := Lib.hid (OwnB.brow ho1)
  have HB1 := Lib.hid hb1
  clear ho1 hb1 HE HR
  go_wp2_with fail
  refine HR1.out.mono ?_
  rintro e w2 ⟨y1, rfl, ho2, hb2⟩
  have hb02 := grow2 HB1.out hb2
  have HY2 := Lib.hid (OwnB.brow ho2)
  have HX2 : Hid (BRow w2 x1 EB) := Lib.hid (BIn.mono (BIn.below HX1.out hb2) hb2.size)
  have HO2 := Lib.hid (HO.out w2 hb02)
  have HB2 := Lib.hid hb02
  clear ho2 hb2 hb02 HR1 HX1 HB1 HO
  go_wp2_with fail
  refine HO2.out.mono ?_
  rintro e w3 ⟨p3, rfl, hn3, hs3, hb3⟩
  have hb03 := grow2 HB2.out hb3
  have HS23 : Hid (w2.heap.size ≤ w3.heap.size) := Lib.hid hb3.size
  have HD3 := Lib.hid (HD.out w3 hb03)
  have HY3 := Lib.hid (BIn.below HY2.out hb3)
  have HX3 := Lib.hid (BIn.below HX2.out hb3)
  have HN3 := Lib.hid hn3
  have HS3 := Lib.hid hs3
  have HB3 := Lib.hid hb03
  clear hb3 hb03 hn3 hs3 HO2 HB2 HY2 HX2 HD
  cases D with
  | none =>
    obtain rfl := HN3.out rfl
    dsimp only [Option.isSome_none]
    go_wp2_with fail
    refine HD3.out.mono ?_
    rintro e w4 ⟨r4, rfl, _, hb4⟩
    have hb24 : Below w2.heap.size w3 w4 := hb4.mono HS23.out
    have hx4 := (BIn.below HX3.out hb24).conv
    have hy4 := (BIn.below HY3.out hb24).conv
    obtain ⟨px, cx, rfl, _⟩ := (BIn.below HX3.out hb24).shape
    obtain ⟨py, cy, rfl, _⟩ := (BIn.below HY3.out hb24).shape
    have hee : (EB != EB) = false := by simp
    have HB4 := Lib.hid (grow2 HB3.out hb4)
    have HW4 := Lib.hid (HW.out w4 HB4.out)
    dsimp only [Option.isSome_none]
    clear hb4 hb24 HD3 HX3 HY3 HB3 HN3 HS3 HW
    go_wp2_with fail
    refine HW4.out.mono ?_
    rintro e w5 ⟨rfl, hb5⟩
    have HB5 := Lib.hid (grow2 HB4.out hb5)
    clear hb5 HW4 HB4
    go_wp2_with fail
    go_ret
    exact ⟨rfl, HB5.out⟩
  | some l2 =>
    obtain ⟨g3, rfl, hda⟩ := HS3.out l2 rfl
    have HG2 := Lib.hid HG.out
    dsimp only [Option.isSome_some, if_true]
    have hdp := opened hda
    have HDP := Lib.hid hdp
    clear hda hdp
    go_wp2_with fail
    refine HD3.out.mono ?_
    rintro e w4 ⟨r4, rfl, ho4, hb4⟩
    have hb24 : Below w2.heap.size w3 w4 := hb4.mono HS23.out
    have hx4 := (BIn.below HX3.out hb24).conv
    have hy4 := (BIn.below HY3.out hb24).conv
    obtain ⟨px, cx, rfl, _⟩ := (BIn.below HX3.out hb24).shape
    obtain ⟨py, cy, rfl, _⟩ := (BIn.below HY3.out hb24).shape
    have hee : (EB != EB) = false := by simp
    have HB4 := Lib.hid (grow2 HB3.out hb4)
    have HA4 := Lib.hid (all_any (some ⟨g3, 0, none⟩) l2 w4 (HDP.out.below hb4) (HG2.out l2 rfl))
    have HR4 : Hid (RAny entC w4 r4 l2) := Lib.hid ho4.any
    dsimp only [Option.isSome_some, if_true]
    clear hb4 hb24 HD3 HX3 HY3 HB3 HN3 HS3 ho4 HDP HG HG2
    go_wp2_with fail
    refine HA4.out.mono ?_
    rintro e w5 ⟨v5, rfl, ho5, hb5⟩
    have HSM := Lib.hid (rsame_any v5 r4 l2 l2 w5 ho5.any (RAny.below HR4.out hb5))
    rw [decide_eq_true rfl] at HSM
    have HB5 := Lib.hid (grow2 HB4.out hb5)
    clear ho5 hb5 HA4 HR4 HB4
    go_wp2_with fail
    refine HSM.out.mono ?_
    rintro e w6 ⟨rfl, hb6⟩
    have HB6 := Lib.hid (grow2 HB5.out hb6)
    have HW6 := Lib.hid (HW.out w6 HB6.out)
    clear hb6 HSM HB5 HW
    go_wp2_with fail
    refine HW6.out.mono ?_
    rintro e w7 ⟨rfl, hb7⟩
    have HB7 := Lib.hid (grow2 HB6.out hb7)
    clear hb7 HW6 HB6
    go_wp2_with fail
    go_ret
    exact ⟨rfl, HB7.out⟩
end Go.Proofs.Ytklngjnjnkocmaa.DT
set_option linter.unusedVariables false
namespace Go.Proofs.Ytklngjnjnkocmaa.DT
open Go Go.RowKit Go.Proofs.Ytklngjnjnkocmaa.MM Go.Proofs.Ytklngjnjnkocmaa.DM
open Go.Proofs.Ytklngjnjnkocmaa.EM (lessL)

set_option maxRecDepth 100000 in
set_option maxHeartbeats 1000000 in
theorem back_walk (v u : Value) (l : List Ent) (b : List UInt8) (w : World) (hv : RAny entC w v l) (hu : BRow w u b) : Calls Try.prog 5 #[v, u] w fun e w' => e = .returned (.bool true) ∧ Below w.heap.size w w' := by
  have HF := Lib.hid (few_any (fun _ => True) v l w hv)
  have HC := Lib.hid (lcut_any w.heap.size u b w hu)
  obtain ⟨L, hL⟩ : ∃ L, l.take 80 = L := ⟨_, rfl⟩
  obtain ⟨bs, hbs⟩ : ∃ x, b.take 4000 = x := ⟨_, rfl⟩
  have hbl : bs.length ≤ 4000 := by rw [← hbs, List.length_take]; exact Nat.min_le_left _ _
  have hLl : L.length ≤ 80 := by rw [← hL, List.length_take]; exact Nat.min_le_left _ _
  rw [hL] at HF
  rw [hbs] at HC
  have HW := Lib.hid (fun W (hW : Below w.heap.size w W) => awake_any W)
  obtain ⟨p, cap, rfl, _⟩ := hv.shape
  obtain ⟨q, qc, rfl, _⟩ := BIn.shape hu
  clear hv hu hL hbs
  go_enter Try.func5, Try.ntmps5
  go_wp2_with fail
  refine HF.out.mono ?_
  rintro e w0 ⟨v1, rfl, hv1, rfl⟩
  have HV := Lib.hid (show RAny entC w v1 L from hv1)
  clear hv1 HF
  go_wp2_with fail
  refine HC.out.mono ?_
  rintro e w0 ⟨u1, rfl, hu1, rfl⟩
  have HU := Lib.hid hu1
  clear hu1 HC
  have HE := Lib.hid (enc_any v1 L w HV.out)
  obtain ⟨D, hD⟩ : ∃ D, decD bs = D := ⟨_, rfl⟩
  have HO := Lib.hid (fun W (hW : Below w.heap.size w W) => open_any u1 bs W (BIn.mono (HU.out.below hW) hW.size) (by omega))
  rw [hD] at HO
  have HG := Lib.hid (fun l2 (h : D = some l2) => decD_back (hD.trans h))
  clear hD
  rcases Classical.em (areD L = true) with hA | hA
  case' inl =>
    rw [hA, if_pos rfl, if_pos rfl] at HE
    obtain ⟨X, hX⟩ : ∃ X, encD L = X := ⟨_, rfl⟩
    have hXl : X.length ≤ 1000000000 := by
      rw [← hX]
      have := encD_len (l := L) hA
      omega
    have hdec : decD X = some L := by rw [← hX]; exact decD_put hA
    rw [hX] at HE
    have HAA := Lib.hid hA
    clear hA hX
    go_wp2_with fail
    refine HE.out.mono ?_
    rintro e w1 ⟨x1, rfl, ho1, hb1⟩
    have hop := open_any x1 X w1 (OwnB.brow ho1) (by omega)
    rw [hdec] at hop
    have HOP := Lib.hid hop
    have HB1 := Lib.hid hb1
    clear ho1 hb1 HE hop hdec
    go_wp2_with fail
    refine HOP.out.mono ?_
    rintro e w2 ⟨p2, rfl, _, hs2, hb2⟩
    obtain ⟨g2, rfl, hda⟩ := hs2 L rfl
    have hB2 := grow2 HB1.out hb2
    have HALL := Lib.hid (all_any (some ⟨g2, 0, none⟩) L w2 (opened hda) HAA.out)
    have HB2 := Lib.hid hB2
    have HV2 := Lib.hid (HV.out.below hB2)
    dsimp only [Option.isSome_some, if_true]
    clear hs2 hda hb2 hB2 HOP HB1
    go_wp2_with fail
    refine HALL.out.mono ?_
    rintro e w3 ⟨v3, rfl, ho3, hb3⟩
    have hsm := rsame_any v3 v1 L L w3 ho3.any (HV2.out.below hb3)
    rw [decide_eq_true rfl] at hsm
    have HSM := Lib.hid hsm
    have HB3 := Lib.hid (grow2 HB2.out hb3)
    clear hsm ho3 hb3 HALL HB2 HV2
    go_wp2_with fail
    refine HSM.out.mono ?_
    rintro e w5 ⟨rfl, hb5⟩
    have HB5 := Lib.hid (grow2 HB3.out hb5)
    clear hb5 HSM HB3 HAA
  case' inr =>
    rw [if_neg hA, if_neg hA] at HE
    clear hA
    go_wp2_with fail
    refine HE.out.mono ?_
    rintro e w5 ⟨x1, rfl, ho1, hb1⟩
    have HB5 := Lib.hid hb1
    clear ho1 hb1 HE
  all_goals
    have HO5 := Lib.hid (HO.out w5 HB5.out)
    have HU5 := Lib.hid (BIn.below HU.out HB5.out)
    clear HO HU HV
    go_wp2_with fail
    refine HO5.out.mono ?_
    rintro e w6 ⟨p6, rfl, hn6, hs6, hb6⟩
    have HB6 := Lib.hid (grow2 HB5.out hb6)
    have HU6 : Hid (BIn w.heap.size w6 u1 bs) := Lib.hid (HU5.out.below (hb6.mono HB5.out.size))
    cases D with
    | none =>
      obtain rfl := hn6 rfl
      have HW6 := Lib.hid (HW.out w6 HB6.out)
      dsimp only [Option.isSome_none]
      clear hn6 hs6 hb6 HO5 HB5 HU5 HW HU6
      go_wp2_with fail
      refine HW6.out.mono ?_
      rintro e w7 ⟨rfl, hb7⟩
      have HB7 := Lib.hid (grow2 HB6.out hb7)
      clear hb7 HW6 HB6
      go_wp2_with fail
      go_ret
      exact ⟨rfl, HB7.out⟩
    | some l2 =>
      obtain ⟨g6, rfl, hda⟩ := hs6 l2 rfl
      obtain ⟨hg1, hg2⟩ := HG.out l2 rfl
      have HALL := Lib.hid (all_any (some ⟨g6, 0, none⟩) l2 w6 (opened hda) hg1)
      have HENC := Lib.hid (fun v W (h : RAny entC W v l2) => enc_any v l2 W h)
      rw [hg1, if_pos rfl, if_pos rfl, hg2] at HENC
      dsimp only [Option.isSome_some, if_true]
      clear hn6 hs6 hb6 hda HO5 HB5 HU5 hg1 hg2 HG
      go_wp2_with fail
      refine HALL.out.mono ?_
      rintro e w7 ⟨v7, rfl, ho7, hb7⟩
      have HE7 := Lib.hid (HENC.out v7 w7 ho7.any)
      have HB7 := Lib.hid (grow2 HB6.out hb7)
      have HU7 : Hid (BIn w.heap.size w7 u1 bs) := Lib.hid (HU6.out.below (hb7.mono HB6.out.size))
      clear ho7 hb7 HALL HENC HB6 HU6
      go_wp2_with fail
      refine HE7.out.mono ?_
      rintro e w8 ⟨x8, rfl, ho8, hb8⟩
      have HB8 := Lib.hid (grow2 HB7.out hb8)
      have hx8 := (OwnB.brow ho8).conv
      have hu8 : BIn w.heap.size w8 u1 bs := HU7.out.below (hb8.mono HB7.out.size)
      have hy8 := hu8.conv
      obtain ⟨px, cx, rfl, _⟩ := (OwnB.brow ho8).shape
      obtain ⟨py, cy, rfl, _⟩ := hu8.shape
      have hee : (bs == bs) = true := by simp
      have HW8 := Lib.hid (HW.out w8 HB8.out)
      clear ho8 hb8 hu8 HE7 HB7 HU7 HW
      go_wp2_with fail
      refine HW8.out.mono ?_
      rintro e w9 ⟨rfl, hb9⟩
      have HB9 := Lib.hid (grow2 HB8.out hb9)
      clear hb9 HW8 HB8
      go_wp2_with fail
      go_ret
      exact ⟨rfl, HB9.out⟩
end Go.Proofs.Ytklngjnjnkocmaa.DT
